package mutate_test

import (
	"slices"

	"dustcart/api"
	"dustcart/heap"
)

func within(i, n int) bool {
	return i >= 0 && i < n
}

// usesB tells whether acts of a kind use slot B.
func usesB(kind int) bool {
	return slices.Contains([]int{1, 2, 5, 7}, kind)
}

// plain does acts as the chapter says, error by error, however slowly.
type plain struct {
	world
	mutator int
	a       api.Act
}

func (p plain) at(i int) int {
	addr, _ := p.r.Get(slot(p.mutator, i))
	return addr
}

// subject is the slot that must not be empty, if there is one.
func (p plain) subject() (int, bool) {
	switch p.a.Kind {
	case 1:
		return p.at(p.a.B), true
	case 2, 3, 4, 11:
		return p.at(p.a.A), true
	}
	return 0, false
}

func (p plain) broken(addr int) bool {
	return addr != 0 && !slices.Contains(p.h.All(), addr)
}

// indexes tells how many numbers I may be, from 0 on.
func (p plain) indexes() (int, bool) {
	addr, _ := p.subject()
	s, _ := p.h.Shape(addr)
	switch p.a.Kind {
	case 1, 2:
		return s.Refs, true
	case 3, 4:
		return s.Data, true
	case 9, 10:
		return 16, true
	}
	return 0, false
}

// check returns the first error of the chapter that applies.
func (p plain) check() api.Errno {
	a := p.a
	for _, rule := range []struct {
		e       api.Errno
		applies func() bool
	}{
		{api.ErrArg, func() bool { return !within(p.mutator, p.r.Mutators()) || !within(a.Kind, 12) }},
		{api.ErrArg, func() bool { return !within(a.A, 16) || usesB(a.Kind) && !within(a.B, 16) }},
		{api.ErrForm, func() bool { return a.Kind == 0 && !heap.Valid(a.Shape) }},
		{api.ErrNil, func() bool { addr, must := p.subject(); return must && addr == 0 }},
		{api.ErrState, func() bool { addr, must := p.subject(); return must && p.broken(addr) }},
		{api.ErrState, func() bool { return a.Kind == 2 && p.broken(p.at(a.B)) }},
		{api.ErrState, func() bool { return a.Kind == 8 && p.broken(p.at(a.A)) }},
		{api.ErrArg, func() bool { n, must := p.indexes(); return must && !within(a.I, n) }},
		{api.ErrState, func() bool { ref, _ := p.h.Ref(p.at(a.B), a.I); return a.Kind == 1 && ref < 0 }},
		{api.ErrFull, func() bool { _, e := p.clone().a.Alloc(a.Shape); return a.Kind == 0 && e == api.ErrFull }},
	} {
		if rule.applies() {
			return rule.e
		}
	}
	return api.OK
}

// becomes lets slot A be an address.
func (p plain) becomes(addr int) int {
	p.set(slot(p.mutator, p.a.A), addr)
	return addr
}

func (p plain) do() (f api.Effect, e api.Errno) {
	if e := p.check(); e != api.OK {
		return api.Effect{}, e
	}
	a := p.a
	inA, inB := p.at(a.A), p.at(a.B)
	s, _ := p.h.Shape(inA)
	switch a.Kind {
	case 0:
		addr, _ := p.world.a.Alloc(a.Shape)
		f.Made = p.becomes(addr)
	case 1:
		ref, _ := p.h.Word(inB + 2 + a.I)
		f.Loaded = p.becomes(ref)
	case 2:
		f.Object, f.I, f.New = inA, a.I, inB
		f.Old, _ = p.h.Word(inA + 2 + a.I)
		p.poke(inA+2+a.I, inB)
	case 3:
		p.poke(inA+2+s.Refs+a.I, a.N)
	case 4:
		v, _ := p.h.Word(inA + 2 + s.Refs + a.I)
		f.Told = []int{v}
	case 5:
		f.Loaded = p.becomes(inB)
	case 6:
		p.becomes(0)
	case 7:
		f.Told = []int{map[bool]int{true: 1}[inA == inB]}
	case 8:
		f.Told = []int{p.ident(inA)}
	case 9:
		p.set(global(a.I), inA)
	case 10:
		addr, _ := p.r.Get(global(a.I))
		f.Loaded = p.becomes(addr)
	case 11:
		f.Told = []int{s.Refs, s.Data, s.Kind}
	}
	return f, api.OK
}

// told is what heap and roots have of that by which they are held against the model, as text.
func (w world) told() []string {
	var list []string
	for mutator := range w.r.Mutators() {
		for i := range 16 {
			addr, _ := w.r.Get(slot(mutator, i))
			list = append(list, line("slot ", mutator, i, ": ", w.ident(addr)))
		}
	}
	for i := range 16 {
		addr, _ := w.r.Get(global(i))
		list = append(list, line("global ", i, ": ", w.ident(addr)))
	}
	for _, addr := range w.r.Queue() {
		list = append(list, line("queue: ", w.ident(addr)))
	}
	for _, n := range w.m.Kept() {
		addr, e := w.h.At(n)
		s, _ := w.h.Shape(addr)
		list = append(list, line("object ", n, ": error ", int(e), ", shape ", s))
		for i := range s.Refs {
			to, _ := w.h.Ref(addr, i)
			list = append(list, line("reference ", i, ": ", w.ident(to)))
		}
		for i := range s.Data {
			v, _ := w.h.Data(addr, i)
			list = append(list, line("data word ", i, ": ", v))
		}
	}
	return list
}

// modelled is the same of the model.
func (w world) modelled() []string {
	var list []string
	for mutator := range w.m.Mutators() {
		for i := range 16 {
			n, _ := w.m.Slot(mutator, i)
			list = append(list, line("slot ", mutator, i, ": ", n))
		}
	}
	for i := range 16 {
		n, _ := w.m.Global(i)
		list = append(list, line("global ", i, ": ", n))
	}
	for _, n := range w.m.Queue() {
		list = append(list, line("queue: ", n))
	}
	for _, n := range w.m.Kept() {
		s, e := w.m.Shape(n)
		list = append(list, line("object ", n, ": error ", int(e), ", shape ", s))
		for i := range s.Refs {
			to, _ := w.m.Ref(n, i)
			list = append(list, line("reference ", i, ": ", to))
		}
		for i := range s.Data {
			v, _ := w.m.Data(n, i)
			list = append(list, line("data word ", i, ": ", v))
		}
	}
	return list
}
