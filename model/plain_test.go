package model_test

import (
	"slices"

	"dustcart/api"
)

// keeper is what the models under test and the plain one have in common: the same is done with both, and what they tell is compared.
type keeper interface {
	Do(mutator int, a api.Act) (api.Effect, api.Errno)
	Kept() []int
	Collect() int
	Push(ident int) api.Errno
	Pop() (int, api.Errno)
	Queue() []int
	Slot(mutator, i int) (int, api.Errno)
	Global(i int) (int, api.Errno)
	Shape(ident int) (api.Shape, api.Errno)
	Ref(ident, i int) (int, api.Errno)
	Data(ident, i int) (int, api.Errno)
	SetRef(ident, i, to int) api.Errno
	Births() int
	Mutators() int
}

// thing is an object of the plain model.
type thing struct {
	shape      api.Shape
	refs, data []int
}

// plain does what the chapter says, word by word, however slowly.
type plain struct {
	slots   [][]int
	globals []int
	queue   []int
	things  []thing
}

func newPlain(mutators int) *plain {
	p := &plain{globals: make([]int, 16)}
	for range mutators {
		p.slots = append(p.slots, make([]int, 16))
	}
	return p
}

func (p *plain) clone() *plain {
	c := &plain{globals: slices.Clone(p.globals), queue: slices.Clone(p.queue)}
	for _, row := range p.slots {
		c.slots = append(c.slots, slices.Clone(row))
	}
	for _, o := range p.things {
		c.things = append(c.things, thing{o.shape, slices.Clone(o.refs), slices.Clone(o.data)})
	}
	return c
}

// valid is what the document calls a valid shape.
func valid(s api.Shape) bool {
	if s.Refs < 0 || s.Refs > 15 || s.Data < 0 || s.Data > 200 {
		return false
	}
	switch s.Kind {
	case 0, 3:
		return true
	case 1:
		return s.Refs > 0
	case 2:
		return s.Refs > 1
	}
	return false
}

func within(i, n int) bool {
	return i >= 0 && i < n
}

// usesB tells whether acts of a kind use slot B.
func usesB(kind int) bool {
	return slices.Contains([]int{1, 2, 5, 7}, kind)
}

// object returns the identity in the slot that must not be empty, and whether there is such a slot.
func (p *plain) object(slots []int, a api.Act) (int, bool) {
	switch a.Kind {
	case 1:
		return slots[a.B], true
	case 2, 3, 4, 11:
		return slots[a.A], true
	}
	return 0, false
}

// indexes returns how many numbers I may be, from 0 on; -1: it may be any.
func (p *plain) indexes(slots []int, a api.Act) int {
	ident, _ := p.object(slots, a)
	switch a.Kind {
	case 1, 2:
		return len(p.things[ident-1].refs)
	case 3, 4:
		return len(p.things[ident-1].data)
	case 9, 10:
		return 16
	}
	return -1
}

func (p *plain) check(mutator int, a api.Act) api.Errno {
	if !within(mutator, len(p.slots)) || !within(a.Kind, 12) {
		return api.ErrArg
	}
	if !within(a.A, 16) || usesB(a.Kind) && !within(a.B, 16) {
		return api.ErrArg
	}
	if a.Kind == 0 && !valid(a.Shape) {
		return api.ErrForm
	}
	if ident, must := p.object(p.slots[mutator], a); must && ident == 0 {
		return api.ErrNil
	}
	if n := p.indexes(p.slots[mutator], a); n >= 0 && !within(a.I, n) {
		return api.ErrArg
	}
	return api.OK
}

func (p *plain) Do(mutator int, a api.Act) (api.Effect, api.Errno) {
	var f api.Effect
	if e := p.check(mutator, a); e != api.OK {
		return f, e
	}
	slots := p.slots[mutator]
	ident, must := p.object(slots, a)
	var o thing
	if must {
		o = p.things[ident-1]
	}
	switch a.Kind {
	case 0:
		p.things = append(p.things, thing{a.Shape, make([]int, a.Shape.Refs), make([]int, a.Shape.Data)})
		f.Made = len(p.things)
		slots[a.A] = f.Made
	case 1:
		f.Loaded = o.refs[a.I]
		slots[a.A] = f.Loaded
	case 2:
		f = api.Effect{Object: ident, I: a.I, Old: o.refs[a.I], New: slots[a.B]}
		o.refs[a.I] = f.New
	case 3:
		o.data[a.I] = a.N
	case 4:
		f.Told = []int{o.data[a.I]}
	case 5:
		f.Loaded = slots[a.B]
		slots[a.A] = f.Loaded
	case 6:
		slots[a.A] = 0
	case 7:
		f.Told = []int{0}
		if slots[a.A] == slots[a.B] {
			f.Told[0] = 1
		}
	case 8:
		f.Told = []int{slots[a.A]}
	case 9:
		p.globals[a.I] = slots[a.A]
	case 10:
		f.Loaded = p.globals[a.I]
		slots[a.A] = f.Loaded
	case 11:
		f.Told = []int{o.shape.Refs, o.shape.Data, o.shape.Kind}
	}
	return f, api.OK
}

// places returns what all places lead to, more than once where several do.
func (p *plain) places() []int {
	list := slices.Concat(slices.Concat(p.slots...), p.globals, p.queue)
	return slices.DeleteFunc(list, func(ident int) bool { return ident == 0 })
}

// keeps returns what an object keeps, if the objects of a set are kept, it among them.
func (p *plain) keeps(ident int, set map[int]bool) []int {
	o := p.things[ident-1]
	switch {
	case o.shape.Kind == 1:
		return o.refs[1:]
	case o.shape.Kind == 2 && set[o.refs[0]]:
		return o.refs[1:]
	case o.shape.Kind == 2:
		return o.refs[2:]
	}
	return o.refs
}

// kept looks at all objects again and again, until no further one is kept.
func (p *plain) kept() map[int]bool {
	set := map[int]bool{}
	for _, ident := range p.places() {
		set[ident] = true
	}
	for size := -1; size < len(set); {
		size = len(set)
		for ident := 1; ident <= len(p.things); ident++ {
			if !set[ident] {
				continue
			}
			for _, to := range p.keeps(ident, set) {
				if to != 0 {
					set[to] = true
				}
			}
		}
	}
	return set
}

func (p *plain) Kept() []int {
	var list []int
	set := p.kept()
	for ident := 1; ident <= len(p.things); ident++ {
		if set[ident] {
			list = append(list, ident)
		}
	}
	return list
}

// Collect asks what is kept before it changes anything.
func (p *plain) Collect() int {
	changed := 0
	set := p.kept()
	for ident := range set {
		o := p.things[ident-1]
		if o.shape.Kind != 1 && o.shape.Kind != 2 || set[o.refs[0]] {
			continue
		}
		before := slices.Clone(o.refs)
		o.refs[0] = 0
		if o.shape.Kind == 2 {
			o.refs[1] = 0
		}
		if !slices.Equal(before, o.refs) {
			changed++
		}
	}
	return changed
}

func (p *plain) Push(ident int) api.Errno {
	if !within(ident-1, len(p.things)) {
		return api.ErrNone
	}
	if len(p.queue) == 64 {
		return api.ErrFull
	}
	p.queue = append(p.queue, ident)
	return api.OK
}

func (p *plain) Pop() (int, api.Errno) {
	if len(p.queue) == 0 {
		return 0, api.ErrNone
	}
	ident := p.queue[0]
	p.queue = p.queue[1:]
	return ident, api.OK
}

func (p *plain) Queue() []int {
	return slices.Clone(p.queue)
}

func (p *plain) Slot(mutator, i int) (int, api.Errno) {
	if !within(mutator, len(p.slots)) || !within(i, 16) {
		return 0, api.ErrArg
	}
	return p.slots[mutator][i], api.OK
}

func (p *plain) Global(i int) (int, api.Errno) {
	if !within(i, 16) {
		return 0, api.ErrArg
	}
	return p.globals[i], api.OK
}

func (p *plain) Shape(ident int) (api.Shape, api.Errno) {
	if !within(ident-1, len(p.things)) {
		return api.Shape{}, api.ErrNone
	}
	return p.things[ident-1].shape, api.OK
}

func (p *plain) Ref(ident, i int) (int, api.Errno) {
	if !within(ident-1, len(p.things)) {
		return 0, api.ErrNone
	}
	if !within(i, len(p.things[ident-1].refs)) {
		return 0, api.ErrArg
	}
	return p.things[ident-1].refs[i], api.OK
}

func (p *plain) Data(ident, i int) (int, api.Errno) {
	if !within(ident-1, len(p.things)) {
		return 0, api.ErrNone
	}
	if !within(i, len(p.things[ident-1].data)) {
		return 0, api.ErrArg
	}
	return p.things[ident-1].data[i], api.OK
}

func (p *plain) SetRef(ident, i, to int) api.Errno {
	if _, e := p.Ref(ident, i); e != api.OK {
		return e
	}
	if to != 0 && !within(to-1, len(p.things)) {
		return api.ErrArg
	}
	p.things[ident-1].refs[i] = to
	return api.OK
}

func (p *plain) Births() int {
	return len(p.things)
}

func (p *plain) Mutators() int {
	return len(p.slots)
}
