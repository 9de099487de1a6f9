package model_test

import (
	"testing"

	"dustcart/api"
	"dustcart/model"
)

// tangled is a model of three mutators with all that a state has: slots, globals, a queue, and objects of all kinds. The slots of mutator 1 are: 0 and 15 objects with references and data words, 1 one without any, and all others empty.
func tangled(t *testing.T) both {
	t.Helper()
	b := newBoth(t, 3)
	b.acts(0, create(0, api.Shape{Refs: 2, Data: 3}), create(3, api.Shape{Refs: 4, Data: 1, Kind: api.Special}), store(0, 1, 3), store(3, 3, 0), put(0, 2, 40), export(3, 0))
	b.acts(1, create(0, api.Shape{Refs: 2, Data: 1, Kind: api.Ephemeron}), create(1, leaf), create(15, api.Shape{Refs: 3, Data: 2, Kind: api.Weak}), store(0, 0, 1), store(0, 1, 15), put(15, 1, -7), export(1, 15))
	b.acts(2, create(15, weak), create(9, leaf), store(15, 0, 9), drop(9))
	b.push(4, 1, 4)
	b.same("the tangled model")
	return b
}

// nowhere are numbers that are no index from 0 to n - 1.
func nowhere(n int) []int {
	return append([]int{-1, -2, -n, n, n + 1, 2 * n}, beyond...)
}

// Mutators and kinds that there are not.
func TestNoMutatorNoKind(t *testing.T) {
	b := tangled(t)
	for _, n := range nowhere(3) {
		for kind := range 12 {
			b.expect(n, api.Act{Kind: kind, A: 1, B: 1}, api.Effect{}, api.ErrArg)
		}
	}
	for _, n := range append(nowhere(12), 13, 15, 16, 24, 255) {
		for mutator := range 3 {
			b.expect(mutator, api.Act{Kind: n, A: 1, B: 1}, api.Effect{}, api.ErrArg)
		}
	}
	b.same("after acts of no mutator, and of no kind")
}

// With any number of mutators, the next one is none.
func TestNoFurtherMutator(t *testing.T) {
	for mutators := 1; mutators <= api.MaxMutators; mutators++ {
		b := newBoth(t, mutators)
		for _, n := range []int{mutators, 4, -1} {
			b.refused(n, create(0, leaf), api.ErrArg)
			b.refused(n, alike(0, 0), api.ErrArg)
			i, e := b.m.Slot(n, 0)
			expectError(t, line("Slot(", n, 0, ")"), alone(i, e), api.ErrArg)
		}
		b.effect(create(0, leaf), api.Effect{Made: 1})
		b.acts(mutators-1, create(15, leaf))
		b.same("after acts of the first and the last mutator")
	}
}

// Slots that there are not, of all kinds of acts, as A and as B; unused ones do not matter.
func TestNoSlot(t *testing.T) {
	b := tangled(t)
	for _, n := range nowhere(16) {
		for kind := range 12 {
			b.expect(1, api.Act{Kind: kind, A: n}, api.Effect{}, api.ErrArg)
			b.expect(1, api.Act{Kind: kind, A: n, B: n}, api.Effect{}, api.ErrArg)
			if usesB(kind) {
				b.expect(1, api.Act{Kind: kind, A: 0, B: n}, api.Effect{}, api.ErrArg)
				b.expect(1, api.Act{Kind: kind, A: 15, B: n}, api.Effect{}, api.ErrArg)
			}
		}
	}
	b.same("after acts with no slots")
}

// Shapes that are not valid.
func badShapes() []api.Shape {
	list := []api.Shape{
		{Refs: -1}, {Refs: 16}, {Data: -1}, {Data: 201}, {Kind: -1}, {Kind: 4}, {Refs: 15, Data: 201}, {Refs: 16, Data: 200},
		{Kind: api.Weak}, {Data: 5, Kind: api.Weak}, {Refs: -1, Kind: api.Weak}, {Refs: 16, Kind: api.Weak},
		{Kind: api.Ephemeron}, {Refs: 1, Kind: api.Ephemeron}, {Refs: 1, Data: 200, Kind: api.Ephemeron}, {Refs: 16, Kind: api.Ephemeron}, {Refs: 2, Data: -1, Kind: api.Ephemeron},
		{Refs: -1, Kind: api.Special}, {Refs: 16, Kind: api.Special}, {Data: 201, Kind: api.Special}, {Refs: 2, Kind: 4}, {Refs: 2, Kind: -1}, {Refs: 2, Kind: -2}, {Refs: 2, Kind: 256},
	}
	for _, n := range beyond {
		list = append(list, api.Shape{Refs: n}, api.Shape{Data: n}, api.Shape{Refs: 2, Kind: n}, api.Shape{Refs: n, Data: n, Kind: n}, api.Shape{Refs: n, Data: -n}, api.Shape{Refs: n, Kind: api.Ephemeron})
	}
	return list
}

func TestBadShapes(t *testing.T) {
	b := tangled(t)
	for _, s := range badShapes() {
		for _, slot := range []int{0, 5, 15} {
			b.expect(1, create(slot, s), api.Effect{}, api.ErrForm)
		}
	}
	b.same("after bad shapes")
	b.acts(1, create(5, leaf))
	b.same("after the next object")
}

// Slots that are empty, of those acts of which they must not be; others do not mind.
func TestEmptySlots(t *testing.T) {
	b := tangled(t)
	for slot := 2; slot < 15; slot++ {
		for _, i := range append([]int{0, 1, -1, 16}, beyond...) {
			b.expect(1, load(0, slot, i), api.Effect{}, api.ErrNil)
			b.expect(1, load(slot, slot, i), api.Effect{}, api.ErrNil)
			b.expect(1, store(slot, i, 0), api.Effect{}, api.ErrNil)
			b.expect(1, store(slot, i, slot), api.Effect{}, api.ErrNil)
			b.expect(1, put(slot, i, i), api.Effect{}, api.ErrNil)
			b.expect(1, get(slot, i), api.Effect{}, api.ErrNil)
			b.expect(1, littered(shape(slot), i), api.Effect{}, api.ErrNil)
		}
	}
	b.same("after acts with empty slots")
	b.acts(1, load(5, 0, 0), store(0, 0, 6), copied(7, 6), alike(6, 8), ident(6), export(6, 1), imported(9, 2), drop(10))
	b.same("after acts with slots that may be empty")
}

// Indexes that there are not: of references, data words, and globals.
func TestNoIndex(t *testing.T) {
	b := tangled(t)
	for _, x := range []struct{ slot, refs, data int }{{0, 2, 1}, {1, 0, 0}, {15, 3, 2}} {
		for _, i := range nowhere(x.refs) {
			if !within(i, x.refs) {
				b.expect(1, load(4, x.slot, i), api.Effect{}, api.ErrArg)
				b.expect(1, load(x.slot, x.slot, i), api.Effect{}, api.ErrArg)
				b.expect(1, store(x.slot, i, 4), api.Effect{}, api.ErrArg)
				b.expect(1, store(x.slot, i, x.slot), api.Effect{}, api.ErrArg)
			}
		}
		for _, i := range nowhere(x.data) {
			if !within(i, x.data) {
				b.expect(1, put(x.slot, i, 1), api.Effect{}, api.ErrArg)
				b.expect(1, get(x.slot, i), api.Effect{}, api.ErrArg)
			}
		}
	}
	for _, i := range nowhere(16) {
		b.expect(1, export(0, i), api.Effect{}, api.ErrArg)
		b.expect(1, export(4, i), api.Effect{}, api.ErrArg)
		b.expect(1, imported(0, i), api.Effect{}, api.ErrArg)
		b.expect(1, imported(4, i), api.Effect{}, api.ErrArg)
	}
	b.same("after acts with no indexes")
}

// Where several errors apply, the one that comes first in the chapter is returned.
func TestOrderOfErrors(t *testing.T) {
	bad := api.Shape{Refs: -1, Data: 201, Kind: 9}
	for _, x := range []struct {
		mutator int
		a       api.Act
		want    api.Errno
	}{
		{3, api.Act{Kind: 12, A: 16, B: 16, I: -1, Shape: bad}, api.ErrArg},
		{3, create(0, bad), api.ErrArg},        // no mutator, before the shape
		{-1, shape(4), api.ErrArg},             // no mutator, before the empty slot
		{1, create(16, bad), api.ErrArg},       // no slot, before the shape
		{1, create(-1, bad), api.ErrArg},       // the same
		{1, create(0, bad), api.ErrForm},       // the shape alone, whatever the slot is
		{1, create(4, bad), api.ErrForm},       // the same
		{1, load(16, 4, 9), api.ErrArg},        // no slot A, before the empty slot B
		{1, load(4, 4, 9), api.ErrNil},         // the empty slot B, before the index
		{1, load(0, 4, -1), api.ErrNil},        // the same
		{1, load(4, 0, 9), api.ErrArg},         // the index; slot A may be empty
		{1, store(4, 0, 16), api.ErrArg},       // no slot B, before the empty slot A
		{1, store(4, 9, 0), api.ErrNil},        // the empty slot A, before the index
		{1, store(1, 0, 4), api.ErrArg},        // the index; slot B may be empty
		{1, put(4, -1, 0), api.ErrNil},         // the empty slot, before the index
		{1, get(4, 200), api.ErrNil},           // the same
		{1, get(16, 200), api.ErrArg},          // no slot
		{1, export(16, 16), api.ErrArg},        // no slot
		{1, imported(-1, 0), api.ErrArg},       // no slot
		{1, copied(0, 16), api.ErrArg},         // no slot B
		{1, alike(-1, 0), api.ErrArg},          // no slot A
		{1, littered(drop(16), 0), api.ErrArg}, // no slot
	} {
		tangled(t).refused(x.mutator, x.a, x.want)
	}
}

// Mutators, slots and globals of which nothing is told.
func TestPlacesRefused(t *testing.T) {
	b := tangled(t)
	for _, n := range nowhere(16) {
		for mutator := range 3 {
			i, e := b.m.Slot(mutator, n)
			expectError(t, line("Slot(", mutator, n, ")"), alone(i, e), api.ErrArg)
		}
		i, e := b.m.Global(n)
		expectError(t, line("Global(", n, ")"), alone(i, e), api.ErrArg)
	}
	for _, n := range nowhere(3) {
		for _, slot := range append(nowhere(16), 0, 1, 15) {
			i, e := b.m.Slot(n, slot)
			expectError(t, line("Slot(", n, slot, ")"), alone(i, e), api.ErrArg)
		}
	}
	b.same("after places that there are not")
}

// Identities of no object; ErrNone is ahead of ErrArg, and of ErrFull.
func TestNoObject(t *testing.T) {
	b := tangled(t)
	births := b.m.Births()
	for len(b.m.Queue()) < api.MaxQueue {
		b.push(1)
	}
	for _, n := range append([]int{0, -1, -births, births + 1, births + 2, 64}, beyond...) {
		s, e := b.m.Shape(n)
		expectError(t, line("Shape(", n, ")"), alone(s, e), api.ErrNone)
		for _, i := range append([]int{0, -1, 15}, beyond...) {
			v, e := b.m.Ref(n, i)
			expectError(t, line("Ref(", n, i, ")"), alone(v, e), api.ErrNone)
			v, e = b.m.Data(n, i)
			expectError(t, line("Data(", n, i, ")"), alone(v, e), api.ErrNone)
			expectError(t, line("SetRef(", n, i, 1, ")"), b.m.SetRef(n, i, 1), api.ErrNone)
			expectError(t, line("SetRef(", n, 0, i, ")"), b.m.SetRef(n, 0, i), api.ErrNone)
		}
		expectError(t, line("Push(", n, ")"), b.m.Push(n), api.ErrNone)
		expectError(t, line("SetRef(1, 0, ", n, ")"), b.m.SetRef(1, 0, n), map[bool]api.Errno{true: api.OK, false: api.ErrArg}[n == 0])
	}
	b.same("after objects that there are not")
}

// References and data words that an object has not.
func TestNoReference(t *testing.T) {
	b := tangled(t)
	for ident := 1; ident <= b.m.Births(); ident++ {
		o, _ := b.m.Shape(ident)
		for _, i := range append([]int{-1, o.Refs, o.Refs + 1, 16, o.Refs + o.Data}, beyond...) {
			if within(i, o.Refs) {
				continue
			}
			v, e := b.m.Ref(ident, i)
			expectError(t, line("Ref(", ident, i, ")"), alone(v, e), api.ErrArg)
			for _, to := range append([]int{0, 1, -1, 100}, beyond...) {
				expectError(t, line("SetRef(", ident, i, to, ")"), b.m.SetRef(ident, i, to), api.ErrArg)
			}
		}
		for _, i := range append([]int{-1, o.Data, o.Data + 1, 200, -o.Refs - 1}, beyond...) {
			v, e := b.m.Data(ident, i)
			expectError(t, line("Data(", ident, i, ")"), alone(v, e), api.ErrArg)
		}
		for i := range o.Refs {
			for _, to := range append([]int{-1, b.m.Births() + 1}, beyond...) {
				expectError(t, line("SetRef(", ident, i, to, ")"), b.m.SetRef(ident, i, to), api.ErrArg)
			}
		}
	}
	b.same("after references that there are not")
}

// R1: models that are nil, and models that no function returned; ErrState is ahead of all other errors.
func TestModelsThatWereNotMade(t *testing.T) {
	for name, m := range map[string]*model.Model{"nil": nil, "zero": new(model.Model)} {
		for range 2 { // nothing that was called before makes a difference
			for _, n := range append([]int{0, 1, -1, 12, 15, 16}, beyond...) {
				for kind := -1; kind <= 12; kind++ {
					for _, a := range []api.Act{{Kind: kind}, {Kind: kind, A: n, B: n, I: n, N: n, Shape: api.Shape{Refs: n, Data: n, Kind: n}}} {
						f, e := m.Do(n, a)
						if got, want := told(f, e), told(api.Effect{}, api.ErrState); got != want {
							t.Errorf("%s: Do(%d, %v): %s", name, n, a, got)
						}
					}
				}
				v, e := m.Slot(0, n)
				expectError(t, name+": Slot", alone(v, e), api.ErrState)
				v, e = m.Slot(n, 0)
				expectError(t, name+": Slot", alone(v, e), api.ErrState)
				v, e = m.Global(n)
				expectError(t, name+": Global", alone(v, e), api.ErrState)
				s, e := m.Shape(n)
				expectError(t, name+": Shape", alone(s, e), api.ErrState)
				v, e = m.Ref(n, 0)
				expectError(t, name+": Ref", alone(v, e), api.ErrState)
				v, e = m.Data(n, 0)
				expectError(t, name+": Data", alone(v, e), api.ErrState)
				expectError(t, name+": SetRef", m.SetRef(n, n, n), api.ErrState)
				expectError(t, name+": SetRef", m.SetRef(1, 0, n), api.ErrState)
				expectError(t, name+": Push", m.Push(n), api.ErrState)
			}
			v, e := m.Pop()
			expectError(t, name+": Pop", alone(v, e), api.ErrState)
			if len(m.Kept()) != 0 || m.Collect() != 0 || len(m.Queue()) != 0 || m.Births() != 0 || m.Mutators() != 0 || m.Clone() != nil {
				t.Errorf("%s: kept %v, %d changed, queue %v, %d births, %d mutators, clone %v", name, m.Kept(), m.Collect(), m.Queue(), m.Births(), m.Mutators(), m.Clone())
			}
		}
	}
}
