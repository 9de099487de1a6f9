package mutate_test

import (
	"testing"

	"dustcart/alloc"
	"dustcart/api"
	"dustcart/heap"
	"dustcart/model"
	"dustcart/mutate"
	"dustcart/roots"
)

// gone is an address in a used block at which there is no object any more in the tangled world.
const gone = 64 + 32

// tangled is a world of three mutators with all that a state has. The slots of mutator 1 are: 0 an object of the shape {2 1 2}, 1 one of {0 0 0}, 15 one of {3 2 1}, 2 a broken slot, and all others empty; the references of the object in slot 0 are: 0 the object in slot 1, 1 a broken one.
func tangled(t *testing.T) world {
	t.Helper()
	w := newWorld(t, 6, 3, First)
	w.acts(0, create(0, api.Shape{Refs: 2, Data: 3}), create(3, api.Shape{Refs: 4, Data: 1, Kind: api.Special}), store(0, 1, 3), store(3, 3, 0), put(0, 2, 40), export(3, 0))
	w.acts(1, create(0, api.Shape{Refs: 2, Data: 1, Kind: api.Ephemeron}), create(1, leaf), create(15, api.Shape{Refs: 3, Data: 2, Kind: api.Weak}), create(2, leaf))
	w.acts(1, store(0, 0, 1), store(0, 1, 2), put(15, 1, -7), export(1, 15))
	w.acts(2, create(15, weak), create(9, large), store(15, 0, 9), drop(9))
	w.push(4)
	w.push(1)
	if e := w.h.Move(w.at(6), gone); e != api.OK {
		t.Fatalf("Move: the test itself is wrong: error %d", e)
	}
	w.kill(gone)
	w.set(slot(1, 2), gone)
	w.poke(w.at(3)+3, gone)
	w.h.Pin(w.at(4))
	return w
}

// Mutators and kinds that there are not.
func TestNoMutatorNoKind(t *testing.T) {
	w := tangled(t)
	before := w.state()
	for _, n := range nowhere(3) {
		for kind := range 12 {
			for _, i := range []int{0, 1, 2, 4, 16} {
				w.fails(n, api.Act{Kind: kind, A: i, B: i}, api.ErrArg)
			}
		}
	}
	for _, n := range append(nowhere(12), 13, 15, 16, 24, 255) {
		for mutator := range 3 {
			for _, i := range []int{0, 1, 2, 4, 16} {
				w.fails(mutator, api.Act{Kind: n, A: i, B: i}, api.ErrArg)
			}
		}
	}
	w.unchanged("after acts of no mutator, and of no kind", before)
}

// fails checks the error of an act alone.
func (w world) fails(mutator int, a api.Act, want api.Errno) {
	w.t.Helper()
	if got, want := w.alone(mutator, a), told(api.Effect{}, want); got != want {
		w.t.Errorf("Do(%d, %v): %s, want %s", mutator, a, got, want)
	}
}

// Slots that there are not, of all kinds of acts, as A and as B; unused ones do not matter.
func TestNoSlot(t *testing.T) {
	w := tangled(t)
	before := w.state()
	for _, n := range nowhere(16) {
		for kind := range 12 {
			w.fails(1, api.Act{Kind: kind, A: n}, api.ErrArg)
			w.fails(1, api.Act{Kind: kind, A: n, B: n}, api.ErrArg)
			if usesB(kind) {
				for _, a := range []int{0, 2, 4, 15} {
					w.fails(1, api.Act{Kind: kind, A: a, B: n}, api.ErrArg)
				}
			}
		}
	}
	w.unchanged("after acts with no slots", before)
}

// Shapes that are not valid.
func TestBadShapes(t *testing.T) {
	w := tangled(t)
	before := w.state()
	list := []api.Shape{
		{Refs: -1}, {Refs: 16}, {Data: -1}, {Data: 201}, {Kind: -1}, {Kind: 4}, {Refs: 15, Data: 201}, {Refs: 16, Data: 200},
		{Kind: api.Weak}, {Data: 5, Kind: api.Weak}, {Refs: 16, Kind: api.Weak}, {Kind: api.Ephemeron}, {Refs: 1, Kind: api.Ephemeron}, {Refs: 1, Data: 200, Kind: api.Ephemeron},
		{Refs: 2, Data: -1, Kind: api.Ephemeron}, {Refs: -1, Kind: api.Special}, {Refs: 16, Kind: api.Special}, {Data: 201, Kind: api.Special}, {Refs: 2, Kind: 4}, {Refs: 2, Kind: -1}, {Refs: 2, Kind: 256},
	}
	for _, n := range beyond {
		list = append(list, api.Shape{Refs: n}, api.Shape{Data: n}, api.Shape{Refs: 2, Kind: n}, api.Shape{Refs: n, Data: n, Kind: n}, api.Shape{Refs: n, Data: -n}, api.Shape{Refs: n, Kind: api.Ephemeron})
	}
	for _, s := range list {
		for _, i := range []int{0, 2, 5, 15} {
			w.fails(1, create(i, s), api.ErrForm)
		}
	}
	w.unchanged("after bad shapes", before)
}

// Slots that are empty, of those acts of which they must not be; others do not mind.
func TestEmptySlots(t *testing.T) {
	w := tangled(t)
	before := w.state()
	for i := 3; i < 15; i++ {
		for _, n := range append([]int{0, 1, -1, 16}, beyond...) {
			for _, other := range []int{0, 1, 2, i} {
				w.fails(1, load(other, i, n), api.ErrNil)
				w.fails(1, store(i, n, other), api.ErrNil)
			}
			w.fails(1, put(i, n, n), api.ErrNil)
			w.fails(1, get(i, n), api.ErrNil)
			w.fails(1, littered(shape(i), n), api.ErrNil)
		}
	}
	w.unchanged("after acts with empty slots", before)
	for _, a := range []api.Act{load(5, 0, 0), store(0, 0, 6), copied(7, 6), alike(6, 8), ident(6), export(6, 1), imported(9, 2), drop(10)} {
		if got := w.alone(1, a); !succeeded(got) {
			t.Errorf("Do(1, %v): %s", a, got)
		}
	}
}

// Indexes that there are not: of references, data words, and globals.
func TestNoIndex(t *testing.T) {
	w := tangled(t)
	before := w.state()
	for _, x := range []struct{ slot, refs, data int }{{0, 2, 1}, {1, 0, 0}, {15, 3, 2}} {
		for _, i := range nowhere(x.refs) {
			w.fails(1, load(4, x.slot, i), api.ErrArg)
			w.fails(1, load(2, x.slot, i), api.ErrArg)
			w.fails(1, load(x.slot, x.slot, i), api.ErrArg)
			w.fails(1, store(x.slot, i, 4), api.ErrArg)
			w.fails(1, store(x.slot, i, x.slot), api.ErrArg)
		}
		for _, i := range nowhere(x.data) {
			w.fails(1, put(x.slot, i, 1), api.ErrArg)
			w.fails(1, get(x.slot, i), api.ErrArg)
		}
	}
	for _, i := range nowhere(16) {
		for _, a := range []int{0, 2, 4} {
			w.fails(1, export(a, i), api.ErrArg)
			w.fails(1, imported(a, i), api.ErrArg)
		}
	}
	w.unchanged("after acts with no indexes", before)
}

// Where several errors apply, the one that comes first is returned.
func TestOrderOfErrors(t *testing.T) {
	bad := api.Shape{Refs: -1, Data: 201, Kind: 9}
	for _, x := range []struct {
		mutator int
		a       api.Act
		want    api.Errno
	}{
		{3, api.Act{Kind: 12, A: 16, B: 16, I: -1, Shape: bad}, api.ErrArg},
		{3, create(0, bad), api.ErrArg},                             // no mutator, before the shape
		{-1, shape(4), api.ErrArg},                                  // no mutator, before the empty slot
		{-1, ident(2), api.ErrArg},                                  // no mutator, before the broken slot
		{1, create(16, bad), api.ErrArg},                            // no slot, before the shape
		{1, create(0, bad), api.ErrForm},                            // the shape alone, whatever the slot is
		{1, create(2, bad), api.ErrForm},                            // the same
		{1, create(4, bad), api.ErrForm},                            // the same
		{1, create(4, api.Shape{Refs: 15, Data: 200}), api.ErrFull}, // the heap is full
		{1, create(2, api.Shape{Refs: 15, Data: 200}), api.ErrFull}, // the same
		{1, create(-1, api.Shape{Refs: 15, Data: 200}), api.ErrArg}, // no slot, before the full heap
		{1, create(4, api.Shape{Refs: 16, Data: 200}), api.ErrForm}, // the shape, before the full heap
		{1, load(16, 4, 9), api.ErrArg},                             // no slot A, before the empty slot B
		{1, load(16, 2, 9), api.ErrArg},                             // no slot A, before the broken slot B
		{1, load(4, 4, 9), api.ErrNil},                              // the empty slot B, before the index
		{1, load(2, 4, -1), api.ErrNil},                             // the same; slot A may be broken
		{1, load(4, 2, 9), api.ErrState},                            // the broken slot B, before the index
		{1, load(2, 2, 0), api.ErrState},                            // the same
		{1, load(4, 0, 9), api.ErrArg},                              // the index; slot A may be empty
		{1, load(2, 0, 9), api.ErrArg},                              // the index; slot A may be broken
		{1, store(4, 0, 16), api.ErrArg},                            // no slot B, before the empty slot A
		{1, store(2, 0, 16), api.ErrArg},                            // no slot B, before the broken slot A
		{1, store(4, 9, 0), api.ErrNil},                             // the empty slot A, before the index
		{1, store(4, 0, 2), api.ErrNil},                             // the empty slot A, before the broken slot B
		{1, store(2, 9, 0), api.ErrState},                           // the broken slot A, before the index
		{1, store(2, 0, 4), api.ErrState},                           // the broken slot A, with an empty slot B
		{1, store(2, 0, 2), api.ErrState},                           // both broken
		{1, store(0, 0, 2), api.ErrState},                           // the broken slot B
		{1, store(0, 9, 2), api.ErrState},                           // the broken slot B, before the index
		{1, store(1, 0, 4), api.ErrArg},                             // the index; slot B may be empty
		{1, put(4, -1, 0), api.ErrNil},                              // the empty slot, before the index
		{1, put(2, -1, 0), api.ErrState},                            // the broken slot, before the index
		{1, get(4, 200), api.ErrNil},                                // the empty slot, before the index
		{1, get(2, 200), api.ErrState},                              // the broken slot, before the index
		{1, get(16, 200), api.ErrArg},                               // no slot
		{1, shape(2), api.ErrState},                                 // the broken slot
		{1, ident(2), api.ErrState},                                 // the same
		{1, ident(16), api.ErrArg},                                  // no slot
		{1, export(16, 16), api.ErrArg},                             // no slot
		{1, export(2, 16), api.ErrArg},                              // the index; slot A may be broken
		{1, imported(-1, 0), api.ErrArg},                            // no slot
		{1, copied(0, 16), api.ErrArg},                              // no slot B
		{1, copied(16, 2), api.ErrArg},                              // no slot A
		{1, alike(-1, 0), api.ErrArg},                               // no slot A
		{1, alike(2, -1), api.ErrArg},                               // no slot B
		{1, drop(16), api.ErrArg},                                   // no slot
	} {
		tangled(t).refused(x.mutator, x.a, x.want)
	}
}

// ErrArg for what acts are done on is ahead of all other errors, and nothing is changed then.
func TestNoGround(t *testing.T) {
	w := tangled(t)
	before := w.state()
	long := make([]api.Act, api.MaxActs+1)
	refused := func(what string, h *heap.Heap, r *roots.Roots, a *alloc.Allocator) {
		t.Helper()
		for _, n := range append([]int{0, 1, 2, 3, -1, 4, 12, 15, 16}, beyond...) {
			for kind := -1; kind <= 12; kind++ {
				for _, act := range []api.Act{{Kind: kind}, {Kind: kind, A: n, B: n, I: n, N: n, Shape: api.Shape{Refs: n, Data: n, Kind: n}}} {
					for _, mutator := range []int{0, 1, n} {
						f, e := mutate.Do(h, r, a, mutator, act)
						if got, want := told(f, e), told(api.Effect{}, api.ErrArg); got != want {
							t.Errorf("%s: Do(%d, %v): %s", what, mutator, act, got)
						}
					}
				}
			}
		}
		for _, list := range [][]api.Act{nil, {{}}, {{}, {Kind: api.ActIdent}}, long} {
			for _, mutators := range [][]int{nil, {0}, {0, -1}, make([]int, len(long))} {
				effects, errors, e := mutate.Play(h, r, a, list, mutators)
				if len(effects) != 0 || len(errors) != 0 || e != api.ErrArg {
					t.Errorf("%s: Play of %d acts: %v, %v, error %d", what, len(list), effects, errors, e)
				}
			}
		}
	}
	for what, h := range map[string]*heap.Heap{"a nil heap": nil, "a zero heap": {}} {
		refused(what, h, w.r, w.a)
		refused(what, h, nil, nil)
	}
	for what, r := range map[string]*roots.Roots{"nil roots": nil, "zero roots": {}} {
		refused(what, w.h, r, w.a)
		refused(what, nil, r, w.a)
	}
	for what, a := range map[string]*alloc.Allocator{"a nil allocator": nil, "a zero allocator": {}} {
		refused(what, w.h, w.r, a)
		refused(what, &heap.Heap{}, &roots.Roots{}, a)
	}
	w.unchanged("after calls with what no function returned", before)
}

// Clones of heaps, roots and allocators are as good as those that New returned; none of the others is changed.
func TestActsOnClones(t *testing.T) {
	w := newWorld(t, 4, 2, Lines)
	w.acts(0, create(0, fork), create(1, pair), store(0, 0, 1), export(0, 4))
	before := w.state()
	c := w.clone()
	c.acts(1, imported(3, 4), create(2, word), store(3, 1, 2), put(2, 0, 5), drop(3))
	w.unchanged("after acts on clones", before)
	w.match("after acts on clones")
	if mutate.Match(w.h, w.r, c.m) || mutate.Match(c.h, c.r, w.m) {
		t.Errorf("a world matches the model of its clone")
	}
}

// Match is false, and Leads has no address, if one of them is none.
func TestMatchAndLeadsOfNone(t *testing.T) {
	for _, mutators := range []int{1, 4} {
		w := newWorld(t, 4, mutators, First)
		for range 2 {
			before := w.state()
			for _, h := range []*heap.Heap{w.h, nil, {}} {
				for _, r := range []*roots.Roots{w.r, nil, {}} {
					for _, m := range []*model.Model{w.m, nil, {}} {
						all := h == w.h && r == w.r && m == w.m
						if mutate.Match(h, r, m) != all {
							t.Errorf("Match(%p, %p, %p) is %v", h, r, m, !all)
						}
					}
					if leads := mutate.Leads(h, r); (len(leads) > 0) != (h == w.h && r == w.r && w.h.Births() > 0) {
						t.Errorf("Leads(%p, %p) = %v", h, r, leads)
					}
				}
			}
			w.unchanged("after calls with what no function returned", before)
			w.acts(0, create(0, link), store(0, 0, 0))
		}
	}
}
