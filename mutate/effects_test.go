package mutate_test

import (
	"testing"

	"dustcart/api"
	"dustcart/mutate"
)

// The first example.
func TestSelfReference(t *testing.T) {
	w := newWorld(t, 4, 1, First)
	w.effect(create(0, link), api.Effect{Made: 64})
	w.effect(store(0, 0, 0), api.Effect{Object: 64, Old: 0, New: 64})
	w.effect(ident(0), api.Effect{Told: []int{1}})
}

// The second example.
func TestKilledInSlot(t *testing.T) {
	w := newWorld(t, 4, 1, First)
	w.acts(0, create(0, api.Shape{Refs: 1, Data: 1}))
	w.kill(64)
	w.refused(0, get(0, 0), api.ErrState)
	if got, want := w.alone(0, drop(0)), told(api.Effect{}, api.OK); got != want {
		t.Errorf("ActDrop: %s, want %s", got, want)
	}
	if len(w.r.Places()) != 0 {
		t.Errorf("places %v", w.r.Places())
	}
}

// Each kind of act tells what the tables of chapters 4 and 6 say, by addresses, and nothing else (P6.5).
func TestEffects(t *testing.T) {
	w := newWorld(t, 4, 2, First)
	w.effect(create(2, api.Shape{Refs: 3, Data: 2}), api.Effect{Made: 64})
	w.effect(create(4, api.Shape{Refs: 2, Data: 1, Kind: api.Ephemeron}), api.Effect{Made: 72})
	w.effect(store(2, 2, 4), api.Effect{Object: 64, I: 2, Old: 0, New: 72})
	w.effect(store(2, 2, 2), api.Effect{Object: 64, I: 2, Old: 72, New: 64})
	w.effect(store(2, 1, 4), api.Effect{Object: 64, I: 1, Old: 0, New: 72})
	w.effect(store(2, 2, 9), api.Effect{Object: 64, I: 2, Old: 64, New: 0})
	w.effect(store(2, 2, 9), api.Effect{Object: 64, I: 2})
	w.effect(load(5, 2, 1), api.Effect{Loaded: 72})
	w.effect(load(5, 2, 0), api.Effect{})
	w.effect(put(2, 1, -9), api.Effect{})
	w.effect(get(2, 1), api.Effect{Told: []int{-9}})
	w.effect(get(2, 0), api.Effect{Told: []int{0}})
	w.effect(copied(6, 4), api.Effect{Loaded: 72})
	w.effect(alike(6, 4), api.Effect{Told: []int{1}})
	w.effect(alike(6, 2), api.Effect{Told: []int{0}})
	w.effect(copied(6, 0), api.Effect{})
	w.effect(drop(4), api.Effect{})
	w.effect(ident(4), api.Effect{Told: []int{0}})
	w.effect(ident(2), api.Effect{Told: []int{1}})
	w.effect(export(2, 3), api.Effect{})
	w.effect(imported(4, 3), api.Effect{Loaded: 64})
	w.effect(imported(4, 2), api.Effect{})
	w.effect(export(4, 3), api.Effect{}) // of an empty slot
	w.effect(imported(2, 3), api.Effect{})
	w.effect(create(1, large), api.Effect{Made: 128})
	w.effect(shape(1), api.Effect{Told: []int{2, 100, 3}})
	w.effect(store(1, 1, 1), api.Effect{Object: 128, I: 1, New: 128})
	w.effect(put(1, 99, 8), api.Effect{})
	w.effect(get(1, 99), api.Effect{Told: []int{8}})
}

// Slots that are empty, or one and the same.
func TestSame(t *testing.T) {
	w := newWorld(t, 4, 1, First)
	w.effect(alike(3, 3), api.Effect{Told: []int{1}})
	w.effect(alike(0, 15), api.Effect{Told: []int{1}}) // both empty
	w.effect(create(0, leaf), api.Effect{Made: 64})
	w.effect(create(15, leaf), api.Effect{Made: 66})
	w.effect(alike(0, 15), api.Effect{Told: []int{0}})
	w.effect(alike(15, 3), api.Effect{Told: []int{0}}) // one empty
	w.effect(alike(3, 15), api.Effect{Told: []int{0}})
	w.effect(alike(0, 0), api.Effect{Told: []int{1}})
}

// A and B may be one slot.
func TestOneSlot(t *testing.T) {
	w := newWorld(t, 4, 1, First)
	w.effect(create(1, fork), api.Effect{Made: 64})
	w.effect(create(2, word), api.Effect{Made: 68})
	w.effect(store(1, 0, 1), api.Effect{Object: 64, New: 64})
	w.effect(store(1, 1, 2), api.Effect{Object: 64, I: 1, New: 68})
	w.effect(copied(1, 1), api.Effect{Loaded: 64})
	w.effect(load(1, 1, 0), api.Effect{Loaded: 64})
	w.effect(load(1, 1, 1), api.Effect{Loaded: 68})
	w.effect(copied(5, 5), api.Effect{})
	w.effect(shape(1), api.Effect{Told: []int{0, 1, 0}})
}

// A slot that is not empty is simply replaced, by any act that sets it.
func TestReplacedSlots(t *testing.T) {
	w := newWorld(t, 4, 1, First)
	w.acts(0, create(1, link), create(2, leaf), store(1, 0, 2), export(2, 0), create(0, leaf))
	w.effect(create(0, leaf), api.Effect{Made: 72})
	w.effect(load(0, 1, 0), api.Effect{Loaded: 68})
	w.effect(copied(0, 1), api.Effect{Loaded: 64})
	w.effect(imported(0, 0), api.Effect{Loaded: 68})
	w.effect(copied(0, 9), api.Effect{})
}

// The first and the last reference and data word of objects of all kinds, with as few and as many as there may be.
func TestShapesAtEnds(t *testing.T) {
	least := []int{api.Plain: 0, api.Weak: 1, api.Ephemeron: 2, api.Special: 0}
	for kind, few := range least {
		for _, refs := range []int{few, few + 1, 14, 15} {
			for _, data := range []int{0, 1, 2, 14, 30, 31, 199, 200} {
				w := newWorld(t, 7, 1, First)
				s := api.Shape{Refs: refs, Data: data, Kind: kind}
				w.acts(0, create(9, word), put(9, 0, 1), create(0, s), create(10, word), put(10, 0, 2))
				at := w.at(2)
				w.effect(shape(0), api.Effect{Told: []int{refs, data, kind}})
				for i := range refs {
					w.effect(store(0, i, 0), api.Effect{Object: at, I: i, New: at})
					w.effect(store(0, i, 9+i%2), api.Effect{Object: at, I: i, Old: at, New: w.at(1 + i%2*2)})
				}
				for i := range data {
					w.effect(put(0, i, -1-i), api.Effect{})
				}
				for i := range data {
					w.effect(get(0, i), api.Effect{Told: []int{-1 - i}})
				}
				w.refused(0, load(1, 0, refs), api.ErrArg)
				w.refused(0, store(0, refs, 9), api.ErrArg)
				w.refused(0, get(0, data), api.ErrArg)
				w.refused(0, put(0, data, 5), api.ErrArg)
				w.refused(0, get(0, -1), api.ErrArg)
				w.refused(0, load(1, 0, -1), api.ErrArg)
			}
		}
	}
}

// Data words may be any numbers.
func TestAnyNumbers(t *testing.T) {
	w := newWorld(t, 4, 1, First)
	w.acts(0, create(0, api.Shape{Data: 3}))
	for i, n := range append([]int{0, 1, -1}, beyond...) {
		w.effect(put(0, i%3, n), api.Effect{})
		w.effect(get(0, i%3), api.Effect{Told: []int{n}})
	}
}

// everyAct is one act of each kind, which a mutator with an object in slot 1 that has a reference and a data word can do.
func everyAct() []api.Act {
	return []api.Act{create(0, word), load(3, 1, 0), store(1, 0, 1), put(1, 0, 6), get(1, 0), copied(4, 1), drop(0), alike(1, 4), ident(1), export(1, 8), imported(5, 8), shape(1)}
}

// littered returns an act in which all fields are n that its kind does not use.
func littered(a api.Act, n int) api.Act {
	if !usesB(a.Kind) {
		a.B = n
	}
	switch a.Kind {
	case 0, 5, 6, 7, 8, 11:
		a.I = n
	}
	if a.Kind != 3 {
		a.N = n
	}
	if a.Kind != 0 {
		a.Shape = api.Shape{Refs: n, Data: n, Kind: n}
	}
	return a
}

// Fields that a kind does not use are ignored.
func TestUnusedFields(t *testing.T) {
	for _, n := range append([]int{-1, 1, 2, 15, 16, 17, 200, 201}, beyond...) {
		w := newWorld(t, 4, 1, First)
		w.acts(0, create(1, api.Shape{Refs: 1, Data: 1}))
		tidy := w.clone()
		for _, a := range everyAct() {
			w.acts(0, littered(a, n))
			tidy.acts(0, a)
			w.unchanged(line("after ", littered(a, n), ", held against ", a), tidy.state())
		}
	}
}

// Whatever slot B is, an act that does not use it does not care, even if it is broken.
func TestUnusedSlots(t *testing.T) {
	w := newWorld(t, 4, 1, First)
	w.acts(0, create(1, api.Shape{Refs: 1, Data: 1}))
	w.set(slot(0, 7), 1001)
	for _, a := range everyAct() {
		if usesB(a.Kind) {
			continue
		}
		want := w.clone().alone(0, a)
		a.B = 7
		if got := w.alone(0, a); got != want || !succeeded(got) {
			t.Errorf("Do(0, %v): %s, want %s", a, got, want)
		}
	}
}

// Each mutator has slots of its own; what they have in common is objects and globals. Acts change nothing else.
func TestMutators(t *testing.T) {
	for mutators := 1; mutators <= api.MaxMutators; mutators++ {
		w := newWorld(t, 5, mutators, First)
		for mutator := range mutators {
			w.acts(mutator, create(mutator, link), create(15, fork), store(15, 1, mutator), export(15, mutator))
		}
		for mutator := range mutators {
			for other := range mutators {
				w.acts(mutator, imported(5, other), load(6, 5, 1), store(6, 0, mutator), alike(6, other), ident(6))
			}
		}
		for mutator := range mutators {
			for _, a := range everyAct() {
				w.acts(mutator, copied(1, 15), littered(a, 0))
				w.acts(mutator, create(15, api.Shape{Refs: 1, Data: 1}))
			}
		}
		for _, n := range nowhere(mutators) {
			w.refused(n, create(0, leaf), api.ErrArg)
			w.refused(n, drop(0), api.ErrArg)
		}
	}
}

// New objects are placed by the allocator, whatever its policy, and whatever it placed before.
func TestPlacedByAllocator(t *testing.T) {
	for policy := range policies {
		w := newWorld(t, 9, 1, policy)
		for i := range 60 {
			w.do(0, create(i%16, api.Shape{Refs: i % 4, Data: i * i % 23}))
			w.do(0, create(3, api.Shape{Refs: 1}))
			if i%7 == 3 {
				all := w.h.All()
				w.kill(all[i%len(all)], all[len(all)-1]) // its words are gaps
			}
		}
	}
}

// A full heap refuses large objects, small ones, or both, and goes on as before.
func TestFullHeap(t *testing.T) {
	for policy := range policies {
		w := newWorld(t, 4, 1, policy)
		w.acts(0, create(0, large), store(0, 0, 0), create(1, fork), store(1, 1, 0), create(5, link))
		for _, s := range []api.Shape{large, {Data: 31}, {Refs: 15, Data: 200}} {
			for _, i := range []int{1, 5, 6} { // slots that are empty, and ones that are not
				w.refused(0, create(i, s), api.ErrFull)
			}
		}
		for range 200 {
			w.do(0, create(2, leaf))
		}
		w.refused(0, create(2, leaf), api.ErrFull)
		w.refused(0, create(0, fork), api.ErrFull)
		w.refused(0, create(16, fork), api.ErrArg)
		w.refused(0, create(0, api.Shape{Refs: 16}), api.ErrForm)
		w.acts(0, load(3, 1, 1), put(3, 99, 4), ident(3), ident(2))
		if n := w.h.Births(); n != 31 { // the large one in two blocks, and no gap in the third one
			t.Errorf("policy %d: %d objects", policy, n)
		}
	}
}

// An allocator that works on another heap places objects there.
func TestAllocatorOfAnotherHeap(t *testing.T) {
	w, other := newWorld(t, 4, 1, First), newWorld(t, 4, 1, First)
	before := w.h.Clone()
	f, e := mutate.Do(w.h, w.r, other.a, 0, create(0, link))
	if got, want := told(f, e), told(api.Effect{Made: 64}, api.OK); got != want {
		t.Errorf("Do: %s, want %s", got, want)
	}
	if w.h.Births() != before.Births() || other.h.Births() != 1 {
		t.Errorf("%d births on the heap, %d on the allocator's", w.h.Births(), other.h.Births())
	}
	w.refused(0, ident(0), api.ErrState)
}
