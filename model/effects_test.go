package model_test

import (
	"testing"

	"dustcart/api"
)

// Each kind of act tells what the chapter's table says, and nothing else.
func TestEffects(t *testing.T) {
	b := newBoth(t, 2)
	b.effect(create(2, api.Shape{Refs: 3, Data: 2}), api.Effect{Made: 1})
	b.effect(create(4, api.Shape{Refs: 2, Data: 1, Kind: api.Ephemeron}), api.Effect{Made: 2})
	b.effect(store(2, 2, 4), api.Effect{Object: 1, I: 2, Old: 0, New: 2})
	b.effect(store(2, 2, 2), api.Effect{Object: 1, I: 2, Old: 2, New: 1})
	b.effect(store(2, 1, 4), api.Effect{Object: 1, I: 1, Old: 0, New: 2})
	b.effect(store(2, 2, 9), api.Effect{Object: 1, I: 2, Old: 1, New: 0})
	b.effect(store(2, 2, 9), api.Effect{Object: 1, I: 2})
	b.effect(load(5, 2, 1), api.Effect{Loaded: 2})
	b.effect(load(5, 2, 0), api.Effect{})
	b.effect(put(2, 1, -9), api.Effect{})
	b.effect(get(2, 1), api.Effect{Told: []int{-9}})
	b.effect(get(2, 0), api.Effect{Told: []int{0}})
	b.effect(copied(6, 4), api.Effect{Loaded: 2})
	b.effect(alike(6, 4), api.Effect{Told: []int{1}})
	b.effect(alike(6, 2), api.Effect{Told: []int{0}})
	b.effect(copied(6, 0), api.Effect{})
	b.effect(drop(4), api.Effect{})
	b.effect(ident(4), api.Effect{Told: []int{0}})
	b.effect(ident(2), api.Effect{Told: []int{1}})
	b.effect(export(2, 3), api.Effect{})
	b.effect(imported(4, 3), api.Effect{Loaded: 1})
	b.effect(imported(4, 2), api.Effect{})
	b.effect(export(4, 3), api.Effect{}) // of an empty slot
	b.effect(shape(2), api.Effect{Told: []int{3, 2, 0}})
	b.effect(load(4, 2, 1), api.Effect{Loaded: 2})
	b.effect(shape(4), api.Effect{Told: []int{2, 1, 2}})
}

// Slots that are empty, or one and the same.
func TestSame(t *testing.T) {
	b := newBoth(t, 1)
	b.effect(alike(3, 3), api.Effect{Told: []int{1}})
	b.effect(alike(0, 15), api.Effect{Told: []int{1}}) // both empty
	b.effect(create(0, leaf), api.Effect{Made: 1})
	b.effect(create(15, leaf), api.Effect{Made: 2})
	b.effect(alike(0, 15), api.Effect{Told: []int{0}})
	b.effect(alike(15, 3), api.Effect{Told: []int{0}}) // one empty
	b.effect(alike(3, 15), api.Effect{Told: []int{0}})
	b.effect(alike(0, 0), api.Effect{Told: []int{1}})
}

// A and B may be one slot.
func TestOneSlot(t *testing.T) {
	b := newBoth(t, 1)
	b.effect(create(1, fork), api.Effect{Made: 1})
	b.effect(create(2, word), api.Effect{Made: 2})
	b.effect(store(1, 0, 1), api.Effect{Object: 1, New: 1})
	b.effect(store(1, 1, 2), api.Effect{Object: 1, I: 1, New: 2})
	b.effect(copied(1, 1), api.Effect{Loaded: 1})
	b.effect(load(1, 1, 0), api.Effect{Loaded: 1})
	b.effect(load(1, 1, 1), api.Effect{Loaded: 2})
	b.effect(copied(5, 5), api.Effect{})
	b.effect(shape(1), api.Effect{Told: []int{0, 1, 0}})
}

// A slot that is not empty is simply replaced, by any act that sets it.
func TestReplacedSlots(t *testing.T) {
	b := newBoth(t, 1)
	b.acts(0, create(1, link), create(2, leaf), store(1, 0, 2), export(2, 0), create(0, leaf))
	b.effect(create(0, leaf), api.Effect{Made: 4})
	b.effect(load(0, 1, 0), api.Effect{Loaded: 2})
	b.effect(copied(0, 1), api.Effect{Loaded: 1})
	b.effect(imported(0, 0), api.Effect{Loaded: 2})
	b.effect(copied(0, 9), api.Effect{})
	b.kept(1, 2)
}

// The first and the last reference and data word of objects of all kinds, with as few and as many as there may be.
func TestShapesAtEnds(t *testing.T) {
	least := []int{api.Plain: 0, api.Weak: 1, api.Ephemeron: 2, api.Special: 0}
	for kind, few := range least {
		for _, refs := range []int{few, few + 1, 14, 15} {
			for _, data := range []int{0, 1, 199, 200} {
				b := newBoth(t, 1)
				s := api.Shape{Refs: refs, Data: data, Kind: kind}
				b.acts(0, create(9, word), put(9, 0, 1), create(0, s), create(10, word), put(10, 0, 2))
				b.effect(shape(0), api.Effect{Told: []int{refs, data, kind}})
				for i := range refs {
					b.acts(0, store(0, i, 9+i%2))
				}
				for i := range data {
					b.acts(0, put(0, i, -1-i))
				}
				b.same(line("an object of the shape ", s))
				b.refused(0, load(1, 0, refs), api.ErrArg)
				b.refused(0, store(0, refs, 9), api.ErrArg)
				b.refused(0, get(0, data), api.ErrArg)
				b.refused(0, put(0, data, 5), api.ErrArg)
				b.refused(0, get(0, -1), api.ErrArg)
				b.refused(0, load(1, 0, -1), api.ErrArg)
			}
		}
	}
}

// Data words may be any numbers.
func TestAnyNumbers(t *testing.T) {
	b := newBoth(t, 1)
	b.acts(0, create(0, api.Shape{Data: 3}))
	for i, n := range append([]int{0, 1, -1}, beyond...) {
		b.effect(put(0, i%3, n), api.Effect{})
		b.effect(get(0, i%3), api.Effect{Told: []int{n}})
	}
}

// everyAct is one act of each kind, which a mutator with an object in slot 1 that has a reference and a data word can do.
func everyAct() []api.Act {
	return []api.Act{create(0, word), load(3, 1, 0), store(1, 0, 1), put(1, 0, 6), get(1, 0), copied(4, 1), drop(0), alike(1, 4), ident(1), export(1, 8), imported(5, 8), shape(1)}
}

// Fields that a kind does not use are ignored.
func TestUnusedFields(t *testing.T) {
	for _, n := range append([]int{-1, 1, 2, 15, 16, 17, 200, 201}, beyond...) {
		b := newBoth(t, 1)
		b.acts(0, create(1, api.Shape{Refs: 1, Data: 1}))
		for _, a := range everyAct() {
			f, e := b.p.Do(0, a)
			if e != api.OK {
				t.Fatalf("Do(0, %v): the test itself is wrong: error %d", a, e)
			}
			b.expect(0, littered(a, n), f, e)
			b.same(line("after ", littered(a, n)))
		}
	}
}

// P4.5: whatever a mutator does, the slots of the others stay as they were.
func TestOthersStay(t *testing.T) {
	const all = api.MaxMutators
	b := newBoth(t, all)
	for mutator := range all {
		for i := range 16 {
			b.acts(mutator, create(i, api.Shape{Refs: 1, Data: 1}))
		}
		b.acts(mutator, drop(6+mutator))
	}
	for mutator := range all {
		for _, a := range everyAct() {
			before := slotsOfOthers(b, mutator)
			b.acts(mutator, a)
			if after := slotsOfOthers(b, mutator); after != before {
				t.Errorf("after Do(%d, %v): the slots of the others: %s, before %s", mutator, a, after, before)
			}
			b.same(line("after Do(", mutator, a, ")"))
		}
	}
}

func slotsOfOthers(b both, mutator int) string {
	var list []int
	for m := range b.m.Mutators() {
		for i := range 16 {
			if n, _ := b.m.Slot(m, i); m != mutator {
				list = append(list, n)
			}
		}
	}
	return line(list)
}

// What mutators have in common is objects, globals and the queue.
func TestInCommon(t *testing.T) {
	b := newBoth(t, 2)
	b.acts(0, create(0, api.Shape{Refs: 1, Data: 1}), export(0, 0))
	b.acts(1, imported(7, 0), put(7, 0, 12), store(7, 0, 7))
	b.effect(get(0, 0), api.Effect{Told: []int{12}})
	b.effect(load(1, 0, 0), api.Effect{Loaded: 1})
	b.acts(1, drop(7), export(7, 0))
	b.kept(1)
}
