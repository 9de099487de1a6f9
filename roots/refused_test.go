package roots_test

import (
	"testing"

	"dustcart/api"
	"dustcart/roots"
)

// nowhere returns fields that are no place of the filled roots, which have three mutators and four elements.
func nowhere() []api.Place {
	list := []api.Place{
		slot(3, 0), slot(4, 0), slot(-1, 0), slot(0, 16), slot(2, 16), slot(0, -1), slot(2, -1), slot(1, -16), slot(0, 17), slot(3, 15), slot(0, 32), slot(3, -16),
		global(16), global(17), global(-1), global(-16), {Kind: api.PlaceGlobal, Mutator: 1}, {Kind: api.PlaceGlobal, Mutator: -1}, {Kind: api.PlaceGlobal, Mutator: 2, Index: 15}, {Kind: api.PlaceGlobal, Mutator: 1, Index: -16},
		queued(4), queued(5), queued(63), queued(64), queued(-1), {Kind: api.PlaceQueue, Mutator: 1}, {Kind: api.PlaceQueue, Mutator: -1, Index: 3}, {Kind: api.PlaceQueue, Mutator: 2, Index: 1},
		{Kind: 3}, {Kind: -1}, {Kind: 4, Mutator: 1, Index: 1}, {Kind: -2}, {Kind: 16}, {Kind: 64},
	}
	for _, n := range beyond {
		list = append(list, api.Place{Kind: n}, slot(n, 0), slot(0, n), slot(n, n), slot(n, -n), global(n), queued(n),
			api.Place{Kind: api.PlaceGlobal, Mutator: n}, api.Place{Kind: api.PlaceQueue, Mutator: n}, api.Place{Kind: n, Mutator: n, Index: n},
			api.Place{Kind: api.PlaceGlobal, Mutator: n, Index: n}, api.Place{Kind: api.PlaceQueue, Mutator: n, Index: n})
	}
	return list
}

// P3.5: places that there are not are neither told nor set, whatever the address.
func TestPlacesRefused(t *testing.T) {
	b := filled(t)
	for _, p := range nowhere() {
		if n, e := b.r.Get(p); n != 0 || e != api.ErrArg {
			t.Errorf("Get(%v) = %d, error %d", p, n, e)
		}
		for _, addr := range append([]int{0, 1, 64, -1}, beyond...) {
			if e := b.r.Set(p, addr); e != api.ErrArg {
				t.Errorf("Set(%v, %d): error %d", p, addr, e)
			}
		}
	}
	b.same("after Get and Set of no places")
}

// With any number of mutators, the slots of the next one are none.
func TestSlotsOfNoMutator(t *testing.T) {
	for mutators := 1; mutators <= api.MaxMutators; mutators++ {
		b := newBoth(t, mutators)
		for index := range 16 {
			n, e := b.r.Get(slot(mutators, index))
			expectError(t, "Get of a slot of no mutator", alone(n, e), api.ErrArg)
			b.refused("Set of a slot of no mutator", b.r.Set(slot(mutators, index), 1), api.ErrArg)
			b.set(slot(mutators-1, index), index+1)
		}
		b.same("after the slots of the last mutator were set")
	}
}

func TestAddressesRefused(t *testing.T) {
	b := filled(t)
	negative := []int{-1, -2, -64, -70}
	for _, n := range beyond {
		if n < 0 {
			negative = append(negative, n)
		}
	}
	for _, addr := range negative {
		for _, p := range b.m.all() {
			expectError(t, "Set to less than 0", b.r.Set(p, addr), api.ErrArg)
		}
		b.refused("Push of less than 0", b.r.Push(addr), api.ErrArg)
	}
	for index := range 4 {
		b.refused("Set of an element to 0", b.r.Set(queued(index), 0), api.ErrArg)
	}
	b.refused("Push of 0", b.r.Push(0), api.ErrArg)
}

// With an empty queue, no element of it is a place.
func TestEmptyQueueRefused(t *testing.T) {
	b := newBoth(t, 2)
	for _, index := range append([]int{0, 1, 63, 64, -1}, beyond...) {
		n, e := b.r.Get(queued(index))
		expectError(t, "Get of an element of an empty queue", alone(n, e), api.ErrArg)
		expectError(t, "Set of an element of an empty queue", b.r.Set(queued(index), 5), api.ErrArg)
	}
	n, e := b.r.Pop()
	b.refused("Pop of an empty queue", alone(n, e), api.ErrNone)
}

// R1: Roots that are nil, and Roots that no function returned; ErrState is ahead of all other errors.
func TestRootsThatWereNotMade(t *testing.T) {
	for name, r := range map[string]*roots.Roots{"nil": nil, "zero": new(roots.Roots)} {
		for range 2 { // nothing that was called before makes a difference
			places := append([]api.Place{slot(0, 0), slot(0, 15), global(0), global(15), queued(0)}, nowhere()...)
			for _, p := range places {
				n, e := r.Get(p)
				expectError(t, name+": Get", alone(n, e), api.ErrState)
				expectError(t, name+": Set", r.Set(p, 5), api.ErrState)
				expectError(t, name+": Set to 0", r.Set(p, 0), api.ErrState)
				expectError(t, name+": Set to less than 0", r.Set(p, -1), api.ErrState)
			}
			for _, addr := range append([]int{1, 0, -1}, beyond...) {
				expectError(t, name+": Push", r.Push(addr), api.ErrState)
			}
			n, e := r.Pop()
			expectError(t, name+": Pop", alone(n, e), api.ErrState)
			for _, lists := range [][2][]int{{nil, nil}, {{1}, {2}}, {{1}, {}}, {{2, 1}, {1, 2}}, {{0}, {0}}} {
				n, e := r.Replace(lists[0], lists[1])
				expectError(t, name+": Replace", alone(n, e), api.ErrState)
			}
			if len(r.Places()) != 0 || len(r.Leads()) != 0 || len(r.Queue()) != 0 || r.Mutators() != 0 || r.Clone() != nil {
				t.Errorf("%s: %v, %v, %v, %d mutators, clone %v", name, r.Places(), r.Leads(), r.Queue(), r.Mutators(), r.Clone())
			}
		}
	}
}
