package mutate_test

import (
	"math"
	"testing"

	"dustcart/api"
)

// What a slot can be: of mutator 1 of the tangled world.
const (
	isObject = 15
	isBroken = 2
	isEmpty  = 4
)

// brokenAddresses are addresses that a slot can be, but no object has, in the tangled world: odd ones, ones of words within an object, of gaps, of free blocks, of block 0, and of no words.
func (w world) brokenAddresses() []int {
	list := []int{1, 2, 62, 63, 65, 66, gone, gone + 1, 126, 5 * 64, 6*64 - 2, 6 * 64, 6*64 + 2, 1000, math.MaxInt32, math.MaxInt - 1, math.MaxInt}
	for _, addr := range w.h.All() {
		list = append(list, addr+1)
	}
	return list
}

// Whatever slots A and B are, each kind of act returns the errors of the chapter, and is done otherwise.
func TestSlotsOfAllKinds(t *testing.T) {
	// By what slot A is, and by what slot B is: an object, broken, empty. The index is that of a reference and a data word of the object.
	for kind, want := range [12][3][3]api.Errno{
		api.ActNew:    {},
		api.ActLoad:   {{0, 5, 7}, {0, 5, 7}, {0, 5, 7}},
		api.ActStore:  {{0, 5, 0}, {5, 5, 5}, {7, 7, 7}},
		api.ActPut:    {{}, {5, 5, 5}, {7, 7, 7}},
		api.ActGet:    {{}, {5, 5, 5}, {7, 7, 7}},
		api.ActCopy:   {},
		api.ActDrop:   {},
		api.ActSame:   {},
		api.ActIdent:  {{}, {5, 5, 5}, {}},
		api.ActExport: {},
		api.ActImport: {},
		api.ActShape:  {{}, {5, 5, 5}, {7, 7, 7}},
	} {
		for i, a := range []int{isObject, isBroken, isEmpty} {
			for k, b := range []int{isObject, isBroken, isEmpty} {
				for _, addr := range tangled(t).brokenAddresses() {
					w := tangled(t)
					w.set(slot(1, isBroken), addr)
					act := api.Act{Kind: kind, A: a, B: b, I: 1, N: 3}
					if want[i][k] != api.OK {
						w.refused(1, act, want[i][k])
						continue
					}
					p := plain{w.clone(), 1, act}
					if got, want := w.alone(1, act), told(p.do()); got != want || !succeeded(got) {
						t.Errorf("Do(1, %v), %d being broken: %s, want %s", act, addr, got, want)
					}
					w.unchanged(line("after Do(1, ", act, "), held against the plain way"), p.state())
				}
			}
		}
	}
}

// Broken slots and globals are copied like any others, and are the same if their addresses are.
func TestBrokenCopies(t *testing.T) {
	for _, addr := range tangled(t).brokenAddresses() {
		w := tangled(t)
		w.set(slot(1, 2), addr)
		expect := func(a api.Act, want api.Effect) {
			t.Helper()
			if got, want := w.alone(1, a), told(want, api.OK); got != want {
				t.Errorf("Do(1, %v), %d being broken: %s, want %s", a, addr, got, want)
			}
		}
		expect(copied(3, 2), api.Effect{Loaded: addr})
		expect(alike(3, 2), api.Effect{Told: []int{1}})
		expect(alike(2, 2), api.Effect{Told: []int{1}})
		expect(alike(2, 0), api.Effect{Told: []int{0}})
		expect(alike(4, 2), api.Effect{Told: []int{0}})
		expect(export(3, 7), api.Effect{})
		expect(drop(3), api.Effect{})
		expect(drop(2), api.Effect{})
		expect(alike(3, 2), api.Effect{Told: []int{1}})
		expect(imported(2, 7), api.Effect{Loaded: addr})
		expect(create(2, leaf), api.Effect{Made: w.clone().placed(leaf)})
		expect(imported(0, 7), api.Effect{Loaded: addr})
		expect(copied(0, 4), api.Effect{})
	}
}

// placed returns where the allocator places an object.
func (w world) placed(s api.Shape) int {
	w.t.Helper()
	addr, e := w.a.Alloc(s)
	if e != api.OK {
		w.t.Fatalf("Alloc(%v): the test itself is wrong: error %d", s, e)
	}
	return addr
}

// A reference that leads to no object is loaded all the same, if it is not below 0, and stored over, whatever it is.
func TestBrokenReferences(t *testing.T) {
	w := tangled(t)
	at := w.at(3) // in slot 0 of mutator 1
	for i := range 2 {
		for _, ref := range append([]int{-1, -2, -5, -64, -gone}, append(w.brokenAddresses(), beyond...)...) {
			w.poke(at+2+i, ref)
			for _, a := range []int{0, isObject, isBroken, isEmpty} {
				c := w.clone()
				if ref < 0 {
					c.refused(1, load(a, 0, i), api.ErrState)
					continue
				}
				if got, want := c.alone(1, load(a, 0, i)), told(api.Effect{Loaded: ref}, api.OK); got != want {
					t.Errorf("ActLoad of %d: %s, want %s", ref, got, want)
				}
				if got, _ := c.r.Get(slot(1, a)); got != ref {
					t.Errorf("ActLoad of %d: the slot is %d", ref, got)
				}
			}
			for _, b := range []int{0, 1, isObject, isEmpty} {
				c := w.clone()
				to, _ := c.r.Get(slot(1, b))
				if got, want := c.alone(1, store(0, i, b)), told(api.Effect{Object: at, I: i, Old: ref, New: to}, api.OK); got != want {
					t.Errorf("ActStore over %d: %s, want %s", ref, got, want)
				}
				if got, e := c.h.Ref(at, i); got != to || e != api.OK {
					t.Errorf("ActStore over %d: the reference is %d, error %d", ref, got, e)
				}
			}
			w.refused(1, store(0, i, isBroken), api.ErrState)
			w.refused(1, load(isEmpty, 0, 2), api.ErrArg) // the index, before the reference
		}
	}
}

// A slot that was broken is not any more, if an object is placed at its address: another one, with an identity of its own.
func TestMendedSlot(t *testing.T) {
	w := newWorld(t, 4, 1, First)
	w.acts(0, create(0, fork), create(1, word), copied(2, 0))
	w.kill(64)
	w.refused(0, ident(0), api.ErrState)
	w.refused(0, shape(2), api.ErrState)
	for _, x := range []struct {
		a    api.Act
		want api.Effect
	}{
		{create(1, word), api.Effect{Made: 64}},
		{ident(0), api.Effect{Told: []int{3}}},
		{shape(2), api.Effect{Told: []int{0, 1, 0}}},
		{alike(0, 1), api.Effect{Told: []int{1}}},
	} {
		if got, want := w.alone(0, x.a), told(x.want, api.OK); got != want {
			t.Errorf("Do(0, %v): %s, want %s", x.a, got, want)
		}
	}
	w.refused(0, load(0, 0, 0), api.ErrArg)
}
