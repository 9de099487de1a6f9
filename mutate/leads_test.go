package mutate_test

import (
	"math"
	"slices"
	"testing"

	"dustcart/api"
	"dustcart/mutate"
)

// leads expects addresses that are told by the test, and that nothing is changed; twice, so that a result that is changed does not matter.
func (w world) leads(want ...int) {
	w.t.Helper()
	before := w.state()
	for range 2 {
		got := mutate.Leads(w.h, w.r)
		if !slices.Equal(got, want) {
			w.t.Errorf("Leads = %v, want %v", got, want)
		}
		for i := range got {
			got[i] = -1
		}
	}
	w.unchanged("after Leads", before)
}

// Each object once, rising, whatever the order of the places that lead to it, and how many there are.
func TestLeads(t *testing.T) {
	w := newWorld(t, 6, 3, First)
	w.leads()
	w.acts(0, create(3, leaf), create(2, leaf), create(1, leaf)) // 64, 66, 68
	w.leads(64, 66, 68)
	w.acts(2, create(15, large), create(0, link)) // 128, 70
	w.leads(64, 66, 68, 70, 128)
	w.acts(0, copied(7, 3), copied(0, 3), export(3, 15), drop(2))
	w.acts(1, imported(0, 15), imported(15, 15))
	w.leads(64, 68, 70, 128)
	w.acts(2, export(15, 0), store(0, 0, 15), drop(15))
	w.leads(64, 68, 70, 128) // by a global
	w.acts(2, drop(15), export(15, 0))
	w.leads(64, 68, 70) // a reference is no place
	w.push(4)
	w.leads(64, 68, 70, 128) // by the queue
	w.push(2)
	w.push(4)
	w.leads(64, 66, 68, 70, 128)
	for range 3 {
		w.r.Pop()
	}
	w.leads(64, 68, 70)
}

// Places that lead to no object are left out, all others stay.
func TestLeadsOfBrokenPlaces(t *testing.T) {
	w := newWorld(t, 4, 2, First)
	for i, addr := range []int{1, 2, 65, 66, 128, 256, math.MaxInt} {
		w.set(slot(1, i), addr)
		w.set(global(i), addr)
		w.r.Push(addr)
	}
	w.leads()
	w.do(0, create(0, fork)) // 64: its words go on to 67
	w.leads(64)
	w.do(0, create(0, leaf)) // 68
	w.leads(68)
	w.set(queued(0), 64)
	w.leads(64, 68)
	w.kill(68)
	w.leads(64)
	w.kill(64)
	w.leads()
}

// Leads of any state are the addresses of places at which there is an object.
func TestLeadsOfTangled(t *testing.T) {
	w := tangled(t)
	var want []int
	for addr := range 64 * 6 {
		var led bool
		for _, p := range w.r.Places() {
			at, _ := w.r.Get(p)
			led = led || at == addr
		}
		if led && w.ident(addr) > 0 {
			want = append(want, addr)
		}
	}
	if len(want) < 4 || !slices.Contains(w.r.Leads(), gone) {
		t.Fatalf("the test itself is wrong: %v", want)
	}
	w.leads(want...)
	if e := w.h.Unpin(w.at(4)); e != api.OK {
		t.Fatalf("the test itself is wrong: error %d", e)
	}
	w.leads(want...)
}
