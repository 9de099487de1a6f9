package roots_test

import (
	"math"
	"slices"
	"testing"

	"dustcart/api"
	"dustcart/roots"
)

// beyond are numbers far outside of all ranges, at which a sum, a difference or a product would overflow.
var beyond = []int{math.MinInt, math.MinInt + 1, math.MinInt / 2, math.MinInt / 16, math.MinInt32, -1 << 16, 1 << 16, math.MaxInt32, math.MaxInt32 + 1, math.MaxInt / 16, math.MaxInt/2 + 1, math.MaxInt - 1, math.MaxInt}

func slot(mutator, index int) api.Place {
	return api.Place{Kind: api.PlaceSlot, Mutator: mutator, Index: index}
}

func global(index int) api.Place {
	return api.Place{Kind: api.PlaceGlobal, Index: index}
}

func queued(index int) api.Place {
	return api.Place{Kind: api.PlaceQueue, Index: index}
}

func newRoots(t *testing.T, mutators int) *roots.Roots {
	t.Helper()
	r, e := roots.New(mutators)
	if e != api.OK || r == nil {
		t.Fatalf("New(%d): %v, error %d", mutators, r, e)
	}
	return r
}

// both is roots and their model: what is done with the one is done with the other.
type both struct {
	t *testing.T
	r *roots.Roots
	m *model
}

func newBoth(t *testing.T, mutators int) both {
	t.Helper()
	return both{t, newRoots(t, mutators), newModel(mutators)}
}

func (b both) clone() both {
	return both{b.t, b.r.Clone(), b.m.clone()}
}

// set lets a place be an address, in both, which must succeed.
func (b both) set(p api.Place, addr int) {
	b.t.Helper()
	if e := b.m.Set(p, addr); e != api.OK {
		b.t.Fatalf("Set(%v, %d): the test itself is wrong: error %d of the model", p, addr, e)
	}
	if e := b.r.Set(p, addr); e != api.OK {
		b.t.Fatalf("Set(%v, %d): error %d", p, addr, e)
	}
}

func (b both) push(addrs ...int) {
	b.t.Helper()
	for _, addr := range addrs {
		if e := b.m.Push(addr); e != api.OK {
			b.t.Fatalf("Push(%d): the test itself is wrong: error %d of the model", addr, e)
		}
		if e := b.r.Push(addr); e != api.OK {
			b.t.Fatalf("Push(%d): error %d", addr, e)
		}
	}
}

func (b both) pop(want int) {
	b.t.Helper()
	b.m.Pop()
	n, e := b.r.Pop()
	expectNumber(b.t, "Pop", n, e, want)
}

// replace replaces in both; how many places it must be is told by the test, not by the model alone.
func (b both) replace(from, to []int, want int) {
	b.t.Helper()
	n, e := b.m.Replace(from, to)
	if n != want || e != api.OK {
		b.t.Fatalf("Replace(%v, %v): the test itself is wrong: %d of the model, not %d", from, to, n, want)
	}
	n, e = b.r.Replace(from, to)
	expectNumber(b.t, "Replace", n, e, want)
}

// near returns the places that there are for these roots, and those that are next to them, and are none.
func near(m *model) []api.Place {
	var list []api.Place
	for kind := -1; kind <= 3; kind++ {
		for mutator := -1; mutator <= m.mutators; mutator++ {
			for index := -1; index <= max(16, len(m.queue)); index++ {
				list = append(list, api.Place{Kind: kind, Mutator: mutator, Index: index})
			}
		}
	}
	return list
}

// same compares all that the roots tell with what their model does.
func (b both) same(when string) {
	b.t.Helper()
	for _, p := range near(b.m) {
		n, e := b.r.Get(p)
		wantN, wantE := b.m.Get(p)
		if n != wantN || e != wantE {
			b.t.Fatalf("%s: Get(%v) = %d, error %d, want %d, error %d", when, p, n, e, wantN, wantE)
		}
	}
	if got, want := b.r.Places(), b.m.Places(); !slices.Equal(got, want) {
		b.t.Fatalf("%s: Places = %v, want %v", when, got, want)
	}
	if got, want := b.r.Leads(), b.m.Leads(); !slices.Equal(got, want) {
		b.t.Fatalf("%s: Leads = %v, want %v", when, got, want)
	}
	if got, want := b.r.Queue(), b.m.Queue(); !slices.Equal(got, want) {
		b.t.Fatalf("%s: Queue = %v, want %v", when, got, want)
	}
	if got, want := b.r.Mutators(), b.m.Mutators(); got != want {
		b.t.Fatalf("%s: Mutators = %d, want %d", when, got, want)
	}
}

// refused checks an error, and that it changed nothing.
func (b both) refused(what string, got, want api.Errno) {
	b.t.Helper()
	expectError(b.t, what, got, want)
	b.same("after " + what + ", which was refused")
}

// alone returns an error that has only a zero value beside it, and -1 for any other.
func alone(n int, e api.Errno) api.Errno {
	if n != 0 {
		return -1
	}
	return e
}

func expectNumber(t *testing.T, what string, got int, e api.Errno, want int) {
	t.Helper()
	if got != want || e != api.OK {
		t.Errorf("%s = %d, error %d, want %d", what, got, e, want)
	}
}

func expectError(t *testing.T, what string, got, want api.Errno) {
	t.Helper()
	if got != want {
		t.Errorf("%s: error %d, want %d", what, got, want)
	}
}
