package roots_test

import (
	"slices"
	"testing"

	"dustcart/api"
	"dustcart/roots"
)

// The chapter's two examples, one after the other on the same roots.
func TestExamples(t *testing.T) {
	r := newRoots(t, 2)
	expectError(t, "Set({0 1 3}, 64)", r.Set(api.Place{Kind: 0, Mutator: 1, Index: 3}, 64), api.OK)
	expectError(t, "Set({1 0 0}, 70)", r.Set(api.Place{Kind: 1, Mutator: 0, Index: 0}, 70), api.OK)
	expectError(t, "Push(64)", r.Push(64), api.OK)
	want := []api.Place{{Kind: 0, Mutator: 1, Index: 3}, {Kind: 1, Mutator: 0, Index: 0}, {Kind: 2, Mutator: 0, Index: 0}}
	if got := r.Places(); !slices.Equal(got, want) {
		t.Errorf("Places = %v", got)
	}
	if got := r.Leads(); !slices.Equal(got, []int{64, 70}) {
		t.Errorf("Leads = %v", got)
	}

	n, e := r.Replace([]int{64, 70}, []int{70, 64})
	expectNumber(t, "Replace", n, e, 3)
	n, e = r.Get(api.Place{Kind: 0, Mutator: 1, Index: 3})
	expectNumber(t, "Get({0 1 3})", n, e, 70)
	n, e = r.Pop()
	expectNumber(t, "Pop", n, e, 70)
}

func TestNew(t *testing.T) {
	for mutators := 1; mutators <= api.MaxMutators; mutators++ {
		b := newBoth(t, mutators)
		b.same("new roots")
		if len(b.r.Places()) != 0 || len(b.r.Leads()) != 0 || len(b.r.Queue()) != 0 {
			t.Errorf("new roots of %d mutators are not empty", mutators)
		}
		n, e := b.r.Pop()
		b.refused("Pop of new roots", alone(n, e), api.ErrNone)
	}
}

func TestNewRefused(t *testing.T) {
	for _, mutators := range append([]int{0, -1, -2, -4, 5, 6, 8, 16}, beyond...) {
		if r, e := roots.New(mutators); r != nil || e != api.ErrArg {
			t.Errorf("New(%d): %v, error %d", mutators, r, e)
		}
	}
}

// P3.1: each place has an address of its own, and Get returns what was set last.
func TestSetEachPlace(t *testing.T) {
	for mutators := 1; mutators <= api.MaxMutators; mutators++ {
		b := newBoth(t, mutators)
		for range api.MaxQueue {
			b.push(1)
		}
		for round := range 3 {
			for i, p := range b.m.all() {
				b.set(p, 1000*round+i+1)
				b.same("after Set")
			}
		}
		all := mutators*16 + 16 + 64
		if got := len(b.r.Places()); got != all {
			t.Errorf("%d places of %d mutators, want %d", got, mutators, all)
		}
		if got := len(b.r.Leads()); got != all {
			t.Errorf("%d addresses of %d mutators, want %d", got, mutators, all)
		}
	}
}

// Slots and globals can be emptied, one by one, in an order other than theirs.
func TestSetEmpty(t *testing.T) {
	b := newBoth(t, 3)
	for i, p := range b.m.all() {
		b.set(p, i+1)
	}
	all := b.m.all()
	for i := range all {
		b.set(all[(i*37+5)%len(all)], 0)
		b.same("after a place was emptied")
	}
	if len(b.r.Places()) != 0 || len(b.r.Leads()) != 0 {
		t.Errorf("places %v", b.r.Places())
	}
	b.set(slot(2, 15), 0) // an empty one is emptied
	b.same("after an empty place was emptied")
}

// The first and the last place of each kind, in order.
func TestPlacesAtEnds(t *testing.T) {
	b := newBoth(t, 4)
	for i := range 64 {
		b.push(500 + i)
	}
	ends := []api.Place{slot(0, 0), slot(0, 15), slot(3, 0), slot(3, 15), global(0), global(15)}
	for i := len(ends) - 1; i >= 0; i-- {
		b.set(ends[i], 10*i+10)
	}
	b.set(queued(0), 70)
	b.set(queued(63), 80)
	b.same("after Set at all ends")
	if got := b.r.Places(); !slices.Equal(got[:6], ends) || got[6] != queued(0) || got[69] != queued(63) {
		t.Errorf("Places = %v", got)
	}
	if got := b.r.Leads(); !slices.Equal(got[:8], []int{10, 20, 30, 40, 50, 60, 70, 501}) || got[69] != 80 {
		t.Errorf("Leads = %v", got)
	}
}

// Addresses may be any numbers from 0 on: roots do not know whether there are objects.
func TestAnyAddresses(t *testing.T) {
	b := newBoth(t, 1)
	for _, addr := range append([]int{1, 2, 3, 63, 64, 4095, 4096}, beyond...) {
		if addr < 0 {
			continue
		}
		b.set(slot(0, 0), addr)
		b.set(global(15), addr)
		b.push(addr)
		b.same("after a great address")
		b.replace([]int{addr}, []int{addr}, 3)
		b.pop(addr)
	}
}

// P3.3: each address once, in the order of the first place of each.
func TestLeads(t *testing.T) {
	b := newBoth(t, 2)
	b.push(7, 9, 7, 3)
	b.set(global(15), 9)
	b.set(global(2), 5)
	b.set(slot(1, 0), 5)
	b.set(slot(0, 15), 8)
	b.same("with addresses in many places")
	if got := b.r.Leads(); !slices.Equal(got, []int{8, 5, 9, 7, 3}) {
		t.Errorf("Leads = %v", got)
	}
	b.set(slot(1, 0), 3)
	b.set(slot(0, 15), 0)
	if got := b.r.Leads(); !slices.Equal(got, []int{3, 5, 9, 7}) {
		t.Errorf("Leads = %v", got)
	}
}

func TestLeadsOfOneAddress(t *testing.T) {
	b := newBoth(t, 4)
	for range 64 {
		b.push(1)
	}
	for _, p := range b.m.all() {
		b.set(p, 6)
	}
	b.same("with one address in all places")
	if got := b.r.Leads(); !slices.Equal(got, []int{6}) {
		t.Errorf("Leads = %v", got)
	}
	b.replace([]int{5, 6, 7}, []int{1, 2, 3}, 144)
	b.same("after it was replaced")
	if got := b.r.Leads(); !slices.Equal(got, []int{2}) {
		t.Errorf("Leads = %v", got)
	}
}

// filled is roots with all that a state has: slots, globals and a queue, with addresses that are in several places, and elements that were popped and set.
func filled(t *testing.T) both {
	t.Helper()
	b := newBoth(t, 3)
	b.push(2, 64, 70, 64, 80)
	b.pop(2)
	b.set(queued(2), 90)
	b.set(slot(0, 0), 64)
	b.set(slot(0, 15), 70)
	b.set(slot(2, 0), 100)
	b.set(slot(2, 15), 64)
	b.set(global(0), 110)
	b.set(global(15), 70)
	b.same("the filled roots")
	return b
}

// P3.6: whatever is done with roots, their clone stays as it was, and the other way round.
func TestCloneStays(t *testing.T) {
	acts := map[string]func(r *roots.Roots){
		"Set of a slot":     func(r *roots.Roots) { r.Set(slot(2, 15), 1) },
		"Set of slot 0":     func(r *roots.Roots) { r.Set(slot(0, 0), 0) },
		"Set of a global":   func(r *roots.Roots) { r.Set(global(0), 0) },
		"Set of an element": func(r *roots.Roots) { r.Set(queued(3), 1) },
		"Push":              func(r *roots.Roots) { r.Push(1) },
		"Pop":               func(r *roots.Roots) { r.Pop() },
		"Pop and Push":      func(r *roots.Roots) { r.Pop(); r.Push(1) },
		"Replace":           func(r *roots.Roots) { r.Replace([]int{64, 70, 110}, []int{70, 64, 1}) },
	}
	for name, act := range acts {
		b := filled(t)
		clone := b.clone()
		clone.same("a clone")
		act(b.r)
		clone.same("a clone, after " + name + " of the roots")
		b = filled(t)
		clone = b.clone()
		act(clone.r)
		b.same("the roots, after " + name + " of a clone")
		if slices.Equal(b.r.Places(), clone.r.Places()) && slices.Equal(b.r.Leads(), clone.r.Leads()) && slices.Equal(b.r.Queue(), clone.r.Queue()) {
			t.Errorf("%s changed nothing: the test itself is wrong", name)
		}
	}
}

// Both go on from the same state, each its own way, with pushes that would share memory if it were the same.
func TestCloneGoesOn(t *testing.T) {
	b := filled(t)
	clone := b.clone()
	again := clone.clone()
	for i := range 50 {
		b.push(1000 + i)
		clone.push(2000 + i)
		b.set(slot(1, i%16), 3000+i)
		clone.set(global(i%16), 4000+i)
	}
	for _, want := range []int{64, 70, 90, 80, 1000} {
		b.pop(want)
	}
	clone.pop(64)
	b.same("the roots")
	clone.same("the clone")
	again.same("the clone of the clone")
}

func TestCloneOfEmpty(t *testing.T) {
	b := newBoth(t, 1)
	clone := b.clone()
	clone.same("the clone of empty roots")
	clone.push(5)
	clone.set(slot(0, 0), 6)
	b.same("empty roots")
	clone.same("the clone of empty roots, filled")
}

// R5: what was returned is new memory each time, and arguments are neither changed nor kept.
func TestMemoryIsNew(t *testing.T) {
	b := filled(t)
	places, leads, queue := b.r.Places(), b.r.Leads(), b.r.Queue()
	for i := range places {
		places[i] = api.Place{Kind: 7, Mutator: 7, Index: 7}
	}
	for i := range leads {
		leads[i] = 7
	}
	for i := range queue {
		queue[i] = 7
	}
	b.same("after changes of results")
	_ = append(queue, 8)
	b.push(9)
	b.same("after a result was appended to")

	old := b.r.Queue()
	b.pop(64)
	b.push(11, 12)
	b.set(queued(0), 13)
	if !slices.Equal(old, []int{64, 70, 90, 80, 9}) {
		t.Errorf("a result of Queue became %v", old)
	}
}

func TestArgumentsStay(t *testing.T) {
	b := filled(t)
	from, to := []int{64, 70, 90}, []int{90, 64, 64}
	b.replace(from, to, 7)
	if !slices.Equal(from, []int{64, 70, 90}) || !slices.Equal(to, []int{90, 64, 64}) {
		t.Errorf("arguments of Replace became %v, %v", from, to)
	}
	from[0], to[0] = 7, 7
	b.same("after changes of arguments")
}

// R6: the same calls tell the same, however often.
func TestTellingChangesNothing(t *testing.T) {
	b := filled(t)
	for range 3 {
		b.same("told again")
	}
}
