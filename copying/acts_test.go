package copying_test

import (
	"slices"
	"testing"

	"dustcart/alloc"
	"dustcart/api"
	"dustcart/copying"
	"dustcart/model"
	"dustcart/mutate"
	"dustcart/sweep"
	"dustcart/trace"
)

// dice are numbers in a fixed order that looks like none.
type dice uint32

func (d *dice) next(n int) int {
	*d = *d*1664525 + 1013904223
	return int(*d>>12) % n
}

// act returns any act, mostly on a few slots; stores are frequent, so that graphs are dense.
func (d *dice) act() api.Act {
	a := api.Act{Kind: d.next(12), A: d.next(6), B: d.next(6), I: d.next(3), N: d.next(100), Shape: api.Shape{Refs: d.next(5), Data: d.next(10), Kind: d.next(4)}}
	switch d.next(10) {
	case 0, 1, 2:
		a.Kind = api.ActStore
	case 3, 4:
		a.Kind = api.ActNew
	case 5:
		a.Kind = []int{api.ActLoad, api.ActDrop}[d.next(2)]
	}
	if a.Kind == api.ActNew && d.next(20) == 0 {
		a.Shape.Data = 25 + d.next(100)
	}
	return a
}

const first = 0 // a policy

// acting is a world in which mutators act, and a model to which the same acts are done.
type acting struct {
	world
	a *alloc.Allocator
	m *model.Model
}

func newActing(t *testing.T, blocks, mutators, policy int) acting {
	t.Helper()
	w := newWorld(t, blocks, mutators)
	m, e := model.New(mutators)
	w.ok("model.New", e)
	a, e := alloc.New(w.h, 3, policy)
	w.ok("alloc.New", e)
	return acting{w, a, m}
}

func (w acting) clone() acting {
	c := w.world.clone()
	return acting{c, w.a.Clone(c.h), w.m.Clone()}
}

// do does an act in both, or in neither if the heap is full: both must tell the same (P1).
func (w acting) do(mutator int, a api.Act) api.Errno {
	w.t.Helper()
	x, e := mutate.Do(w.h, w.r, w.a, mutator, a)
	if e == api.ErrFull {
		return e
	}
	y, want := w.m.Do(mutator, a)
	if e != want || !slices.Equal(x.Told, y.Told) {
		w.t.Fatalf("Do(%d, %v): told %v, error %d, want %v, error %d", mutator, a, x.Told, e, y.Told, want)
	}
	return e
}

// queue pushes an object that is in a slot to both queues, or removes the oldest one of both.
func (w acting) queue(d *dice) {
	w.t.Helper()
	addr, _ := w.r.Get(slot(d.next(w.r.Mutators()), d.next(6)))
	if addr != 0 && len(w.r.Queue()) < 4 {
		w.push(addr)
		w.m.Push(w.ident(addr))
		return
	}
	w.r.Pop()
	w.m.Pop()
}

// pins pins one object, and another one not any more.
func (w acting) pins(d *dice) {
	if all := w.h.All(); len(all) > 0 {
		w.h.Pin(all[d.next(len(all))])
		w.h.Unpin(all[d.next(len(all))])
		w.h.Unpin(all[d.next(len(all))])
	}
}

// matches checks P9.1: that just the objects that the model keeps are there, and that the heap is as the model.
func (w acting) matches(when string) {
	w.t.Helper()
	if got := w.idents(); !slices.Equal(got, w.m.Kept()) {
		w.t.Fatalf("%s: there are %v, but the model keeps %v", when, got, w.m.Kept())
	}
	if !mutate.Match(w.h, w.r, w.m) {
		w.t.Fatalf("%s: the heap does not match the model", when)
	}
}

// tally is what a test did in all.
type tally struct {
	api.Report
	full, differ int
}

// holds holds Collect and Room against the plain way, whatever the heap and the roots are.
func (w world) holds(space, order int, sum *tally) api.Errno {
	w.t.Helper()
	p, want, wantMoves, wantE, wantRoom := w.plainly(space, order)
	if wantE == api.ErrState {
		if n, e := copying.Room(w.h, w.r, order); n != 0 || e != api.ErrState {
			w.t.Fatalf("Room(%d): %d, error %d, want error %d", order, n, e, api.ErrState)
		}
	} else {
		w.room(order, wantRoom)
	}
	if wantE != api.OK {
		w.refuses(space, order, wantE) // P9.8
		if wantE == api.ErrFull {
			sum.full++
		}
		return wantE
	}
	w.collects(space, order, want, wantMoves...)
	w.as(p.world, "after Collect, held against the plain way")
	sum.Kept += want.Kept
	sum.Freed += want.Freed
	sum.Moved += want.Moved
	sum.Cleared += want.Cleared
	return api.OK
}

// bothOrders holds both orders against the plain way, on clones, and against each other: they keep the same objects (P9.4).
func (w world) bothOrders(space int, sum *tally) {
	w.t.Helper()
	kept, e := trace.Kept(w.h, w.r)
	w.ok("Kept", e)
	var idents []int
	for _, addr := range kept {
		idents = append(idents, w.ident(addr))
	}
	slices.Sort(idents)
	var states [2][]int
	for order := range states {
		c := w.clone()
		if c.holds(space, order, sum) != api.OK {
			continue
		}
		if !slices.Equal(c.idents(), idents) {
			w.t.Fatalf("order %d keeps %v, want %v", order, c.idents(), idents)
		}
		c.again(space)
		states[order] = c.state()
	}
	if states[0] != nil && states[1] != nil && !slices.Equal(states[0], states[1]) {
		sum.differ++
	}
}

// collect collects the heap and the model. If there is no room for that, the heap is swept instead, and slots are emptied.
func (w *acting) collect(space, order, policy int, sum *tally) {
	w.t.Helper()
	w.bothOrders(space, sum)
	cleared := sum.Cleared
	if w.holds(space, order, sum) == api.OK {
		if n := w.m.Collect(); n != sum.Cleared-cleared {
			w.t.Fatalf("Collect: %d objects were cleared, in the model %d", sum.Cleared-cleared, n)
		}
		w.matches("after Collect")
	} else {
		sweep.Collect(w.h, w.r)
		w.m.Collect()
		for mutator := range w.r.Mutators() {
			for i := range 6 {
				w.do(mutator, api.Act{Kind: api.ActDrop, A: i})
			}
		}
	}
	a, e := alloc.New(w.h, space, policy)
	w.ok("alloc.New", e)
	w.a = a
}

// P9.1 to P9.8, on heaps that long lists of acts of several mutators left, which go on after each collection, with allocators of every space.
func TestActsAgainstTheModel(t *testing.T) {
	for policy := range 5 {
		var sum tally
		for mutators := 1; mutators <= api.MaxMutators; mutators++ {
			w, d := newActing(t, 9+4*mutators, mutators, policy), dice(100*policy+mutators)
			for i := range 2500 {
				e := w.do(d.next(mutators), d.act())
				if i%12 == 5 {
					w.queue(&d)
				}
				if i%30 == 15 {
					w.pins(&d)
				}
				if i%100 == 50 {
					c := w.clone()
					c.bothOrders(d.next(8), &sum)
				}
				if e == api.ErrFull || i%150 == 149 {
					w.collect(d.next(8), d.next(2), policy, &sum)
				}
			}
			w.collect(d.next(8), d.next(2), policy, &sum)
		}
		if sum.Kept < 3000 || sum.Freed < 4000 || sum.Moved < 3000 || sum.Cleared < 100 || sum.full < 2 || sum.differ < 10 {
			t.Errorf("the test itself is idle: policy %d: %+v", policy, sum)
		}
	}
}

// meddle does something to a heap: claims, releases, places, kills, moves, pins, and damage.
func (w world) meddle(d *dice) {
	block, addr := d.next(w.h.Blocks()), 2*d.next(32*w.h.Blocks())
	all := append(w.h.All(), addr)
	object := all[d.next(len(all))]
	switch d.next(9) {
	case 0:
		w.h.Claim(block, d.next(8))
	case 1:
		w.h.ClaimLarge(block, 1+d.next(3), d.next(8))
	case 2:
		for _, at := range w.h.Objects(block) {
			w.h.Kill(at)
		}
		w.h.Release(block)
	case 3:
		w.h.Kill(object)
	case 4:
		w.h.Move(object, addr)
	case 5:
		w.h.Pin(object)
	case 6:
		w.h.Poke(object+2+d.next(3), []int{addr, object, -2, 1 << 40}[d.next(4)])
	default:
		w.h.Place([]int{addr, 64 * block}[d.next(2)], api.Shape{Refs: d.next(4), Data: []int{0, 2, 12, 24, 60, 100}[d.next(6)], Kind: d.next(4)})
	}
}

// Collect and Room of heaps and roots that may not be sound, held against the plain way.
func TestCollectOfAnyHeaps(t *testing.T) {
	for mutators := 1; mutators <= api.MaxMutators; mutators++ {
		w, d := newActing(t, 6+4*mutators, mutators, mutators), dice(500+mutators)
		refused, done := 0, 0
		var sum tally
		for i := range 1500 {
			if _, e := mutate.Do(w.h, w.r, w.a, d.next(mutators), d.act()); e == api.ErrFull || i%100 == 0 {
				w = newActing(t, 6+4*mutators, mutators, mutators)
			}
			if i%20 == 10 {
				w.meddle(&d)
			}
			if i%25 == 19 {
				w.r.Set(slot(d.next(mutators), d.next(6)), 2*d.next(200))
			}
			c := w.world.clone()
			switch c.holds(d.next(8), d.next(2), &sum) {
			case api.OK:
				done++
			case api.ErrState:
				refused++
			}
		}
		if done < 100 || refused < 100 {
			t.Errorf("the test itself is idle: %d collections, %d refused", done, refused)
		}
	}
}

// link makes any objects, of which each one leads to any others, and any of which places lead to.
func (w world) link(d *dice, objects, kinds int) {
	w.t.Helper()
	a, e := alloc.New(w.h, d.next(8), first)
	w.ok("alloc.New", e)
	for range objects {
		s := api.Shape{Refs: 2 + d.next(3), Data: []int{0, 0, 1, 2, 9, 27, 40}[d.next(7)], Kind: []int{api.Plain, api.Special, api.Weak, api.Ephemeron}[d.next(kinds)]}
		if _, e := a.Alloc(s); e != api.OK {
			break
		}
	}
	all := w.h.All()
	for _, addr := range all {
		for i := range w.shape(addr).Refs {
			if d.next(3) > 0 {
				w.ok("SetRef", w.h.SetRef(addr, i, all[d.next(len(all))]))
			}
		}
		if d.next(12) == 0 {
			w.pin(addr)
		}
	}
	for range 1 + d.next(3) {
		w.set(slot(d.next(w.r.Mutators()), d.next(16)), all[d.next(len(all))])
		w.set(global(d.next(16)), all[d.next(len(all))])
		w.push(all[d.next(len(all))])
	}
}

// Graphs of any objects, in heaps of which some have too little room: of plain objects, without Ephemerons, and of all kinds, so that there are chains of rounds.
func TestCollectOfAnyGraphs(t *testing.T) {
	for kinds := 1; kinds <= 4; kinds++ {
		var sum tally
		d := dice(9000 + kinds)
		for range 250 {
			w := newWorld(t, 8+d.next(32), 1+d.next(4))
			w.link(&d, 5+d.next(60), kinds)
			w.bothOrders(d.next(8), &sum)
		}
		if sum.Kept < 4000 || sum.Moved < 3000 || sum.full < 20 || sum.differ < 100 || kinds > 2 && sum.Cleared < 100 {
			t.Errorf("the test itself is idle: %d kinds: %+v", kinds, sum)
		}
	}
}
