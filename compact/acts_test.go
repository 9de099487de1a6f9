package compact_test

import (
	"slices"
	"testing"

	"dustcart/alloc"
	"dustcart/api"
	"dustcart/compact"
	"dustcart/model"
	"dustcart/mutate"
	"dustcart/side"
)

// dice are numbers in a fixed order that looks like none.
type dice uint32

func (d *dice) next(n int) int {
	*d = *d*1664525 + 1013904223
	return int(*d>>12) % n
}

// act returns any act, mostly on a few slots; stores are frequent, so that graphs are dense.
func (d *dice) act() api.Act {
	a := api.Act{Kind: d.next(12), A: d.next(8), B: d.next(8), I: d.next(3), N: d.next(100), Shape: api.Shape{Refs: d.next(5), Data: d.next(10), Kind: d.next(4)}}
	switch d.next(10) {
	case 0, 1, 2:
		a.Kind = api.ActStore
	case 3, 4:
		a.Kind = api.ActNew
	case 5:
		a.Kind = []int{api.ActLoad, api.ActDrop}[d.next(2)]
	}
	if a.Kind == api.ActNew && d.next(12) == 0 {
		a.Shape.Data = 25 + d.next(100)
	} else if a.Kind == api.ActNew && d.next(8) == 0 {
		a.Shape.Data = 10 + d.next(16)
	}
	return a
}

// acting is a world in which mutators act, with allocators of several spaces, and a model to which the same acts are done.
type acting struct {
	world
	spaces []int
	policy int
	a      []*alloc.Allocator
	m      *model.Model
}

func newActing(t *testing.T, blocks, mutators, policy int, spaces ...int) acting {
	t.Helper()
	w := acting{world: newWorld(t, blocks, mutators), spaces: spaces, policy: policy}
	m, e := model.New(mutators)
	w.ok("model.New", e)
	w.m = m
	w.renew()
	return w
}

// renew makes new allocators.
func (w *acting) renew() {
	w.t.Helper()
	w.a = nil
	for _, space := range w.spaces {
		a, e := alloc.New(w.h, space, w.policy)
		w.ok("alloc.New", e)
		w.a = append(w.a, a)
	}
}

// do does an act in both, or in neither if the heap is full: both must tell the same (P1).
func (w acting) do(d *dice, mutator int, a api.Act) api.Errno {
	w.t.Helper()
	x, e := mutate.Do(w.h, w.r, w.a[d.next(len(w.a))], mutator, a)
	if e == api.ErrFull {
		return e
	}
	y, want := w.m.Do(mutator, a)
	if e != want || !slices.Equal(x.Told, y.Told) {
		w.t.Fatalf("Do(%d, %v): told %v, error %d, want %v, error %d", mutator, a, x.Told, e, y.Told, want)
	}
	return e
}

// queue pushes an object that is in a slot to both queues, or removes the oldest one of both.
func (w acting) queue(d *dice) {
	w.t.Helper()
	addr, _ := w.r.Get(slot(d.next(w.r.Mutators()), d.next(8)))
	if addr != 0 && len(w.r.Queue()) < 4 {
		w.push(addr)
		w.m.Push(w.ident(addr))
		return
	}
	w.r.Pop()
	w.m.Pop()
}

// pins pins one object, and two others not any more.
func (w world) pins(d *dice) {
	if all := w.h.All(); len(all) > 0 {
		w.h.Pin(all[d.next(len(all))])
		w.h.Unpin(all[d.next(len(all))])
		w.h.Unpin(all[d.next(len(all))])
	}
}

// tally is what a test did in all.
type tally struct {
	api.Report
	Waste, Pinned, Large, Spaces int
}

// holds holds Collect, or Space, against the plain way, whatever the heap and the roots are.
func (w world) holds(space int, sum *tally) api.Errno {
	w.t.Helper()
	p, want, e := w.plainly(space)
	if e != api.OK {
		w.refuses(space, e)
		return e
	}
	w.collects(space, want, p.moves...)
	w.as(p.world, "held against the plain way")
	waste := p.plainWaste()
	w.wastes(waste)
	sum.Kept += want.Kept
	sum.Freed += want.Freed
	sum.Moved += want.Moved
	sum.Cleared += want.Cleared
	sum.Waste += waste
	for _, addr := range w.h.All() {
		if w.h.Pinned(addr) {
			sum.Pinned++
		}
		if w.words(addr) > 32 {
			sum.Large++
		}
	}
	return api.OK
}

// spaceBySpace holds Plan and Collect against each Space, and each of these against the plain way, on clones.
func (w world) spaceBySpace(sum *tally) {
	w.t.Helper()
	w.wastes(w.plainWaste())
	whole := w.clone()
	w.plans(w.marks(), w.plainPlan(w.marks())...)
	planned, e := compact.Plan(w.h, w.marks())
	w.ok("Plan", e)
	whole.collects(everywhere, whole.report(), planned...)
	var all []api.Move
	for space := range api.MaxSpaces {
		w.clone().holds(space, sum)
		if _, list := w.clone().collect(space); len(list) > 0 {
			sum.Spaces++
			all = append(all, list...)
		}
	}
	if !slices.Equal(all, planned) {
		w.t.Errorf("space by space: %v, want %v", all, planned)
	}
	for space := range api.MaxSpaces {
		whole.again(space)
	}
}

// report is that of Collect of a clone.
func (w world) report() api.Report {
	c := w.clone()
	x, _, _ := compact.Collect(c.h, c.r)
	return x
}

// collect collects the heap, or slides one space of it, and the model.
func (w *acting) collect(d *dice, sum *tally) {
	w.t.Helper()
	w.spaceBySpace(sum)
	space := []int{everywhere, w.spaces[d.next(len(w.spaces))]}[d.next(2)]
	cleared := sum.Cleared
	w.ok("holds", w.holds(space, sum))
	if n := w.m.Collect(); n != sum.Cleared-cleared {
		w.t.Fatalf("%d objects were cleared, in the model %d", sum.Cleared-cleared, n)
	}
	if got := w.idents(); !slices.Equal(got, w.m.Kept()) { // P10.1
		w.t.Fatalf("there are %v, but the model keeps %v", got, w.m.Kept())
	}
	if !mutate.Match(w.h, w.r, w.m) {
		w.t.Fatalf("the heap does not match the model")
	}
	w.renew()
}

// P10.1 to P10.8, on heaps that long lists of acts of several mutators left, which go on after each collection, with allocators of several spaces.
func TestActsAgainstTheModel(t *testing.T) {
	for policy := range 5 {
		var sum tally
		for mutators := 1; mutators <= api.MaxMutators; mutators++ {
			w, d := newActing(t, 12+6*mutators, mutators, policy, []int{0, 7, mutators}[:1+policy%3]...), dice(100*policy+mutators)
			for i := range 2000 {
				e := w.do(&d, d.next(mutators), d.act())
				if i%12 == 5 {
					w.queue(&d)
				}
				if i%25 == 15 && mutators != 2 {
					w.pins(&d)
				}
				if e == api.ErrFull || i%180 == 179 {
					w.collect(&d, &sum)
				}
				if e == api.ErrFull {
					w.do(&d, d.next(mutators), api.Act{Kind: api.ActDrop, A: d.next(8)})
				}
			}
			w.collect(&d, &sum)
		}
		if sum.Kept < 5000 || sum.Freed < 10000 || sum.Moved < 700 || sum.Cleared < 150 || sum.Waste < 1000 || sum.Pinned < 200 || sum.Large < 300 || sum.Spaces < 30 {
			t.Errorf("the test itself is idle: policy %d: %+v", policy, sum)
		}
	}
}

// meddle does something to a heap: claims, releases, places, kills, moves, pins, and damage.
func (w world) meddle(d *dice) {
	block, addr := d.next(w.h.Blocks()), 2*d.next(32*w.h.Blocks())
	all := append(w.h.All(), addr)
	object := all[d.next(len(all))]
	switch d.next(10) {
	case 0:
		w.h.Claim(block, d.next(8))
	case 1:
		w.h.ClaimLarge(block, 1+d.next(3), d.next(8))
	case 2:
		for _, at := range w.h.Objects(block) {
			w.h.Kill(at)
		}
		w.h.Release(block)
	case 3:
		w.h.Kill(object)
	case 4:
		w.h.Move(object, addr)
	case 5:
		w.h.Pin(object)
	case 6:
		w.h.Poke(object+2+d.next(3), []int{addr, object, -2, 1 << 40}[d.next(4)])
	case 7:
		w.h.Retag(block, d.next(8))
	default:
		w.h.Place([]int{addr, 64 * block}[d.next(2)], api.Shape{Refs: d.next(4), Data: []int{0, 2, 12, 24, 60, 100}[d.next(6)], Kind: d.next(4)})
	}
}

// Collect and Space of heaps and roots that may not be sound, and Plan with any marks, held against the plain way.
func TestAnyHeaps(t *testing.T) {
	var sum tally
	refused, done := 0, 0
	for mutators := 1; mutators <= api.MaxMutators; mutators++ {
		w, d := newActing(t, 6+4*mutators, mutators, mutators, 0, 6), dice(500+mutators)
		for i := range 1200 {
			if _, e := mutate.Do(w.h, w.r, w.a[i%2], d.next(mutators), d.act()); e == api.ErrFull || i%100 == 0 {
				w = newActing(t, 6+4*mutators, mutators, mutators, 0, 6)
			}
			if i%15 == 10 {
				w.meddle(&d)
			}
			if i%25 == 19 {
				w.r.Set(slot(d.next(mutators), d.next(8)), 2*d.next(200))
			}
			c := w.world.clone()
			switch c.holds(d.next(9)-1, &sum) {
			case api.OK:
				done++
			case api.ErrState:
				refused++
			}
			c = w.world.clone()
			marks := c.anyMarks(&d)
			c.plans(marks, c.plainPlan(marks)...)
			c.wastes(c.plainWaste())
		}
	}
	if done < 800 || refused < 800 || sum.Moved < 200 || sum.Kept < 2000 || sum.Freed < 1000 || sum.Large < 100 {
		t.Errorf("the test itself is idle: %d collections, %d refused, %+v", done, refused, sum)
	}
}

// anyMarks are marks that no marking left: of any objects, and of any other addresses.
func (w world) anyMarks(d *dice) *side.Table {
	w.t.Helper()
	marks := w.table()
	often := 1 + d.next(4)
	for i := range marks.Entries() {
		if d.next(4) < often {
			w.ok("Set", marks.Set(i, 1))
		}
	}
	return marks
}

// scatter makes any objects at any places of blocks of any spaces, of which any are pinned, which lead to any others, and to any of which places lead.
func (w world) scatter(d *dice, kinds int) {
	w.t.Helper()
	for block := 1; block < w.h.Blocks(); block++ {
		switch d.next(8) {
		case 0:
		case 1:
			if w.h.ClaimLarge(block, 2, d.next(3)) == api.OK {
				w.h.Place(64*block, api.Shape{Refs: d.next(4), Data: 70, Kind: d.next(kinds)})
			}
		default:
			w.h.Claim(block, d.next(3))
		}
	}
	for range 6 * w.h.Blocks() {
		s := api.Shape{Refs: d.next(4), Data: []int{0, 1, 2, 5, 9, 14, 20, 27}[d.next(8)], Kind: d.next(4) % kinds}
		w.h.Place(64+2*d.next(32*(w.h.Blocks()-1)), s)
	}
	all := w.h.All()
	for _, addr := range all {
		for i := range w.shape(addr).Refs {
			w.refs(addr, make([]int, i+1)...)
			w.ok("SetRef", w.h.SetRef(addr, i, all[d.next(len(all))]))
		}
		if d.next(9) == 0 && kinds > 1 {
			w.pin(addr)
		}
	}
	for range 3 + d.next(30) {
		w.set(slot(d.next(w.r.Mutators()), d.next(16)), all[d.next(len(all))])
		w.set(global(d.next(16)), all[d.next(len(all))])
		w.push(all[d.next(len(all))])
	}
}

// Objects at any places of any blocks, of plain objects of which none is pinned, and of all kinds.
func TestAnyGraphs(t *testing.T) {
	for kinds := 1; kinds <= 4; kinds++ {
		var sum tally
		d := dice(7000 + kinds)
		for range 40 {
			w := newWorld(t, 6+d.next(20), 1+d.next(4))
			w.scatter(&d, kinds)
			w.spaceBySpace(&sum)
			marks := w.anyMarks(&d)
			w.plans(marks, w.plainPlan(marks)...)
			w.holds(everywhere, &sum)
		}
		if sum.Kept < 5000 || sum.Moved < 900 || sum.Freed < 900 || sum.Large < 200 || sum.Spaces < 80 || kinds > 1 && (sum.Cleared < 100 || sum.Pinned < 400) {
			t.Errorf("the test itself is idle: %d kinds: %+v", kinds, sum)
		}
	}
}
