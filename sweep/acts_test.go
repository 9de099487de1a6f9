package sweep_test

import (
	"slices"
	"testing"

	"dustcart/alloc"
	"dustcart/api"
	"dustcart/heap"
	"dustcart/model"
	"dustcart/mutate"
	"dustcart/sweep"
	"dustcart/trace"
)

// dice are numbers in a fixed order that looks like none.
type dice uint32

func (d *dice) next(n int) int {
	*d = *d*1664525 + 1013904223
	return int(*d>>12) % n
}

// act returns any act, mostly on a few slots; stores are frequent, so that graphs are dense.
func (d *dice) act() api.Act {
	a := api.Act{Kind: d.next(12), A: d.next(6), B: d.next(6), I: d.next(3), N: d.next(100), Shape: api.Shape{Refs: d.next(5), Data: d.next(10), Kind: d.next(4)}}
	switch d.next(10) {
	case 0, 1, 2:
		a.Kind = api.ActStore
	case 3, 4:
		a.Kind = api.ActNew
	case 5:
		a.Kind = []int{api.ActLoad, api.ActDrop}[d.next(2)]
	}
	if a.Kind == api.ActNew && d.next(20) == 0 {
		a.Shape.Data = 25 + d.next(100)
	}
	return a
}

// acting is a world in which mutators act, and a model to which the same acts are done.
type acting struct {
	world
	a *alloc.Allocator
	m *model.Model
}

func newActing(t *testing.T, blocks, mutators, policy int) acting {
	t.Helper()
	w := newWorld(t, blocks, mutators)
	m, e := model.New(mutators)
	w.ok("model.New", e)
	a, e := alloc.New(w.h, 3, policy)
	w.ok("alloc.New", e)
	return acting{w, a, m}
}

func (w acting) clone() acting {
	c := w.world.clone()
	return acting{c, w.a.Clone(c.h), w.m.Clone()}
}

// do does an act in both, or in neither if the heap is full: its effect on the heap.
func (w acting) do(mutator int, a api.Act) (api.Effect, api.Errno) {
	w.t.Helper()
	x, e := mutate.Do(w.h, w.r, w.a, mutator, a)
	if e == api.ErrFull {
		return x, e
	}
	y, want := w.m.Do(mutator, a)
	if e != want || !slices.Equal(x.Told, y.Told) {
		w.t.Fatalf("Do(%d, %v): told %v, error %d, want %v, error %d", mutator, a, x.Told, e, y.Told, want)
	}
	return x, e
}

// queue pushes an object that is in a slot to both queues, or removes the oldest one of both.
func (w acting) queue(d *dice) {
	w.t.Helper()
	addr, _ := w.r.Get(slot(d.next(w.r.Mutators()), d.next(6)))
	if addr != 0 && len(w.r.Queue()) < 4 {
		ident, e := w.h.Ident(addr)
		w.ok("Ident", e)
		w.ok("Push", w.r.Push(addr))
		w.m.Push(ident)
		return
	}
	w.r.Pop()
	w.m.Pop()
}

// matches checks P8.1: that just the objects that the model keeps are there, and that the heap is as the model.
func (w acting) matches(when string) {
	w.t.Helper()
	var idents []int
	for _, addr := range w.h.All() {
		ident, _ := w.h.Ident(addr)
		idents = append(idents, ident)
	}
	slices.Sort(idents)
	if !slices.Equal(idents, w.m.Kept()) {
		w.t.Fatalf("%s: there are %v, but the model keeps %v", when, idents, w.m.Kept())
	}
	if !mutate.Match(w.h, w.r, w.m) {
		w.t.Fatalf("%s: the heap does not match the model", when)
	}
}

// collect holds Collect against the plain way and the model, and sweeping block by block against Collect.
func (w acting) collect(d *dice, tally *api.Report) {
	w.t.Helper()
	lazy, p := w.world.clone(), w.plain(w.marks())
	kept, e := trace.Kept(w.h, w.r)
	w.ok("Kept", e)
	want, e := p.collect()
	w.ok("Collect in the plain way", e)
	w.collects(want)
	w.as(p.world, "after Collect, held against the plain way")
	if !slices.Equal(w.h.All(), kept) {
		w.t.Fatalf("after Collect there are %v, want %v", w.h.All(), kept)
	}
	if cleared := w.m.Collect(); cleared != want.Cleared {
		w.t.Fatalf("Collect: %d objects were cleared, in the model %d", want.Cleared, cleared)
	}
	w.matches("after Collect")
	for range 3 {
		c := lazy.clone()
		s := c.keptSweeper()
		if freed := c.sweepAll(s, d, d.next(8)); freed != want.FreedWords {
			w.t.Fatalf("%d words were freed one by one, want %d", freed, want.FreedWords)
		}
		c.as(w.world, "blocks that were swept one by one, held against Collect") // P8.2
	}
	w.a.Reset()
	tally.Kept += want.Kept
	tally.Freed += want.Freed
	tally.Cleared += want.Cleared
}

// P8.1, P8.2, P8.3 and P8.7, on heaps that long lists of acts of several mutators left.
func TestActsAgainstTheModel(t *testing.T) {
	for policy := range 5 {
		var tally api.Report
		for mutators := 1; mutators <= api.MaxMutators; mutators++ {
			w, d := newActing(t, 8+mutators, mutators, policy), dice(100*policy+mutators)
			for i := range 2500 {
				_, e := w.do(d.next(mutators), d.act())
				if i%12 == 5 {
					w.queue(&d)
				}
				if i%100 == 50 {
					c := w.clone()
					c.collect(&d, &tally)
				}
				if e == api.ErrFull || i%400 == 399 {
					w.collect(&d, &tally)
				}
			}
			w.collect(&d, &tally)
		}
		if tally.Kept < 1000 || tally.Freed < 2000 || tally.Cleared < 50 {
			t.Errorf("the test itself is idle: policy %d: %+v", policy, tally)
		}
	}
}

// lazy is an acting world, a sweeper, and one in the plain way, which gets a clone of the heap before each of its acts.
type lazy struct {
	acting
	s *sweep.Sweeper
	p *plain
}

// begin begins a cycle: from here on blocks are left.
func (w acting) begin() lazy {
	w.t.Helper()
	m, _, e := trace.Mark(w.h, w.r, 0, 5)
	w.ok("Mark", e)
	_, e = trace.Clear(w.h, m)
	w.ok("Clear", e)
	w.m.Collect()
	s, e := sweep.New(w.h, m)
	w.ok("New", e)
	return lazy{w, s, w.plain(m)}
}

// holds does something with both sweepers, and checks that both tell the same, and leave the same.
func (l lazy) holds(what string, real func() (int, api.Errno), plain func() (int, api.Errno)) (int, api.Errno) {
	l.t.Helper()
	l.p.world = l.world.clone()
	want, wantE := plain()
	got, e := real()
	if got != want || e != wantE {
		l.t.Fatalf("%s: %d, error %d, want %d, error %d", what, got, e, want, wantE)
	}
	l.as(l.p.world, line("after ", what))
	if left := l.s.Left(); !slices.Equal(left, l.p.left()) {
		l.t.Fatalf("after %s: left are %v, want %v", what, left, l.p.left())
	}
	return got, e
}

func (l lazy) block(b int) {
	l.t.Helper()
	before := l.blockState(l.allBut(b, b+1, b+2, b+3)...) // a large object has at most four blocks
	l.holds(line("Block(", b, ")"), func() (int, api.Errno) { return l.s.Block(b) }, func() (int, api.Errno) { return l.p.block(b) })
	if !slices.Equal(l.blockState(l.allBut(b, b+1, b+2, b+3)...), before) {
		l.t.Fatalf("Block(%d) has changed other blocks", b)
	}
}

func (l lazy) need(words int) api.Errno {
	l.t.Helper()
	block, e := l.holds(line("Need(", words, ")"), func() (int, api.Errno) { return l.s.Need(words) }, func() (int, api.Errno) { return l.p.need(words) })
	if e == api.OK && len(l.s.Left()) > 0 && !l.hasRoom(block, words) { // P8.5
		l.t.Fatalf("Need(%d): block %d has no room", words, block)
	}
	return e
}

func (l lazy) born(addr int) api.Errno {
	l.t.Helper()
	_, e := l.holds(line("Born(", addr, ")"), func() (int, api.Errno) { return 0, l.s.Born(addr) }, func() (int, api.Errno) { return 0, l.p.born(addr) })
	return e
}

func (l lazy) finish() {
	l.t.Helper()
	l.holds("Finish", func() (int, api.Errno) { return l.s.Finish() }, func() (int, api.Errno) { return l.p.finish(), api.OK })
}

// clone goes on with clones of all.
func (l lazy) clone() lazy {
	c := l.acting.clone()
	return lazy{c, l.s.Clone(c.h), l.p.clone()}
}

// make does an ActNew, sweeping blocks as long as there is no room; it tells whether there was room at last.
func (l lazy) make(mutator int, a api.Act) bool {
	l.t.Helper()
	for {
		x, e := l.do(mutator, a)
		if e == api.OK {
			if l.born(x.Made) != api.OK {
				l.t.Fatalf("Born(%d) of an object that was made", x.Made)
			}
			return true
		}
		if e != api.ErrFull {
			return true
		}
		if l.need(min(heap.Words(a.Shape), api.BlockWords)) != api.OK {
			return false
		}
		l.a.Reset()
	}
}

// Mutators that go on while blocks are left, all that they make being reported (P8.6), with clones that take the place of what they were cloned from (P8.8).
func TestActsWhileBlocksAreLeft(t *testing.T) {
	for policy := range 5 {
		cycles, needed := 0, 0
		for mutators := 1; mutators <= api.MaxMutators; mutators++ {
			w, d := newActing(t, 9+mutators, mutators, policy), dice(7000+100*policy+mutators)
			l := w.begin()
			for i := range 3000 {
				mutator, act := d.next(mutators), d.act()
				left := len(l.s.Left())
				switch {
				case act.Kind != api.ActNew:
					l.do(mutator, act)
				case !l.make(mutator, act):
					l.finish()
					l.a.Reset()
					l = l.begin()
					cycles++
				}
				needed += max(left-len(l.s.Left()), 0)
				if i%12 == 5 {
					l.queue(&d)
				}
				if i%25 == 20 {
					l.block(d.next(14))
					l.a.Reset()
				}
				if i%150 == 149 {
					l = l.clone()
				}
				if !mutate.Match(l.h, l.r, l.m) {
					t.Fatalf("policy %d, act %d: the heap does not match the model", policy, i)
				}
			}
			l.finish()
			l.acting.collect(&d, &api.Report{})
		}
		if cycles < 20 || needed < 100 {
			t.Errorf("the test itself is idle: policy %d: %d cycles, %d blocks", policy, cycles, needed)
		}
	}
}

// meddle does something to a heap whose blocks are left: claims, releases, places, kills, moves, pins, and damage.
func (w world) meddle(d *dice) {
	block, addr := d.next(w.h.Blocks()), 2*d.next(32*w.h.Blocks())
	all := append(w.h.All(), addr)
	object := all[d.next(len(all))]
	switch d.next(9) {
	case 0:
		w.h.Claim(block, d.next(8))
	case 1:
		w.h.ClaimLarge(block, 1+d.next(3), d.next(8))
	case 2:
		for _, at := range w.h.Objects(block) {
			w.h.Kill(at)
		}
		w.h.Release(block)
	case 3:
		w.h.Kill(object)
	case 4:
		w.h.Move(object, addr)
	case 5:
		w.h.Pin(object)
	case 6:
		w.h.Poke(object+2+d.next(3), []int{addr, object, -2, 1 << 40}[d.next(4)])
	default:
		w.h.Place([]int{addr, 64 * block}[d.next(2)], api.Shape{Refs: d.next(4), Data: []int{0, 2, 12, 24, 60, 100}[d.next(6)], Kind: d.next(4)})
	}
}

// Any calls of a sweeper with any marks, while anything is done to its heap, held against the plain way.
func TestSweepersOfAnyHeaps(t *testing.T) {
	d := dice(31)
	blocks, needs, borns := 0, 0, 0
	for round := range 150 {
		w := newActing(t, 2+d.next(12), 1, 0)
		for range 40 + d.next(60) {
			w.meddle(&d)
		}
		m := w.marks()
		for range d.next(200) {
			m.Set(d.next(m.Entries()), 1)
		}
		s, e := sweep.New(w.h, m)
		w.ok("New", e)
		l := lazy{w, s, w.plain(m)}
		for range 40 {
			left, addrs := append(s.Left(), d.next(14)-1), append(l.h.All(), 2*d.next(500)-2, d.next(500))
			switch d.next(6) {
			case 0:
				l.block(left[d.next(len(left))])
				blocks++
			case 1:
				if l.need(d.next(68)-1) == api.OK {
					needs++
				}
			case 2:
				if l.born(addrs[d.next(len(addrs))]) == api.OK {
					borns++
				}
			case 3:
				if d.next(10) == 0 {
					l = l.clone()
				}
			default:
				l.meddle(&d)
			}
		}
		if round%2 == 0 {
			l.finish()
		}
	}
	if blocks < 500 || needs < 100 || borns < 60 {
		t.Errorf("the test itself is idle: %d, %d, %d", blocks, needs, borns)
	}
}

// Collect of heaps and roots that may not be sound, held against the plain way.
func TestCollectOfAnyHeaps(t *testing.T) {
	for mutators := 1; mutators <= api.MaxMutators; mutators++ {
		w, d := newActing(t, 6+2*mutators, mutators, mutators), dice(500+mutators)
		refused, done := 0, 0
		for i := range 1500 {
			if _, e := mutate.Do(w.h, w.r, w.a, d.next(mutators), d.act()); e == api.ErrFull || i%100 == 0 {
				w = newActing(t, 6+2*mutators, mutators, mutators)
			}
			if i%20 == 10 {
				w.meddle(&d)
			}
			if i%25 == 19 {
				w.r.Set(slot(d.next(mutators), d.next(6)), 2*d.next(200))
			}
			p, c := w.plain(w.marks()), w.world.clone()
			want, wantE := p.collect()
			got, e := sweep.Collect(c.h, c.r)
			if got != want || e != wantE {
				t.Fatalf("Collect: %+v, error %d, want %+v, error %d", got, e, want, wantE)
			}
			c.as(p.world, "after Collect, held against the plain way")
			if e == api.OK {
				done++
			} else {
				refused++
			}
		}
		if done < 100 || refused < 100 {
			t.Errorf("the test itself is idle: %d collections, %d refused", done, refused)
		}
	}
}
