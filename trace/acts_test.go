package trace_test

import (
	"slices"
	"testing"

	"dustcart/alloc"
	"dustcart/api"
	"dustcart/heap"
	"dustcart/model"
	"dustcart/mutate"
	"dustcart/roots"
	"dustcart/trace"
)

// dice are numbers in a fixed order that looks like none.
type dice uint32

func (d *dice) next(n int) int {
	*d = *d*1664525 + 1013904223
	return int(*d>>12) % n
}

// act returns any act, mostly on a few slots; stores are frequent, so that graphs are dense.
func (d *dice) act() api.Act {
	a := api.Act{Kind: d.next(12), A: d.next(6), B: d.next(6), I: d.next(3), N: d.next(100), Shape: api.Shape{Refs: d.next(5), Data: d.next(3), Kind: d.next(4)}}
	switch d.next(10) {
	case 0, 1, 2:
		a.Kind = api.ActStore
	case 3, 4:
		a.Kind = api.ActNew
	case 5:
		a.Kind = []int{api.ActLoad, api.ActDrop}[d.next(2)]
	}
	if a.Kind == api.ActNew && d.next(40) == 0 {
		a.Shape.Data = 40 + d.next(60)
	}
	return a
}

// acting is a world in which mutators act, and a model to which the same acts are done.
type acting struct {
	world
	a *alloc.Allocator
	m *model.Model
}

func newActing(t *testing.T, blocks, mutators, policy int) acting {
	t.Helper()
	h, e := heap.New(blocks)
	r, eR := roots.New(mutators)
	m, eM := model.New(mutators)
	a, eA := alloc.New(h, 3, policy)
	if e != api.OK || eR != api.OK || eM != api.OK || eA != api.OK {
		t.Fatalf("the test itself is wrong: errors %d, %d, %d, %d", e, eR, eM, eA)
	}
	return acting{world{t, h, r}, a, m}
}

// do does an act in both, or in neither if the heap is full.
func (w acting) do(mutator int, a api.Act) api.Errno {
	w.t.Helper()
	_, e := mutate.Do(w.h, w.r, w.a, mutator, a)
	if e == api.ErrFull {
		return e
	}
	if _, want := w.m.Do(mutator, a); e != want {
		w.t.Fatalf("Do(%d, %v): error %d, want %d", mutator, a, e, want)
	}
	return e
}

// queue pushes an object that is in a slot to both queues, or removes the oldest one of both.
func (w acting) queue(d *dice) {
	addr, _ := w.r.Get(slot(d.next(w.r.Mutators()), d.next(6)))
	if addr != 0 && len(w.r.Queue()) < 4 {
		w.push(addr)
		w.m.Push(w.ident(addr))
		return
	}
	w.r.Pop()
	w.m.Pop()
}

// move gives objects other addresses, if there is room, so that these do not rise with the identities.
func (w acting) move(d *dice, tries int) {
	w.t.Helper()
	for range tries {
		all := w.h.All()
		if len(all) == 0 {
			return
		}
		from, to := all[d.next(len(all))], 2*d.next(32*w.h.Blocks())
		if w.h.Move(from, to) != api.OK {
			continue
		}
		for _, addr := range w.h.All() {
			s, _ := w.h.Shape(addr)
			for i := range s.Refs {
				if ref, _ := w.h.Ref(addr, i); ref == from {
					w.h.SetRef(addr, i, to)
				}
			}
		}
		w.r.Replace([]int{from}, []int{to})
	}
}

// match checks P7.5: that the heap is as the model after its Collect.
func (w acting) match(when string) {
	w.t.Helper()
	if !mutate.Match(w.h, w.r, w.m) {
		w.t.Fatalf("%s: the heap does not match the model", when)
	}
}

// collect clears what marks of the kept objects say, kills all others, and checks both against the model: P7.1, P7.5 and P7.8.
func (w acting) collect() {
	w.t.Helper()
	m, _, e := trace.Mark(w.h, w.r, Newest, api.MaxEntries)
	kept, eK := trace.Kept(w.h, w.r)
	if e != api.OK || eK != api.OK {
		w.t.Fatalf("errors %d, %d", e, eK)
	}
	w.clears(m, w.m.Collect())
	w.match("after Clear")
	for _, addr := range w.h.All() {
		if !slices.Contains(kept, addr) {
			w.h.Kill(addr)
		}
	}
	for block := range w.h.Blocks() {
		w.h.Release(block) // if there is no object in it
	}
	w.a.Reset()
	w.match("after a collection")
	if again, _ := trace.Kept(w.h, w.r); !slices.Equal(again, kept) || !slices.Equal(again, w.h.All()) {
		w.t.Fatalf("after a collection: kept %v, of %v", again, w.h.All())
	}
}

func (w acting) clone() acting {
	h := w.h.Clone()
	return acting{world{w.t, h, w.r.Clone()}, w.a.Clone(h), w.m.Clone()}
}

// check holds all functions against the plain way, and the kept objects against the model, on this state.
func (w acting) check(tally *api.Traced) {
	w.t.Helper()
	w.checkPlainly(tally)
	kept, _ := trace.Kept(w.h, w.r)
	idents := w.idents(kept)
	slices.Sort(idents)
	if !slices.Equal(idents, w.m.Kept()) {
		w.t.Fatalf("Kept: %v, but the model keeps %v", idents, w.m.Kept())
	}
	w.clone().collect()
}

// P7.1 to P7.8, on heaps that long lists of acts of several mutators left, whose objects are moved, and freed at times.
func TestActsAgainstTheModel(t *testing.T) {
	for policy := range 5 {
		var tally api.Traced
		for mutators := 1; mutators <= api.MaxMutators; mutators++ {
			w, d := newActing(t, 10, mutators, policy), dice(100*policy+mutators)
			for i := range 1200 {
				e := w.do(d.next(mutators), d.act())
				if i%12 == 5 {
					w.queue(&d)
				}
				if i%50 == 25 {
					w.move(&d, 12)
				}
				if i%40 == 0 || e == api.ErrFull {
					w.check(&tally)
				}
				if e == api.ErrFull || i%400 == 399 {
					w.collect()
				}
			}
			w.check(&tally)
		}
		if tally.Scanned < 5000 || tally.Overflows < 500 || tally.Rescans < 300 || tally.Rounds < 1000 || tally.Deepest < 5 {
			t.Errorf("the test itself is idle: policy %d: %+v", policy, tally)
		}
	}
}

// checkPlainly holds all functions against the plain way, whatever the heap and the roots are.
func (w world) checkPlainly(tally *api.Traced) {
	w.t.Helper()
	before := w.state()
	p := w.plain()
	kept := p.kept()
	if got, e := trace.Kept(w.h, w.r); e != api.OK || !slices.Equal(got, kept) {
		w.t.Fatalf("Kept: %v, error %d, want %v", got, e, kept)
	}
	w.checkMark(p, kept, tally)
	w.checkShare(p, kept)
	w.checkShortest(p)
	w.unchanged("after marking, and looking for lists", before) // P7.7
	w.checkClear(kept)
}

func (w world) checkMark(p *plain, kept []int, tally *api.Traced) {
	w.t.Helper()
	objects := len(w.h.All())
	for order := range orders {
		for _, limit := range []int{1, 2, 3, 6, max(objects, 1), api.MaxEntries} {
			list, want := p.traced(order, limit)
			m, done, e := trace.Mark(w.h, w.r, order, limit)
			got := addresses(m)
			if e != api.OK || done != want || !slices.Equal(got, list) || !slices.Equal(got, kept) {
				w.t.Fatalf("Mark(%d, %d): %+v, marked %v, error %d, want %+v and %v", order, limit, done, got, e, want, kept)
			}
			if done.Overflows == 0 && (done.Scanned != len(kept) || done.Rescans != 0) { // P7.2
				w.t.Fatalf("Mark(%d, %d): %+v, %d objects being kept", order, limit, done, len(kept))
			}
			if done.Deepest > limit || limit >= objects && done.Overflows != 0 { // P7.3
				w.t.Fatalf("Mark(%d, %d): %+v, with %d objects", order, limit, done, objects)
			}
			tally.Scanned += done.Scanned
			tally.Overflows += done.Overflows
			tally.Rescans += done.Rescans
			tally.Rounds += done.Rounds
			tally.Deepest = max(tally.Deepest, done.Deepest)
		}
	}
}

func (w world) checkShare(p *plain, kept []int) {
	w.t.Helper()
	for workers := 1; workers <= mostWorkers; workers++ {
		_, counts, stolen := p.share(workers)
		m, got, times, e := trace.Share(w.h, w.r, workers)
		if e != api.OK || !slices.Equal(got, counts) || times != stolen || !slices.Equal(addresses(m), kept) {
			w.t.Fatalf("Share(%d): %v, stolen %d, error %d, want %v and %d", workers, got, times, e, counts, stolen)
		}
		sum := 0
		for _, n := range got {
			sum += n
		}
		if sum != len(kept) { // P7.4
			w.t.Fatalf("Share(%d): %v, %d objects being kept", workers, got, len(kept))
		}
	}
}

func (w world) checkShortest(p *plain) {
	w.t.Helper()
	for _, addr := range append(w.h.All(), 0, -2, 63, 64, 66, 65, 128) {
		want := p.shortest(addr)
		got, e := trace.Shortest(w.h, w.r, addr)
		if !slices.Equal(got, want) || (e == api.OK) != (len(want) > 0) || e != api.OK && e != api.ErrNone {
			w.t.Fatalf("Shortest(%d): %v, error %d, want %v", addr, got, e, want)
		}
	}
}

// checkClear holds Clear of marks of some objects against the plain way; on clones.
func (w world) checkClear(marked []int) {
	w.t.Helper()
	got, want := w.clone(), w.clone()
	got.clears(w.table(32*w.h.Blocks(), 1, marked...), want.plain().clear(marked))
	got.unchanged(line("after Clear of marks of ", marked, ", held against the plain way"), want.state())
}
