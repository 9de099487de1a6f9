package trace_test

import (
	"math"
	"slices"
	"testing"

	"dustcart/api"
	"dustcart/side"
	"dustcart/trace"
)

// all expects the same objects of Kept, of Mark in both orders with several limits, and of Share by any number of workers (P7.1).
func (w world) all(idents ...int) {
	w.t.Helper()
	w.keeps(idents...)
	for order := range orders {
		for _, limit := range []int{1, 2, 3, 5, len(w.h.All()) + 1, api.MaxEntries} {
			m, _, e := trace.Mark(w.h, w.r, order, limit)
			if got := w.idents(addresses(m)); e != api.OK || !slices.Equal(got, idents) {
				w.t.Errorf("Mark(%d, %d): %v, error %d, want %v", order, limit, got, e, idents)
			}
		}
	}
	for workers := 1; workers <= mostWorkers; workers++ {
		m, _, _, e := trace.Share(w.h, w.r, workers)
		if got := w.idents(addresses(m)); e != api.OK || !slices.Equal(got, idents) {
			w.t.Errorf("Share(%d): %v, error %d, want %v", workers, got, e, idents)
		}
	}
}

// Each place keeps, of all mutators and of all kinds.
func TestKeptByPlaces(t *testing.T) {
	w := graph(t, nil, plainNode(2), plainNode(), plainNode(1))
	w.all()
	var places []api.Place
	for i := range 16 {
		places = append(places, slot(0, i), slot(1, i), global(i))
	}
	for _, p := range places {
		c := w.clone()
		c.set(p, c.at(1))
		c.all(1, 2)
		c.set(p, 0)
		c.all()
	}
	for range api.MaxQueue - 1 {
		w.push(w.at(2))
	}
	w.all(2)
	w.push(w.at(3))
	w.all(1, 2, 3)
}

// What the strong references of each kind are, by their numbers.
func TestKeptByKinds(t *testing.T) {
	refs := []int{2, 3, 4, 5}
	for kind, want := range [][]int{api.Plain: {1, 2, 3, 4, 5}, api.Weak: {1, 3, 4, 5}, api.Ephemeron: {1, 4, 5}, api.Special: {1, 2, 3, 4, 5}} {
		w := graph(t, []int{1}, node{kind, refs}, plainNode(), plainNode(), plainNode(), plainNode(), plainNode())
		w.all(want...)
	}
	large := graph(t, []int{1}, otherNode(2, 3), node{kind: api.Special, refs: []int{0, 0, 0, 0, 0, 0, 0, 0, 0, 0, 0, 0, 0, 0, 4}}, plainNode(), plainNode(), plainNode())
	large.all(1, 2, 3, 4)
	if e := large.h.ClaimLarge(5, 2, 1); e != api.OK {
		t.Fatalf("the test itself is wrong: error %d", e)
	}
	n, e := large.h.Place(5*64, api.Shape{Refs: 15, Data: 50, Kind: api.Special})
	if e != api.OK {
		t.Fatalf("the test itself is wrong: error %d", e)
	}
	large.refer(n, 14, 5)
	large.refer(1, 0, n)
	large.all(1, 3, 5, n)
}

// An Ephemeron keeps its value if both it and its key are kept, whichever of them is marked first.
func TestKeptByEphemerons(t *testing.T) {
	pair := []node{pairNode(2, 3), plainNode(), plainNode(4), plainNode()}
	graph(t, []int{1}, pair...).all(1)
	graph(t, []int{2}, pair...).all(2)
	graph(t, []int{1, 2}, pair...).all(1, 2, 3, 4)
	graph(t, []int{2, 1}, pair...).all(1, 2, 3, 4)
	// The value leads to the key.
	graph(t, []int{1}, pairNode(2, 3), plainNode(), plainNode(2)).all(1)
	// The value is the key, which nothing else leads to.
	graph(t, []int{1}, pairNode(2, 2), plainNode()).all(1)
	// The value leads to the Ephemeron.
	graph(t, []int{2}, pairNode(2, 3), plainNode(), plainNode(1)).all(2)
	// The key leads to the Ephemeron.
	graph(t, []int{2}, pairNode(2, 3), plainNode(1), plainNode()).all(1, 2, 3)
	// Without a key there is no value.
	graph(t, []int{1}, pairNode(0, 2), plainNode()).all(1)
	// Without a value.
	graph(t, []int{1, 2}, pairNode(2, 0), plainNode()).all(1, 2)
}

// Ephemerons that lead to themselves, and to one another.
func TestKeptByTangledEphemerons(t *testing.T) {
	self := []node{pairNode(1, 2), plainNode()}
	graph(t, []int{1}, self...).all(1, 2)
	graph(t, nil, self...).all()
	graph(t, []int{1}, pairNode(1, 1)).all(1)
	graph(t, []int{2}, pairNode(2, 1), plainNode()).all(2)
	both := []node{pairNode(2, 3), pairNode(1, 4), plainNode(), plainNode()}
	graph(t, []int{1}, both...).all(1)
	graph(t, []int{1, 2}, both...).all(1, 2, 3, 4)
	// The value of each one is the next one, whose key is there; that of the last one is the first one.
	ring := []node{pairNode(4, 2), pairNode(4, 3), pairNode(4, 1), plainNode()}
	for i := range 3 {
		graph(t, []int{4, i + 1}, ring...).all(1, 2, 3, 4)
		graph(t, []int{i + 1}, ring...).all(i + 1)
	}
	// The key of each one is the value of the next one.
	chain := []node{pairNode(5, 6), pairNode(4, 5), pairNode(7, 4), plainNode(), plainNode(), plainNode(), plainNode()}
	graph(t, []int{1, 2, 3}, chain...).all(1, 2, 3)
	graph(t, []int{1, 2, 3, 7}, chain...).all(1, 2, 3, 4, 5, 6, 7)
	graph(t, []int{1, 2, 3, 4}, chain...).all(1, 2, 3, 4, 5, 6)
	graph(t, []int{1, 3, 7}, chain...).all(1, 3, 4, 7)
	// Two Ephemerons whose values are one another's keys keep neither.
	graph(t, []int{1, 2}, pairNode(3, 4), pairNode(4, 3), plainNode(), plainNode()).all(1, 2)
	// The Ephemeron that another one is the value of, is the key of a third one.
	graph(t, []int{1, 3, 4}, pairNode(4, 2), pairNode(4, 5), pairNode(2, 6), plainNode(), plainNode(), plainNode()).all(1, 2, 3, 4, 5, 6)
}

// A Weak object does not keep its target.
func TestKeptByWeak(t *testing.T) {
	graph(t, []int{1}, weakNode(2), plainNode()).all(1)
	graph(t, []int{1}, weakNode(1)).all(1)
	graph(t, []int{1, 3}, weakNode(2), plainNode(), plainNode(2)).all(1, 2, 3)
	graph(t, []int{1}, weakNode(2, 2), plainNode()).all(1, 2)
	graph(t, []int{1}, weakNode(3, 2), weakNode(1, 3), plainNode()).all(1, 2, 3)
}

// Places and references that lead to no object keep nothing; nor do the objects whose words they lead to the middle of.
func TestKeptByBroken(t *testing.T) {
	w := graph(t, []int{1}, plainNode(2, 3, 4, 2), plainNode(5), plainNode(), plainNode(), plainNode(), pairNode(1, 5), pairNode(2, 5))
	w.kill(4)
	w.all(1, 2, 3, 5)
	for _, v := range append([]int{1, 2, -1, -2, -64, w.at(3) + 1, w.at(2) + 1, w.at(2) + 2, w.at(5) - 1, 62, 63, 126, 128, 512, 513, 1000}, beyond...) {
		c := w.clone()
		c.poke(1, 0, v)
		c.poke(1, 3, v)
		c.all(1, 3)
		if c.r.Set(global(3), v) == api.OK && c.r.Push(v) == api.OK {
			c.all(1, 3)
			c.set(slot(0, 0), v)
			c.all()
			c.set(slot(1, 0), c.at(6))
			c.all(6)
			c.set(slot(1, 1), c.at(1))
			c.poke(6, 0, v)
			c.all(1, 3, 6)
			c.poke(6, 0, c.at(1))
			c.all(1, 3, 5, 6)
			c.poke(6, 1, v)
			c.all(1, 3, 6)
		}
	}
}

// Each object and no other one is marked; nothing is of marks of another heap, or of a table that is no marks.
func TestMarked(t *testing.T) {
	w := graph(t, []int{1}, plainNode(2, 3), plainNode(), weakNode(4), plainNode())
	m, _, _ := trace.Mark(w.h, w.r, Newest, 9)
	expect := func(table *side.Table, idents ...int) {
		t.Helper()
		before := w.state()
		for addr := -130; addr < 64*10; addr++ {
			if want := slices.Contains(idents, w.ident(addr)); trace.Marked(w.h, table, addr) != want {
				t.Errorf("Marked(%d) is %v", addr, !want)
			}
		}
		for _, addr := range beyond {
			if trace.Marked(w.h, table, addr) {
				t.Errorf("Marked(%d) is true", addr)
			}
		}
		w.unchanged("after Marked", before)
	}
	expect(m, 1, 2, 3)
	expect(w.marksOf(2, 4), 2, 4)
	expect(w.marksOf())
	if m.Fill(0, m.Entries(), 1); m.Count(1) != 256 {
		t.Fatalf("marks of %d entries", m.Count(1))
	}
	expect(m, 1, 2, 3, 4)
	w.kill(2)
	expect(m, 1, 3, 4)
	for _, x := range []struct{ entries, width int }{{256, 2}, {256, 4}, {256, 8}, {255, 1}, {257, 1}, {512, 1}, {32, 1}, {1, 1}, {api.MaxEntries, 1}} {
		table := w.table(x.entries, x.width)
		table.Fill(0, x.entries, 1)
		expect(table)
	}
	expect(nil)
	expect(&side.Table{})
	expect(m.Clone(), 1, 3, 4)
	if !trace.Marked(w.h.Clone(), m, w.at(1)) || trace.Marked(nil, m, 64) {
		t.Errorf("Marked of a clone, and of no heap")
	}
}

// The marks have an entry for every two words of the heap, of any number of blocks.
func TestMarksOfHeaps(t *testing.T) {
	for _, blocks := range []int{2, 3, 17, api.MaxBlocks} {
		w := newFull(t, blocks, api.Plain)
		m, _, e := trace.Mark(w.h, w.r, Newest, api.MaxEntries)
		s, _, _, eS := trace.Share(w.h, w.r, 3)
		for _, table := range []*side.Table{m, s} {
			if e != api.OK || eS != api.OK || table.Width() != 1 || table.Entries() != 32*blocks || !slices.Equal(addresses(table), w.h.All()) {
				t.Errorf("%d blocks: errors %d, %d, %d entries of %d bits", blocks, e, eS, table.Entries(), table.Width())
			}
		}
		if last := slices.Max(w.h.All()); !trace.Marked(w.h, m, last) || last < 64*(blocks-1) {
			t.Errorf("%d blocks: the object %d is not marked", blocks, last)
		}
	}
}

// P7.1 on roots of any number of mutators.
func TestKeptOfMutators(t *testing.T) {
	for mutators := 1; mutators <= api.MaxMutators; mutators++ {
		w := withRoots(t, graph(t, nil, plainNode(), plainNode(1), plainNode(2), plainNode(3)), mutators)
		w.all()
		w.set(slot(mutators-1, 15), w.at(mutators))
		var want []int
		for ident := 1; ident <= mutators; ident++ {
			want = append(want, ident)
		}
		w.all(want...)
		w.set(slot(mutators-1, 15), math.MaxInt)
		w.all()
	}
}
