package mutate_test

import (
	"math"
	"slices"
	"testing"

	"dustcart/api"
	"dustcart/mutate"
)

// rich is a world of two mutators that matches, and has something in all kinds of places, and objects of all kinds that are kept, and some that are not:
//
//	1 (plain) in slot 0 of mutator 0, 2 (weak) in slot 15 of mutator 1, 3 (ephemeron) in global 0, 4 (special, large) in global 15 and twice in the queue,
//	5 by a reference of 1, 6 by the value of 3, whose key is 5, 7 by a reference of 6 and in the queue;
//	8, to which the weak reference of 2 leads, and 9, which leads to 1, are not kept.
func rich(t *testing.T) world {
	t.Helper()
	w := newWorld(t, 6, 2, First)
	w.acts(0, create(0, api.Shape{Refs: 3, Data: 2}), create(1, api.Shape{Refs: 2, Data: 1, Kind: api.Weak}), create(2, api.Shape{Refs: 3, Data: 1, Kind: api.Ephemeron}), create(3, api.Shape{Refs: 2, Data: 90, Kind: api.Special}))
	w.acts(0, create(4, word), create(5, link), create(6, leaf), create(7, word), create(8, link))
	w.acts(0, export(1, 1), export(2, 0), export(3, 15), store(0, 1, 4), store(0, 2, 0), store(1, 0, 7), store(1, 1, 3), store(2, 0, 4), store(2, 1, 5), store(2, 2, 2), store(3, 1, 0), store(5, 0, 6), store(8, 0, 0))
	w.acts(0, put(0, 1, 11), put(1, 0, 12), put(2, 0, 13), put(3, 89, 14), put(4, 0, 15), put(7, 0, 16))
	for _, n := range []int{4, 7, 4} {
		w.push(n)
	}
	w.acts(1, imported(15, 1), export(0, 1))
	for i := 1; i <= 8; i++ {
		w.acts(0, drop(i))
	}
	if kept := w.m.Kept(); !slices.Equal(kept, []int{1, 2, 3, 4, 5, 6, 7}) {
		t.Fatalf("the test itself is wrong: kept %v", kept)
	}
	return w
}

// expect checks Match, which is told by the test, and by the plain way, and that it changes nothing.
func (w world) expect(want bool, when string) {
	w.t.Helper()
	before, m := w.state(), w.modelled()
	if got := mutate.Match(w.h, w.r, w.m); got != want || slices.Equal(w.told(), m) != want {
		w.t.Errorf("%s: Match is %v, want %v; %v, held against %v", when, got, want, w.told(), m)
	}
	w.unchanged("after Match", before)
	if !slices.Equal(w.modelled(), m) {
		w.t.Errorf("%s: Match has changed the model", when)
	}
}

// Empty heaps match; so do some of any number of blocks.
func TestMatchEmpty(t *testing.T) {
	for mutators := 1; mutators <= api.MaxMutators; mutators++ {
		for _, blocks := range []int{2, 5, api.MaxBlocks} {
			newWorld(t, blocks, mutators, First).expect(true, "an empty heap")
		}
		for others := 1; others <= api.MaxMutators; others++ {
			w := newWorld(t, 2, mutators, First)
			w.m = newWorld(t, 2, others, First).m
			w.expect(mutators == others, line("a heap of ", mutators, " mutators and a model of ", others))
		}
	}
}

// The number of mutators counts, even where a longer queue makes up for the missing slots.
func TestMatchMutators(t *testing.T) {
	w, few := newWorld(t, 2, 2, First), newWorld(t, 2, 1, First)
	w.acts(0, create(0, leaf))
	few.acts(0, create(0, leaf))
	for range 16 {
		few.push(1)
	}
	few.match("the test itself is wrong")
	w.m = few.m
	w.expect(false, "a model with 16 elements of the queue more")
	w.m = w.clone().m
	few.m.Do(0, drop(0))
	w.expect(false, "the same, with an empty slot")
}

// Each slot, global and element of the queue must be alike.
func TestMatchPlaces(t *testing.T) {
	w := rich(t)
	w.expect(true, "at first")
	var places []api.Place
	for i := range 16 {
		places = append(places, slot(0, i), slot(1, i), global(i))
	}
	for i := range w.r.Queue() {
		places = append(places, queued(i))
	}
	for _, p := range places {
		was, _ := w.r.Get(p)
		for _, addr := range append(w.h.All(), 0, 1, was+1, 62, 65, 5*64, 6*64, math.MaxInt) {
			c := w.clone()
			if c.r.Set(p, addr) == api.OK {
				c.expect(addr == was, line("with ", p, " being ", addr))
			}
		}
	}
}

// A slot of the model must be alike, too: one that is empty there, or leads to another object.
func TestMatchPlacesOfTheModel(t *testing.T) {
	for mutator := range 2 {
		for i := range 16 {
			w := rich(t)
			n, _ := w.m.Slot(mutator, i)
			w.m.Do(mutator, drop(i))
			w.expect(n == 0, line("with an empty slot ", i, " of mutator ", mutator))
			n, _ = w.m.Global(i)
			w = rich(t)
			w.m.Do(1, export(14, i))
			w.expect(n == 0, line("with an empty global ", i))
			w.m.Do(1, export(15, i))
			w.expect(false, line("with another global ", i))
		}
	}
}

// The queue must have as many elements, in the same order.
func TestMatchQueue(t *testing.T) {
	w := rich(t)
	c := w.clone()
	c.r.Push(c.at(7))
	c.expect(false, "with an element more")
	c.m.Push(1)
	c.expect(false, "with another element at the end")
	c = w.clone()
	c.m.Push(7)
	c.expect(false, "with an element less")
	c.r.Push(c.at(7))
	c.expect(true, "with the same element")
	c = w.clone()
	c.r.Pop()
	c.expect(false, "without the oldest element")
	c.m.Pop()
	c.expect(true, "without the oldest elements")
	c.r.Pop()
	c.r.Push(c.at(7))
	c.expect(false, "in another order")
	c.r.Pop()
	c.r.Pop()
	c.expect(false, "without elements")
	c.m.Pop()
	c.m.Pop()
	c.expect(true, "without elements in both")
}

// One of an object that is kept: its references and data words must be alike; not those of others.
func TestMatchWords(t *testing.T) {
	w := rich(t)
	kept := w.m.Kept()
	for ident := 1; ident <= w.m.Births(); ident++ {
		isKept := slices.Contains(kept, ident)
		addr := w.at(ident)
		s, _ := w.h.Shape(addr)
		for i := range s.Refs + s.Data {
			was, _ := w.h.Word(addr + 2 + i)
			for _, v := range []int{0, 1, -1, 64, was, was + 1, was + 2, was - 1, -was, w.at(5), w.at(8), 5 * 64, math.MaxInt, math.MinInt} {
				c := w.clone()
				c.poke(addr+2+i, v)
				c.expect(v == was || !isKept, line("with the word ", i, " of the object ", ident, " being ", v))
			}
		}
		for i := range s.Refs {
			to, _ := w.m.Ref(ident, i)
			for n := 1; n <= w.m.Births(); n++ {
				c := w.clone()
				c.m.SetRef(ident, i, n)
				c.expect(n == to || !slices.Contains(c.m.Kept(), ident), line("with the reference ", i, " of the object ", ident, " in the model being ", n))
			}
		}
	}
}

// An object that is kept in the model must be there; one that is not kept need not, if no reference of a kept one leads to it.
func TestMatchKilled(t *testing.T) {
	for ident := 1; ident <= 9; ident++ {
		w := rich(t)
		w.kill(w.at(ident))
		w.expect(ident == 9, line("without the object ", ident))
	}
	w := rich(t)
	w.kill(w.at(8))
	w.h.SetRef(w.at(2), 0, 0)
	w.expect(false, "with a weak reference that was cleared in the heap alone")
	w.m.Collect()
	w.expect(true, "with a weak reference that was cleared in both")
}

// Another object at the address of one that was killed has another identity.
func TestMatchReplaced(t *testing.T) {
	for ident := 1; ident <= 8; ident++ {
		w := rich(t)
		addr := w.at(ident)
		s, _ := w.h.Shape(addr)
		w.kill(addr)
		if _, e := w.h.Place(addr, s); e != api.OK {
			t.Fatalf("the test itself is wrong: error %d", e)
		}
		for i := range s.Refs {
			to, _ := w.m.Ref(ident, i)
			if to > 0 && to != ident {
				w.h.SetRef(addr, i, w.at(to))
			}
		}
		w.expect(false, line("with another object instead of ", ident))
	}
}

// An object with the same identity must have the same shape, whatever its references and data words are.
func TestMatchShapes(t *testing.T) {
	shapes := []api.Shape{leaf, word, link, fork, weak, pair, {Data: 2}, {Refs: 1, Data: 1}, {Refs: 2, Data: 1}, {Refs: 2, Kind: api.Weak}, {Kind: api.Special}, {Refs: 1, Kind: api.Special}, {Refs: 2, Kind: api.Special}, {Refs: 2, Data: 100}, large}
	for _, s := range shapes {
		for _, other := range shapes {
			w, o := newWorld(t, 4, 1, First), newWorld(t, 4, 1, First)
			w.acts(0, create(0, s))
			o.acts(0, create(0, other))
			w.m = o.m
			w.expect(s == other, line("an object of the shape ", s, " and one of ", other))
			w.m.Do(0, drop(0))
			w.r.Set(slot(0, 0), 0)
			w.expect(true, "the same, not kept")
		}
	}
}

// Objects may be anywhere, in blocks of any spaces, pinned or not, and there may be more of them.
func TestMatchElsewhere(t *testing.T) {
	w := rich(t)
	d := dice(3)
	for range 30 {
		w.moveSome(&d, 10)
		w.expect(true, "after moves")
	}
	for _, addr := range w.h.All() {
		w.h.Pin(addr)
	}
	for block := range w.h.Blocks() {
		w.h.Retag(block, 7)
	}
	w.h.Claim(5, 6)
	w.h.Place(5*64, fork)
	w.h.Forget()
	w.expect(true, "with pinned objects, other spaces, and one more object")
	w.h.Move(w.at(1), 5*64+20)
	w.expect(false, "after a move of which nothing knows")
}

// Identities in another order, or others, do not match, even if all else is the same.
func TestMatchIdentities(t *testing.T) {
	w, o := newWorld(t, 4, 1, First), newWorld(t, 4, 1, First)
	w.acts(0, create(0, link), create(1, link), store(0, 0, 1))
	o.acts(0, create(1, link), create(0, link), store(0, 0, 1))
	c := w.clone()
	c.m = o.m
	c.expect(false, "two objects that were made in another order")
	o.acts(0, drop(0), drop(1), create(0, link), create(1, link), store(0, 0, 1))
	c.m = o.m
	c.expect(false, "two objects that were made later")
	w.expect(true, "each with its own")
}

// Match is what the plain way finds, of worlds that are damaged once after many acts.
func TestMatchOnDamage(t *testing.T) {
	w, d, tally := newWorld(t, 10, 3, First), dice(21), map[bool]int{}
	for i := range 3000 {
		if _, e := w.do(d.next(3), d.act()); e == api.ErrFull || i%300 == 299 {
			w.collect(&d, i%2 == 0)
		}
		if i%40 == 7 {
			w.queue(&d)
		}
		c := w.clone()
		c.damage(&d)
		if d.next(3) == 0 {
			c.m.SetRef(1+d.next(c.m.Births()+1), d.next(3), d.next(c.m.Births()+1))
		}
		want := slices.Equal(c.told(), c.modelled())
		if got := mutate.Match(c.h, c.r, c.m); got != want {
			t.Fatalf("after act %d: Match is %v, want %v: %v, held against %v", i, got, want, c.told(), c.modelled())
		}
		tally[want]++
	}
	if tally[false] < 100 || tally[true] < 100 {
		t.Errorf("the test itself is idle: %v", tally)
	}
}
