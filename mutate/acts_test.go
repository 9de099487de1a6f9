package mutate_test

import (
	"testing"

	"dustcart/api"
	"dustcart/mutate"
)

// dice are numbers in a fixed order that looks like none.
type dice uint32

func (d *dice) next(n int) int {
	*d = *d*1664525 + 1013904223
	return int(*d>>12) % n
}

// among returns one of some numbers.
func (d *dice) among(list ...int) int {
	return list[d.next(len(list))]
}

// shape returns one that is small and valid, most of the time.
func (d *dice) shape() api.Shape {
	s := api.Shape{Refs: d.next(4), Data: d.next(4), Kind: d.next(4)}
	switch d.next(30) {
	case 0:
		s.Refs = 14 + d.next(3)
	case 1:
		s.Data = d.among(20, 40, 80, 200, 201)
	case 2:
		s.Kind = d.next(6) - 1
	}
	return s
}

// act returns any act, with the few slots that are used most of the time, and with fields of all kinds.
func (d *dice) act() api.Act {
	a := api.Act{Kind: d.next(12), A: d.next(5), B: d.next(5), I: d.next(3), N: d.next(1000) - 500, Shape: d.shape()}
	if d.next(3) == 0 {
		a.Kind = d.among(api.ActStore, api.ActStore, api.ActLoad)
	}
	switch d.next(40) {
	case 0:
		a.Kind = d.next(14) - 1
	case 1:
		a.A = d.next(18) - 1
	case 2:
		a.B = d.next(18) - 1
	case 3:
		a.I = d.next(18) - 1
	case 4:
		a.I, a.N = beyond[d.next(len(beyond))], beyond[d.next(len(beyond))]
	}
	return a
}

// move gives an object another address, if there is room, and changes all that led to it; it tells whether it did.
func (w world) move(from, to int) bool {
	w.t.Helper()
	if w.h.Move(from, to) != api.OK {
		return false
	}
	for _, addr := range w.h.All() {
		s, _ := w.h.Shape(addr)
		for i := range s.Refs {
			if ref, _ := w.h.Ref(addr, i); ref == from {
				w.h.SetRef(addr, i, to)
			}
		}
	}
	if _, e := w.r.Replace([]int{from}, []int{to}); e != api.OK {
		w.t.Fatalf("Replace(%d, %d): the test itself is wrong: error %d", from, to, e)
	}
	return true
}

// moveSome moves objects to anywhere, and tells how many were moved.
func (w world) moveSome(d *dice, tries int) int {
	w.t.Helper()
	moved := 0
	for range tries {
		all := w.h.All()
		if len(all) == 0 {
			return moved
		}
		from := all[d.next(len(all))]
		to := 2 * d.next(32*w.h.Blocks())
		if d.next(2) == 0 {
			to = from + 2*(d.next(5)-2) // it slides
		}
		if to != from && w.move(from, to) {
			moved++
		}
	}
	return moved
}

// collect clears what a collection clears, and kills some of the objects that are not kept, or all; it tells how many were killed.
func (w world) collect(d *dice, some bool) int {
	w.t.Helper()
	w.m.Collect()
	kept := map[int]bool{}
	for _, n := range w.m.Kept() {
		kept[n] = true
		s, _ := w.m.Shape(n)
		for i := range s.Refs {
			if to, _ := w.m.Ref(n, i); to == 0 {
				w.h.SetRef(w.at(n), i, 0)
			}
		}
	}
	killed := 0
	for _, addr := range w.h.All() {
		if !kept[w.ident(addr)] && (!some || d.next(3) > 0) {
			w.kill(addr)
			killed++
		}
	}
	for block := range w.h.Blocks() {
		w.h.Release(block) // if there is no object in it
	}
	w.a.Reset()
	return killed
}

// queue pushes an object that is in a slot to both queues, or removes the oldest one of both.
func (w world) queue(d *dice) {
	w.t.Helper()
	place := slot(d.next(w.r.Mutators()), d.next(5))
	addr, _ := w.r.Get(place)
	if n := w.ident(addr); n > 0 && len(w.r.Queue()) < 5 {
		w.push(n)
		return
	}
	got, e := w.r.Pop()
	want, eM := w.m.Pop()
	if e != eM || w.ident(got) != want {
		w.t.Fatalf("Pop: %d, error %d, want %d, error %d", w.ident(got), e, want, eM)
	}
}

// P6.1, P6.2, P6.3, P6.5 and P6.6: long runs of acts, held against a model to which the same acts are done, objects being moved, and killed if they are not kept.
func TestActsAgainstTheModel(t *testing.T) {
	for policy := range policies {
		for mutators := 1; mutators <= api.MaxMutators; mutators++ {
			w, d := newWorld(t, 12, mutators, policy), dice(100*policy+mutators)
			errors, moved, killed := map[api.Errno]int{}, 0, 0
			for i := range 2000 {
				before := w.state()
				a := d.act()
				_, e := w.do(d.next(mutators), a)
				if e != api.OK {
					w.unchanged(line("after ", a, ", which was refused"), before)
				}
				errors[e]++
				switch {
				case e == api.ErrFull || i%200 == 199:
					killed += w.collect(&d, i%3 == 0)
				case i%30 == 5:
					moved += w.moveSome(&d, 6)
				case i%15 == 3:
					w.queue(&d)
				}
				if i%25 == 0 || e == api.ErrFull {
					w.match(line("after act ", i))
				}
			}
			w.match("at the end")
			for _, e := range []api.Errno{api.OK, api.ErrArg, api.ErrForm, api.ErrNil} {
				if errors[e] < 10 {
					t.Errorf("the test itself is idle: %d times the error %d", errors[e], e)
				}
			}
			if moved < 50 || killed < 50 {
				t.Errorf("the test itself is idle: %d moved, %d killed", moved, killed)
			}
		}
	}
}

// P6.1: as long as the heap is not full, nothing needs to be killed or moved.
func TestActsOnLargeHeap(t *testing.T) {
	for policy := range policies {
		w, d := newWorld(t, api.MaxBlocks, 4, policy), dice(policy)
		for i := range 1000 {
			a := d.act()
			if _, e := w.do(d.next(4), a); e == api.ErrFull {
				t.Fatalf("the test itself is wrong: act %d, %v: the heap is full", i, a)
			}
			if i%20 == 0 {
				w.match(line("after act ", i))
			}
		}
		w.match("at the end")
	}
}

// P6.2: after a move an act tells of the object at its new address, whichever way it is reached.
func TestMoved(t *testing.T) {
	w := newWorld(t, 6, 2, First)
	w.acts(0, create(0, api.Shape{Refs: 2, Data: 1}), create(1, weak), create(2, large), store(0, 0, 1), store(0, 1, 2), store(1, 0, 0), store(2, 1, 0), put(0, 0, 7), export(0, 2), copied(9, 0), drop(2))
	w.h.Retag(1, 5)
	w.h.Claim(5, 5)
	for _, move := range []api.Move{{From: 70, To: 320}, {From: 64, To: 66}, {From: 66, To: 340}} {
		if !w.move(move.From, move.To) {
			t.Fatalf("%v: the test itself is wrong: objects %v", move, w.h.All())
		}
		w.match(line("after ", move))
	}
	w.effect(ident(0), api.Effect{Told: []int{1}})
	w.effect(alike(9, 0), api.Effect{Told: []int{1}})
	w.effect(get(9, 0), api.Effect{Told: []int{7}})
	w.effect(imported(3, 2), api.Effect{Loaded: 340})
	w.effect(load(4, 3, 0), api.Effect{Loaded: 320})
	w.effect(load(5, 4, 0), api.Effect{Loaded: 340})
	w.effect(load(5, 5, 1), api.Effect{Loaded: 128})
	w.effect(load(5, 5, 1), api.Effect{Loaded: 340})
	w.effect(store(5, 0, 5), api.Effect{Object: 340, Old: 320, New: 340})
	w.effect(create(6, leaf), api.Effect{Made: 256})
}

// P6.3: what is not kept is killed, weak references being cleared before; its words are used again, under new identities.
func TestFreed(t *testing.T) {
	w := newWorld(t, 4, 1, First)
	w.acts(0, create(0, weak), create(1, leaf), create(2, pair), create(3, link), store(0, 0, 1), store(2, 0, 1), store(2, 1, 3), store(3, 0, 1), drop(1), drop(3))
	d := dice(1)
	if killed := w.collect(&d, false); killed != 2 {
		t.Errorf("%d killed", killed)
	}
	w.match("after a collection")
	w.effect(load(1, 0, 0), api.Effect{})
	w.effect(load(1, 2, 1), api.Effect{})
	w.effect(create(1, leaf), api.Effect{Made: 68})
	w.effect(ident(1), api.Effect{Told: []int{5}})
	w.effect(store(2, 0, 1), api.Effect{Object: 70, New: 68})
	w.effect(drop(0), api.Effect{})
	if killed := w.collect(&d, false); killed != 1 {
		t.Errorf("%d killed", killed)
	}
	w.match("after another collection")
}

// damage breaks something that the model does not know of.
func (w world) damage(d *dice) {
	addr, v := 2*d.next(32*w.h.Blocks())+d.next(2), d.among(-1, -64, 0, 64, 65, 128, 1000, 1<<40, beyond[d.next(len(beyond))])
	all := append(w.h.All(), 64)
	object := all[d.next(len(all))]
	place := []api.Place{slot(d.next(w.r.Mutators()), d.next(6)), global(d.next(3))}[d.next(2)]
	switch d.next(7) {
	case 0:
		w.h.Kill(object)
	case 1, 2:
		w.h.Poke(object+2+d.next(3), v)
	case 3, 4:
		w.r.Set(place, d.among(v, addr, object))
	default:
		w.h.Move(object, addr)
	}
}

// P6.6, and all errors of the chapter in their order, on heaps and roots that are damaged again and again, held against the plain way.
func TestActsOnDamage(t *testing.T) {
	for policy := range policies {
		tally := map[string]int{}
		for mutators := 1; mutators <= api.MaxMutators; mutators++ {
			w, d := newWorld(t, 2*mutators, mutators, policy), dice(500*policy+mutators)
			for i := range 3000 {
				if i%5 == 0 {
					w.damage(&d)
				}
				if i%500 == 499 {
					w.collectAnything(&d)
				}
				mutator, a := d.next(mutators), d.act()
				p := plain{w.clone(), mutator, a}
				before := p.state()
				f, e := p.do()
				if got, want := told(mutate.Do(w.h, w.r, w.a, mutator, a)), told(f, e); got != want {
					t.Fatalf("policy %d, act %d: Do(%d, %v): %s, want %s", policy, i, mutator, a, got, want)
				}
				w.unchanged(line("after ", a, ", held against the plain way"), p.state())
				if e != api.OK {
					w.unchanged(line("after ", a, ", which was refused"), before)
				}
				tally[line("error ", int(e))]++
				if e == api.ErrState {
					tally[line("error 5 of kind ", a.Kind)]++
				}
			}
		}
		for _, often := range []string{"error 0", "error 1", "error 2", "error 5", "error 6", "error 7", "error 5 of kind 1", "error 5 of kind 2", "error 5 of kind 3", "error 5 of kind 4", "error 5 of kind 8", "error 5 of kind 11"} {
			if tally[often] < 10 {
				t.Errorf("the test itself is idle: policy %d: %s occurred %d times", policy, often, tally[often])
			}
		}
	}
}

// collectAnything kills half of the objects, whatever leads to them.
func (w world) collectAnything(d *dice) {
	for _, addr := range w.h.All() {
		if d.next(2) > 0 {
			w.kill(addr)
		}
	}
	for block := range w.h.Blocks() {
		w.h.Release(block)
	}
	w.a.Reset()
}
