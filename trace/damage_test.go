package trace_test

import (
	"testing"

	"dustcart/api"
	"dustcart/mutate"
	"dustcart/trace"
)

// damage breaks something: a reference, a place, or an object, which is killed or moved without what leads to it.
func (w world) damage(d *dice) {
	all := append(w.h.All(), 64)
	object, addr := all[d.next(len(all))], d.next(64*w.h.Blocks())
	values := []int{-1, -2, -64, addr, addr, object, all[d.next(len(all))], 1 << 40, beyond[d.next(len(beyond))]}
	v := values[d.next(len(values))]
	place := []api.Place{slot(d.next(w.r.Mutators()), d.next(6)), global(d.next(3)), queued(0)}[d.next(3)]
	switch d.next(8) {
	case 0:
		w.h.Kill(object)
	case 1:
		w.h.Move(object, 2*(addr/2))
	case 2, 3:
		w.r.Set(place, v)
	default:
		w.h.Poke(object+2+d.next(4), v)
	}
}

// killSome makes room, whatever leads to the objects.
func (w acting) killSome(d *dice) {
	for _, addr := range w.h.All() {
		if d.next(3) == 0 {
			w.h.Kill(addr)
		}
	}
	w.a.Reset()
}

// All functions on heaps and roots that are damaged again and again, held against the plain way.
func TestDamage(t *testing.T) {
	var tally api.Traced
	for mutators := 1; mutators <= api.MaxMutators; mutators++ {
		w, d := newActing(t, 3+2*mutators, mutators, mutators), dice(900+mutators)
		for i := range 1500 {
			if _, e := mutate.Do(w.h, w.r, w.a, d.next(mutators), d.act()); e == api.ErrFull {
				w.killSome(&d)
			}
			if i%4 == 0 {
				w.damage(&d)
			}
			if i%10 == 0 {
				w.checkPlainly(&tally)
				w.checkClear(w.someMarks(&d))
			}
		}
	}
	if tally.Scanned < 5000 || tally.Overflows < 500 || tally.Rescans < 300 || tally.Rounds < 1000 {
		t.Errorf("the test itself is idle: %+v", tally)
	}
}

// someMarks are any addresses at which there may be objects.
func (w world) someMarks(d *dice) []int {
	var list []int
	one := 1 + d.next(5)
	for i := range 32 * w.h.Blocks() {
		if d.next(one) == 0 {
			list = append(list, 2*i)
		}
	}
	return list
}

// Clear of any marks, on sound heaps, too.
func TestClearOfSomeMarks(t *testing.T) {
	w, d := newActing(t, 8, 2, 0), dice(7)
	cleared := 0
	for i := range 2000 {
		if w.do(d.next(2), d.act()) == api.ErrFull {
			w.collect()
		}
		if i%5 == 0 {
			w.checkClear(w.someMarks(&d))
			c := w.clone()
			n, e := trace.Clear(c.h, c.table(32*c.h.Blocks(), 1, c.someMarks(&d)...))
			if e != api.OK {
				t.Fatalf("Clear: error %d", e)
			}
			cleared += n
		}
	}
	if cleared < 100 {
		t.Errorf("the test itself is idle: %d objects changed", cleared)
	}
}
