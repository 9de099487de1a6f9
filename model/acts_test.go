package model_test

import (
	"strings"
	"testing"

	"dustcart/api"
)

// A call does something and returns all that it tells.
type call func(k keeper) string

// shape returns one that is small and valid, most of the time.
func (d *dice) shape() api.Shape {
	s := api.Shape{Refs: d.next(4), Data: d.next(4), Kind: d.next(4)}
	switch d.next(20) {
	case 0:
		s.Refs = 14 + d.next(3)
	case 1:
		s.Data = 199 + d.next(3)
	case 2:
		s.Kind = d.next(6) - 1
	}
	return s
}

// act returns any act, with the few slots that are used most of the time, and with fields of all kinds.
func (d *dice) act() api.Act {
	a := api.Act{Kind: d.next(12), A: d.next(5), B: d.next(5), I: d.next(3), N: d.next(1000) - 500, Shape: d.shape()}
	if d.next(4) == 0 {
		a.Kind = api.ActStore
	}
	switch d.next(40) {
	case 0:
		a.Kind = d.next(14) - 1
	case 1:
		a.A = d.next(18) - 1
	case 2:
		a.B = d.next(18) - 1
	case 3:
		a.I = d.next(18) - 1
	}
	return a
}

// anyCall returns a call; crowd tells how often it is one that fills the queue.
func anyCall(d *dice, p *plain, crowd int) call {
	ident, i, to := d.next(p.Births()+2), d.next(4)-d.next(2), d.next(p.Births()+2)-d.next(2)
	switch die := d.next(20); {
	case die < 15:
		mutator, a := d.next(p.Mutators()), d.act()
		if d.next(40) == 0 {
			mutator = d.next(6) - 1
		}
		return func(k keeper) string {
			f, e := k.Do(mutator, a)
			return line("Do(", mutator, a, "): ", told(f, e))
		}
	case die == 15:
		return func(k keeper) string { return line("SetRef(", ident, i, to, "): error ", int(k.SetRef(ident, i, to))) }
	case die == 16 && d.next(4) == 0:
		return func(k keeper) string { return line("Collect: ", k.Collect()) }
	case d.next(10) < crowd:
		return func(k keeper) string { return line("Push(", ident, "): error ", int(k.Push(ident))) }
	default:
		return func(k keeper) string {
			n, e := k.Pop()
			return line("Pop: ", n, ", error ", int(e))
		}
	}
}

// P4.1 to P4.7 at once: a long run of calls, held against the plain model, with clones that are left behind and taken up again.
func TestCalls(t *testing.T) {
	d := dice(11)
	for mutators := 1; mutators <= api.MaxMutators; mutators++ {
		b := newBoth(t, mutators)
		behind := b.clone()
		longest, seen := 0, map[string]int{}
		for i := range 3000 {
			do := anyCall(&d, b.p, []int{9, 2, 9}[i/1000])
			want := do(b.p)
			if got := do(b.m); got != want {
				t.Fatalf("call %d: %s, want %s", i, got, want)
			}
			longest = max(longest, len(b.p.queue))
			seen[want[strings.LastIndex(want, " ")+1:]]++
			if i%60 == 0 {
				b.same(line("after call ", i))
			}
			if i%500 == 499 {
				behind.same("a clone that was left behind")
				b, behind = behind, b.clone()
				behind.same("a clone of what goes on")
				if i%1000 == 999 {
					b = behind.clone()
				}
			}
		}
		b.same("at the end")
		for _, e := range []api.Errno{api.OK, api.ErrArg, api.ErrForm, api.ErrNone, api.ErrFull, api.ErrNil} {
			if seen[line(int(e))] < 5 {
				t.Errorf("the test itself is wrong: a queue of %d at most, errors %v", longest, seen)
			}
		}
	}
}
