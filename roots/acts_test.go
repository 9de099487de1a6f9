package roots_test

import (
	"fmt"
	"slices"
	"testing"

	"dustcart/api"
)

// dice are numbers in a fixed order that looks like none.
type dice uint32

func (d *dice) next(n int) int {
	*d = *d*1664525 + 1013904223
	return int(*d>>12) % n
}

// place returns a place, or fields that are none but nearly so.
func (d *dice) place(m *model) api.Place {
	switch d.next(4) {
	case 0:
		return queued(d.next(len(m.queue) + 1))
	case 1:
		return global(d.next(17))
	case 2:
		return slot(d.next(m.mutators), d.next(16))
	default:
		return api.Place{Kind: d.next(4), Mutator: d.next(m.mutators + 1), Index: d.next(18) - 1}
	}
}

// addresses returns different small numbers, rising most of the time, or one that is no address.
func (d *dice) addresses(few int) []int {
	var list []int
	for n := range few {
		if d.next(2) == 0 {
			list = append(list, n+1)
		}
	}
	if len(list) > 1 && d.next(8) == 0 {
		list[0], list[1] = list[1], list[0]
	}
	if len(list) > 0 && d.next(8) == 0 {
		list[d.next(len(list))] = d.next(3) - 1
	}
	return list
}

// turned returns a list of as many addresses, most of the time.
func (d *dice) turned(from []int, few int) []int {
	if d.next(8) == 0 {
		return d.addresses(few)
	}
	to := slices.Clone(from)
	if len(to) > 0 && d.next(2) == 0 {
		by := d.next(len(to))
		return append(slices.Clone(to[by:]), to[:by]...)
	}
	for i := range to {
		to[i] = d.next(few) + 1
	}
	return to
}

// An act does something and returns all that it tells.
type act func(k keeper) string

func told(what string, n int, e api.Errno) string {
	return fmt.Sprint(what, ": ", n, ", error ", int(e))
}

// anyAct returns an act; crowd tells how often it is one that fills the queue.
func anyAct(d *dice, m *model, crowd int) act {
	const few = 9
	p, addr := d.place(m), d.next(few+2)-1
	switch die := d.next(8); {
	case die < 2:
		return func(k keeper) string { return told(fmt.Sprint("Set ", p, addr), 0, k.Set(p, addr)) }
	case die == 2:
		from := d.addresses(few)
		to := d.turned(from, few)
		return func(k keeper) string {
			n, e := k.Replace(from, to)
			return told(fmt.Sprint("Replace ", from, to), n, e)
		}
	case die == 3:
		return func(k keeper) string {
			n, e := k.Get(p)
			return told(fmt.Sprint("Get ", p), n, e)
		}
	case d.next(10) < crowd:
		return func(k keeper) string { return told(fmt.Sprint("Push ", addr), 0, k.Push(addr)) }
	default:
		return func(k keeper) string {
			n, e := k.Pop()
			return told("Pop", n, e)
		}
	}
}

// P3.1 to P3.6 at once: a long run of acts, held against the model, with clones that are left behind and taken up again.
func TestActs(t *testing.T) {
	d := dice(3)
	for mutators := 1; mutators <= api.MaxMutators; mutators++ {
		b := newBoth(t, mutators)
		behind := b.clone()
		longest, refusals := 0, map[api.Errno]int{}
		for i := range 4000 {
			do := anyAct(&d, b.m, 3+i/400%6)
			want := do(b.m)
			if got := do(b.r); got != want {
				t.Fatalf("act %d: %s, want %s", i, got, want)
			}
			longest = max(longest, len(b.m.queue))
			for _, e := range []api.Errno{api.OK, api.ErrArg, api.ErrFull, api.ErrNone} {
				if want[len(want)-len("error 0"):] == fmt.Sprint("error ", int(e)) {
					refusals[e]++
				}
			}
			if i%10 == 0 {
				b.same(fmt.Sprint("after act ", i))
			}
			if i%250 == 249 {
				behind.same("a clone that was left behind")
				b, behind = behind, b.clone()
				behind.same("a clone of what goes on")
				if i%500 == 499 {
					b = behind.clone()
				}
			}
		}
		if longest < 64 || len(refusals) < 4 {
			t.Errorf("the test itself is wrong: a queue of %d at most, errors %v", longest, refusals)
		}
	}
}
