package model_test

import (
	"slices"
	"testing"

	"dustcart/api"
	"dustcart/model"
)

// The chapter's first example.
func TestExampleOfLinks(t *testing.T) {
	b := newBoth(t, 1)
	b.effect(create(0, api.Shape{Refs: 1, Data: 1}), api.Effect{Made: 1})
	b.effect(create(1, api.Shape{Data: 2}), api.Effect{Made: 2})
	b.effect(store(0, 0, 1), api.Effect{Object: 1, New: 2})
	b.effect(drop(1), api.Effect{})
	b.kept(1, 2)
	b.effect(drop(0), api.Effect{})
	b.kept()
}

// The chapter's second example.
func TestExampleOfWeak(t *testing.T) {
	b := newBoth(t, 1)
	b.acts(0, create(0, weak), create(1, leaf), store(0, 0, 1), drop(1))
	b.kept(1)
	b.collect(1)
	b.kept(1)
	b.effect(load(1, 0, 0), api.Effect{})
	b.collect(0)
}

// The chapter's third example: the ephemeron is 1, the key 2, and the value 3.
func TestExampleOfEphemeron(t *testing.T) {
	b := newBoth(t, 1)
	b.acts(0, create(0, pair), create(1, leaf), create(2, link), store(0, 0, 1), store(0, 1, 2), drop(2))
	b.kept(1, 2, 3)
	c := b.clone()
	c.acts(0, drop(0))
	c.kept(2)
	c = b.clone()
	c.acts(0, drop(1))
	c.kept(1)

	b.acts(0, load(2, 0, 1), store(2, 0, 1), drop(2), drop(1)) // the value alone leads to the key
	b.kept(1)
	b.collect(1)
	b.kept(1)
}

func TestNew(t *testing.T) {
	for mutators := 1; mutators <= api.MaxMutators; mutators++ {
		b := newBoth(t, mutators)
		b.kept()
		b.collect(0)
		if b.m.Births() != 0 || b.m.Mutators() != mutators || len(b.m.Queue()) != 0 {
			t.Errorf("New(%d): %d births, %d mutators, queue %v", mutators, b.m.Births(), b.m.Mutators(), b.m.Queue())
		}
		n, e := b.m.Pop()
		expectError(t, "Pop of a new model", alone(n, e), api.ErrNone)
	}
}

func TestNewRefused(t *testing.T) {
	for _, mutators := range append([]int{0, -1, -2, -4, 5, 6, 8, 16}, beyond...) {
		if m, e := model.New(mutators); m != nil || e != api.ErrArg {
			t.Errorf("New(%d): %v, error %d", mutators, m, e)
		}
	}
}

// Each slot of each mutator is one of its own, and so is each global.
func TestEachPlace(t *testing.T) {
	for mutators := 1; mutators <= api.MaxMutators; mutators++ {
		b := newBoth(t, mutators)
		for mutator := range mutators {
			for i := range 16 {
				b.acts(mutator, create(i, leaf))
			}
		}
		b.same("with all slots full")
		for i := range 16 {
			b.acts(mutators-1, create(7, leaf), export(7, i))
		}
		b.same("with all globals full")
		for mutator := range mutators {
			for i := range 16 {
				b.acts(mutator, imported(i, 15-i))
			}
			b.same("after all globals were imported")
		}
	}
}

// The first and the last slot and global.
func TestPlacesAtEnds(t *testing.T) {
	b := newBoth(t, 4)
	b.acts(0, create(0, leaf), create(15, leaf), export(0, 15), export(15, 0))
	b.acts(3, imported(0, 0), imported(15, 15))
	for _, x := range []struct{ mutator, i, want int }{{0, 0, 1}, {0, 15, 2}, {3, 0, 2}, {3, 15, 1}, {1, 0, 0}, {2, 15, 0}} {
		n, e := b.m.Slot(x.mutator, x.i)
		expectNumber(t, line("Slot(", x.mutator, x.i, ")"), n, e, x.want)
	}
	for i, want := range map[int]int{0: 2, 15: 1, 1: 0, 14: 0} {
		n, e := b.m.Global(i)
		expectNumber(t, line("Global(", i, ")"), n, e, want)
	}
	b.kept(1, 2)
}

// The queue is one by itself: what is pushed is popped, in that order.
func TestQueue(t *testing.T) {
	b := newBoth(t, 1)
	b.acts(0, create(0, leaf), create(0, leaf), create(0, leaf), drop(0))
	b.kept()
	b.push(2, 1, 2)
	b.kept(1, 2)
	b.pop(2)
	b.kept(1, 2)
	b.push(3)
	b.pop(1)
	b.kept(2, 3)
	b.pop(2)
	b.kept(3)
	b.pop(3)
	b.kept()
	b.push(1) // an object is there, kept or not
	b.kept(1)
}

func TestFullQueue(t *testing.T) {
	b := newBoth(t, 1)
	b.acts(0, create(0, leaf), create(1, link))
	for i := range api.MaxQueue {
		b.push(1 + i%2)
	}
	b.same("with a full queue")
	expectError(t, "Push to a full queue", b.m.Push(1), api.ErrFull)
	b.same("after Push to a full queue")
	b.pop(1)
	b.push(1)
	expectError(t, "Push to a full queue", b.m.Push(2), api.ErrFull)
	for i := range api.MaxQueue {
		b.pop(1 + (i+1)%2)
	}
	b.same("with an empty queue")
	n, e := b.m.Pop()
	expectError(t, "Pop of an empty queue", alone(n, e), api.ErrNone)
	b.same("after Pop of an empty queue")
}

// SetRef sets any reference of any object, kept or not, of whatever kind.
func TestSetRef(t *testing.T) {
	for kind := api.Plain; kind <= api.Special; kind++ {
		b := newBoth(t, 1)
		b.acts(0, create(0, api.Shape{Refs: 15, Data: 3, Kind: kind}), create(1, leaf), drop(0), drop(1))
		for i := range 15 {
			b.setRef(1, i, 1+i%2)
			b.same("after SetRef")
		}
		for i := range 15 {
			b.setRef(1, i, 2-i%2)
			b.setRef(1, 14-i, 0)
			b.same("after SetRef to 0")
		}
		b.setRef(1, 3, 1)
		b.acts(0, create(0, leaf))
		b.setRef(1, 14, 3)
		b.same("after SetRef to a new object")
	}
}

// P4.1: objects that are kept no more are there still, with all that they have.
func TestNeverFreed(t *testing.T) {
	b := newBoth(t, 2)
	for kind := api.Plain; kind <= api.Special; kind++ {
		b.acts(1, create(kind, api.Shape{Refs: 3, Data: 2, Kind: kind}), put(kind, 0, 10+kind), put(kind, 1, -kind))
	}
	for i := range 12 {
		b.acts(1, store(i%4, i/4, (i+1)%4))
	}
	var before []string
	for n := 1; n <= 4; n++ {
		before = append(before, line(object(b.m, n)))
	}
	for i := range 4 {
		b.acts(1, drop(i))
	}
	for range 3 {
		b.kept()
		b.collect(0)
		b.acts(0, create(0, leaf), drop(0))
	}
	for n := 1; n <= 4; n++ {
		if after := line(object(b.m, n)); after != before[n-1] {
			t.Errorf("an object that is not kept was changed: %v, before %v", after, before[n-1])
		}
	}
	b.push(3)
	b.kept(1, 2, 3, 4) // they lead to one another
}

// Identities are given from 1 on, whichever mutator makes an object, and are never given again.
func TestIdentities(t *testing.T) {
	b := newBoth(t, 3)
	for n := 1; n <= 200; n++ {
		f, e := b.m.Do(n%3, create(n%16, leaf))
		if f.Made != n || e != api.OK || b.m.Births() != n {
			t.Fatalf("object %d: %v, error %d, births %d", n, f, e, b.m.Births())
		}
		if n%7 == 0 {
			b.m.Do(n%3, drop(n%16))
			b.m.Collect()
		}
		if n%5 == 0 {
			b.m.Do(n%3, create(0, api.Shape{Refs: 16})) // refused, so no identity is used
		}
	}
}

// R5: what was returned is new memory each time.
func TestMemoryIsNew(t *testing.T) {
	b := newBoth(t, 1)
	b.acts(0, create(0, api.Shape{Refs: 2, Data: 2}), put(0, 0, 5), put(0, 1, 6), store(0, 0, 0))
	b.push(1, 1, 1)
	f, _ := b.m.Do(0, get(0, 0))
	g, _ := b.m.Do(0, shape(0))
	kept, queue := b.m.Kept(), b.m.Queue()
	for _, list := range [][]int{f.Told, g.Told, kept, queue} {
		_ = append(list, 77)
		for i := range list {
			list[i] = 77
		}
	}
	b.same("after changes of results")

	old := b.m.Queue()
	told, _ := b.m.Do(0, get(0, 1))
	b.pop(1)
	b.acts(0, create(1, leaf), put(0, 1, 7))
	b.push(2)
	if !slices.Equal(old, []int{1, 1, 1}) || !slices.Equal(told.Told, []int{6}) {
		t.Errorf("results became %v, %v", old, told.Told)
	}
}

// R6: the same calls tell the same, however often.
func TestTellingChangesNothing(t *testing.T) {
	b := tangled(t)
	for range 3 {
		b.same("told again")
	}
}
