package model_test

import (
	"slices"
	"testing"

	"dustcart/api"
	"dustcart/model"
)

// dice are numbers in a fixed order that looks like none.
type dice uint32

func (d *dice) next(n int) int {
	*d = *d*1664525 + 1013904223
	return int(*d>>12) % n
}

// tangle returns a model with some objects of all kinds that lead to one another, and to nothing, at random; few places lead to them.
func tangle(t *testing.T, d *dice, objects int) both {
	b := newBoth(t, 1+d.next(4))
	few := []int{0, 1, 2, 0}
	for range objects {
		kind := d.next(4)
		s := api.Shape{Refs: few[kind] + d.next(3), Data: d.next(3), Kind: kind}
		b.acts(d.next(b.p.Mutators()), create(d.next(2), s))
	}
	for n, o := range b.p.things {
		for i := range o.refs {
			b.setRef(n+1, i, d.next(objects+2)%(objects+1))
		}
	}
	for mutator := range b.p.Mutators() {
		b.acts(mutator, drop(0))
		if d.next(2) == 0 {
			b.acts(mutator, export(1, d.next(16)))
		}
		b.acts(mutator, drop(1))
	}
	for range d.next(3) {
		b.push(1 + d.next(objects))
	}
	return b
}

// set is objects of a model, by the bits of their identities.
type set uint

func (s set) has(ident int) bool {
	return s>>ident&1 == 1
}

func setOf(list []int) set {
	var s set
	for _, ident := range list {
		s |= 1 << ident
	}
	return s
}

// places is what the places of a model lead to, as it tells itself.
func places(m *model.Model) set {
	list := m.Queue()
	for i := range 16 {
		n, _ := m.Global(i)
		list = append(list, n)
		for mutator := range m.Mutators() {
			n, _ := m.Slot(mutator, i)
			list = append(list, n)
		}
	}
	return setOf(list) &^ 1
}

// closed tells whether a set is, in the words of the document, one of which the kept objects are the least.
func closed(m *model.Model, s set) bool {
	if places(m)&^s != 0 {
		return false
	}
	for ident := 1; ident <= m.Births(); ident++ {
		if !s.has(ident) {
			continue
		}
		o, _ := m.Shape(ident)
		for i := range o.Refs {
			to, _ := m.Ref(ident, i)
			key, _ := m.Ref(ident, 0)
			without := i == 0 && (o.Kind == api.Weak || o.Kind == api.Ephemeron) ||
				i == 1 && o.Kind == api.Ephemeron && (key == 0 || !s.has(key))
			if !without && to != 0 && !s.has(to) {
				return false
			}
		}
	}
	return true
}

// P4.2: of all sets of objects, Kept is closed, and part of each one that is.
func TestLeast(t *testing.T) {
	d := dice(4)
	sizes := map[int]int{}
	for range 400 {
		m := tangle(t, &d, 7).m
		kept := setOf(m.Kept())
		if !closed(m, kept) {
			t.Fatalf("Kept is not closed: %v of %v", m.Kept(), state(m))
		}
		for s := set(0); s < 1<<8; s += 2 {
			if kept&^s != 0 && closed(m, s) {
				t.Fatalf("Kept is not the least: %v is closed without all of %v of %v", s, m.Kept(), state(m))
			}
		}
		sizes[len(m.Kept())]++
	}
	for n := range 8 {
		if sizes[n] == 0 {
			t.Errorf("the test itself is wrong: no model has %d kept objects: %v", n, sizes)
		}
	}
}

// P4.3: a further root, or a further reference of a plain object, keeps no fewer objects, and what it leads to.
func TestMonotone(t *testing.T) {
	d := dice(43)
	more := 0
	grown := func(what string, b, c both) {
		before, after := setOf(b.m.Kept()), setOf(c.m.Kept())
		if before&^after != 0 {
			t.Fatalf("%s: %v are kept, before %v", what, c.m.Kept(), b.m.Kept())
		}
		if before != after {
			more++
		}
		c.same(what)
	}
	for range 60 {
		b := tangle(t, &d, 9)
		for ident := 1; ident <= 9; ident++ {
			c := b.clone()
			c.push(ident)
			grown(line("after Push of ", ident), b, c)
			for i, to := range b.p.things[ident-1].refs {
				if to != 0 || b.p.things[ident-1].shape.Kind != api.Plain {
					continue
				}
				c := b.clone()
				c.setRef(ident, i, 1+d.next(9))
				grown(line("after SetRef of ", ident), b, c)
			}
		}
	}
	if more < 100 {
		t.Errorf("the test itself is wrong: more objects were kept only %d times", more)
	}
}

// P4.4: what Collect leaves, and that it is done only once.
func TestCollected(t *testing.T) {
	d := dice(44)
	changes := 0
	for range 300 {
		b := tangle(t, &d, 12)
		kept := b.m.Kept()
		n := b.p.Collect()
		changes += n
		expectNumber(t, "Collect", b.m.Collect(), api.OK, n)
		b.same("after Collect")
		if got := b.m.Kept(); !slices.Equal(got, kept) {
			t.Fatalf("after Collect: %v are kept, before %v", got, kept)
		}
		for _, ident := range kept {
			s, _ := b.m.Shape(ident)
			to, _ := b.m.Ref(ident, 0)
			value, _ := b.m.Ref(ident, 1)
			if (s.Kind == api.Weak || s.Kind == api.Ephemeron) && to != 0 && !slices.Contains(kept, to) {
				t.Fatalf("after Collect: the reference 0 of %d leads to %d, which is not kept", ident, to)
			}
			if s.Kind == api.Ephemeron && to == 0 && value != 0 {
				t.Fatalf("after Collect: %d has the value %d without a key", ident, value)
			}
		}
		expectNumber(t, "the second Collect", b.m.Collect(), api.OK, 0)
		b.same("after a second Collect")
	}
	if changes < 200 {
		t.Errorf("the test itself is wrong: %d objects were changed", changes)
	}
}
