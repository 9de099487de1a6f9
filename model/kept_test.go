package model_test

import (
	"testing"

	"dustcart/api"
	"dustcart/model"
)

// made lets mutator 0 make objects with some shapes, the identities being 1, 2, .., which no place leads to.
func made(t *testing.T, shapes ...api.Shape) both {
	t.Helper()
	b := newBoth(t, 1)
	for _, s := range shapes {
		b.acts(0, create(15, s))
	}
	b.acts(0, drop(15))
	return b
}

// refs lets the references of an object be these, from 0 on.
func (b both) refs(n int, list ...int) {
	b.t.Helper()
	for i, to := range list {
		b.setRef(n, i, to)
	}
}

// Each place keeps what it leads to, as long as it does.
func TestKeptByPlaces(t *testing.T) {
	b := newBoth(t, 4)
	for mutator := range 4 {
		for _, i := range []int{0, 1, 14, 15} {
			b.acts(mutator, create(i, leaf))
			n := b.m.Births()
			b.kept(n)
			b.acts(mutator, export(i, i), drop(i))
			b.kept(n)
			b.acts(3-mutator, imported(5, i), export(9, i))
			b.kept(n)
			b.push(n)
			b.acts(3-mutator, drop(5))
			b.kept(n)
			b.pop(n)
			b.kept()
		}
	}
}

// What is kept by all references of plain and special objects, and by the further ones of the others.
func TestKeptByReferences(t *testing.T) {
	for kind, loose := range []int{api.Plain: 0, api.Weak: 1, api.Ephemeron: 2, api.Special: 0} {
		for i := range 15 {
			b := made(t, api.Shape{Refs: 15, Kind: kind}, leaf)
			b.refs(1, make([]int, 15)...)
			b.setRef(1, i, 2)
			b.push(1)
			if i < loose {
				b.kept(1)
				b.collect(1)
			} else {
				b.kept(1, 2)
				b.collect(0)
			}
		}
	}
}

// Objects that lead to themselves and to one another are kept together, or not at all.
func TestRings(t *testing.T) {
	b := made(t, fork, fork, link, link)
	b.refs(1, 1, 2)
	b.refs(2, 3, 2)
	b.refs(3, 1)
	b.refs(4, 4)
	b.kept()
	b.collect(0)
	for n := 1; n <= 3; n++ {
		b.push(n)
		b.kept(1, 2, 3)
		b.pop(n)
	}
	b.push(4)
	b.kept(4)
	b.push(4, 3)
	b.kept(1, 2, 3, 4)
	b.setRef(2, 0, 4)
	b.pop(4)
	b.kept(1, 2, 3, 4)
}

// A Weak that leads to itself keeps its reference, as it is kept; two that lead to each other do not keep each other.
func TestWeakInTurn(t *testing.T) {
	b := made(t, weak, weak, weak)
	b.refs(1, 1)
	b.refs(2, 3)
	b.refs(3, 2)
	b.push(1, 2)
	b.kept(1, 2)
	b.collect(1)
	n, e := b.m.Ref(1, 0)
	expectNumber(t, "the reference to itself", n, e, 1)
	n, e = b.m.Ref(3, 0)
	expectNumber(t, "the reference of what is not kept", n, e, 2)
	b.push(3)
	b.kept(1, 2, 3)
	b.collect(0)
}

// A Weak and an Ephemeron whose further references keep each other.
func TestWeakAndEphemeronInTurn(t *testing.T) {
	b := made(t, api.Shape{Refs: 2, Kind: api.Weak}, api.Shape{Refs: 3, Kind: api.Ephemeron}, leaf, leaf, leaf)
	b.refs(1, 3, 2)
	b.refs(2, 4, 5, 1)
	for n := 1; n <= 2; n++ {
		c := b.clone()
		c.push(n)
		c.kept(1, 2)
		c.collect(2)
		c.kept(1, 2)
	}
	b.push(2, 4)
	b.kept(1, 2, 4, 5)
	b.collect(1)
}

// An Ephemeron has a key, a value, and further references, each of which may be empty.
func TestEphemeron(t *testing.T) {
	b := made(t, api.Shape{Refs: 4, Kind: api.Ephemeron}, leaf, leaf, leaf, leaf)
	b.refs(1, 2, 3, 4, 5)
	b.push(1)
	b.kept(1, 4, 5)
	b.push(2)
	b.kept(1, 2, 3, 4, 5)
	b.collect(0)

	c := b.clone()
	c.setRef(1, 1, 0) // no value
	c.kept(1, 2, 4, 5)
	c.collect(0)

	c = b.clone()
	c.setRef(1, 0, 0) // no key: the value is not kept, and emptied
	c.kept(1, 2, 4, 5)
	c.collect(1)
	n, e := c.m.Ref(1, 1)
	expectNumber(t, "the value without a key", n, e, 0)
	c.collect(0)

	b.push(3, 1)
	b.pop(1)
	b.pop(2)
	b.kept(1, 3, 4, 5) // the value is kept by something else, the key by nothing
	b.collect(1)
	n, e = b.m.Ref(1, 1)
	expectNumber(t, "the value that is kept, when the key is not", n, e, 0)
	b.kept(1, 3, 4, 5)
}

// An Ephemeron that is not kept keeps nothing, whether its key is kept or not, and is not changed.
func TestEphemeronThatIsNotKept(t *testing.T) {
	b := made(t, pair, leaf, leaf)
	b.refs(1, 2, 3)
	b.push(2)
	b.kept(2)
	b.collect(0)
	b.pop(2)
	b.push(3)
	b.kept(3)
	b.collect(0)
	n, e := b.m.Ref(1, 0)
	expectNumber(t, "the key of what is not kept", n, e, 2)
}

// Keys that only their own value leads to, directly or far off, are not kept; nor is the value.
func TestKeyOfOwnValue(t *testing.T) {
	b := made(t, pair, leaf, link, fork)
	b.refs(1, 2, 3)
	b.refs(3, 4)
	b.refs(4, 2, 1)
	b.push(1)
	b.kept(1)
	b.collect(1)
	b.kept(1)

	b = made(t, pair, link) // the key is the value
	b.refs(1, 2, 2)
	b.refs(2, 2)
	b.push(1)
	b.kept(1)
	b.collect(1)
	b.push(2)
	b.refs(1, 2, 2)
	b.kept(1, 2)
	b.collect(0)
}

// An Ephemeron that is its own key keeps its value, as it is kept; one that is its own value does not keep its key.
func TestOwnKey(t *testing.T) {
	b := made(t, pair, leaf)
	b.refs(1, 1, 2)
	b.push(1)
	b.kept(1, 2)
	b.collect(0)
	b.refs(1, 2, 1)
	b.kept(1)
	b.collect(1)
	b.refs(1, 1, 1)
	b.kept(1)
	b.collect(0)
}

// Two Ephemerons, each one's value leading to the other one's key.
func TestEphemeronsInTurn(t *testing.T) {
	b := made(t, pair, pair, leaf, leaf)
	b.refs(1, 3, 4)
	b.refs(2, 4, 3)
	b.push(1, 2)
	b.kept(1, 2)
	c := b.clone()
	c.collect(2)
	b.push(3)
	b.kept(1, 2, 3, 4)
	b.collect(0)
}

// Two Ephemerons, each the value of the other one, and the key of the other one.
func TestEphemeronsOfOneAnother(t *testing.T) {
	b := made(t, pair, pair, leaf)
	b.refs(1, 3, 2)
	b.refs(2, 3, 1)
	b.push(1)
	b.kept(1)
	b.push(3)
	b.kept(1, 2, 3)
	b.refs(1, 2, 3)
	b.refs(2, 1, 3)
	b.pop(1)
	b.kept(3)
	b.push(2)
	b.kept(2, 3)
	b.push(1)
	b.kept(1, 2, 3)
	b.collect(0)
}

// Several Ephemerons with one key, and one key that is found late.
func TestManyOfOneKey(t *testing.T) {
	b := made(t, pair, pair, pair, link, leaf, leaf, leaf, link)
	b.refs(1, 5, 6)
	b.refs(2, 5, 7)
	b.refs(3, 5, 6)
	b.refs(8, 4)
	b.push(1, 2, 3, 8)
	b.kept(1, 2, 3, 4, 8)
	c := b.clone()
	c.collect(3)
	b.setRef(4, 0, 5)
	b.kept(1, 2, 3, 4, 5, 6, 7, 8)
	b.collect(0)
}

// chain returns Ephemerons whose keys are kept by the value of the one before: the i-th one, from 1 on, has the key n + i and the value n + 1 + i; a place leads to each, in the order given.
func chain(t *testing.T, n int, order func(i int) int) both {
	t.Helper()
	var shapes []api.Shape
	for range n {
		shapes = append(shapes, pair)
	}
	for range n + 1 {
		shapes = append(shapes, leaf)
	}
	b := made(t, shapes...)
	for i := 1; i <= n; i++ {
		b.refs(i, n+i, n+i+1)
	}
	for i := range n {
		b.push(order(i))
	}
	return b
}

func upTo(n int) []int {
	var list []int
	for i := range n {
		list = append(list, i+1)
	}
	return list
}

// Chains of Ephemerons, found from their first one on, from their last one on, and without order.
func TestChains(t *testing.T) {
	const n = 11
	for name, order := range map[string]func(i int) int{
		"rising":  func(i int) int { return i + 1 },
		"falling": func(i int) int { return n - i },
		"mixed":   func(i int) int { return i*7%n + 1 },
	} {
		b := chain(t, n, order)
		b.kept(upTo(n)...)
		c := b.clone()
		c.collect(n)
		c.kept(upTo(n)...)

		b.acts(0, create(0, link))
		b.setRef(2*n+2, 0, n+1) // the first key
		b.kept(upTo(2*n + 2)...)
		b.collect(0)
		b.setRef(5, 0, 0) // the chain is broken at its fifth one
		if got := len(b.m.Kept()); got != n+5+1 {
			t.Errorf("%s: %d objects of the broken chain are kept", name, got)
		}
		b.collect(n - 4)
	}
}

// Chains in which each value is the next Ephemeron, and each key hangs on the value before.
func TestChainOfValues(t *testing.T) {
	b := made(t, pair, api.Shape{Refs: 3, Kind: api.Ephemeron}, api.Shape{Refs: 3, Kind: api.Ephemeron}, leaf, leaf, leaf, leaf)
	b.refs(1, 4, 2)
	b.refs(2, 5, 3, 5) // its own key is a further reference of it
	b.refs(3, 6, 7, 6)
	b.push(1)
	b.kept(1)
	b.push(4)
	b.kept(1, 2, 3, 4, 5, 6, 7)
	b.collect(0)
	b.setRef(2, 2, 0)
	b.kept(1, 2, 4)
	b.collect(1)
	b.kept(1, 2, 4)
}

// longChain returns a model with n Ephemerons, each led to by the next one, and n + 1 keys: slot 0 is the first one, and slot 1 the last one. The value of an Ephemeron is the key of the next one, or, if they are falling, that of the one before.
func longChain(t *testing.T, n int, falling bool) *model.Model {
	t.Helper()
	m := newModel(t, 1)
	m.Do(0, create(0, leaf))
	m.Do(0, copied(1, 0))
	key, value := 1, 3
	if falling {
		key, value = 3, 1
	}
	for range n {
		m.Do(0, create(2, api.Shape{Refs: 3, Kind: api.Ephemeron}))
		m.Do(0, create(3, leaf))
		m.Do(0, store(2, 0, key))
		m.Do(0, store(2, 1, value))
		m.Do(0, store(2, 2, 4))
		m.Do(0, copied(4, 2))
		m.Do(0, copied(1, 3))
	}
	m.Do(0, drop(2))
	m.Do(0, drop(3))
	return m
}

// Long chains need neither deep calls nor a look at everything for each of their objects, whichever way they are found.
func TestLongChains(t *testing.T) {
	const n = 100_000
	for from, falling := range []bool{false, true} {
		m := longChain(t, n, falling)
		m.Do(0, drop(1-from)) // the chain is kept from one end of it alone
		if got := len(m.Kept()); got != 2*n+1 {
			t.Fatalf("from slot %d: %d objects are kept, want %d", from, got, 2*n+1)
		}
		if got := m.Collect(); got != 0 {
			t.Errorf("from slot %d: Collect = %d", from, got)
		}
		m.Do(0, drop(from))
		if got := len(m.Kept()); got != n {
			t.Errorf("from slot %d: %d objects are kept without a key, want %d", from, got, n)
		}
		if got := m.Collect(); got != n {
			t.Errorf("from slot %d: Collect = %d, want %d", from, got, n)
		}
	}
}

// P4.4: what Collect changes, and what it counts.
func TestCollect(t *testing.T) {
	b := made(t, weak, weak, pair, pair, pair, link, leaf, leaf, api.Shape{Refs: 1, Kind: api.Special})
	b.refs(1, 7)       // leads to nothing that is kept
	b.refs(3, 7, 8)    // its key is not kept
	b.refs(4, 0, 8)    // without a key
	b.refs(5, 7)       // without a value
	b.refs(6, 2)       // plain
	b.refs(9, 8)       // special
	b.push(1, 3, 4, 5) // the object 2 is not kept
	b.collect(4)
	for n := 1; n <= 5; n++ {
		ref, e := b.m.Ref(n, 0)
		expectNumber(t, line("the reference 0 of ", n), ref, e, 0)
	}
	ref, e := b.m.Ref(9, 0)
	expectNumber(t, "the reference of what is special and not kept", ref, e, 8)
	b.collect(0)
	b.push(2, 6, 9)
	b.collect(0)
	b.setRef(2, 0, 7)
	b.setRef(4, 1, 7)
	b.collect(2)
	b.collect(0)
}
