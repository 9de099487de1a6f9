package trace_test

import (
	"testing"

	"dustcart/api"
)

// An object that a place leads to is a list of its own, whatever else leads to it.
func TestShortestOfPlace(t *testing.T) {
	w := graph(t, []int{2, 3}, plainNode(3), plainNode(1, 3), plainNode(2))
	w.path(2)
	w.path(3)
	w.path(2, 1)
	w.set(slot(0, 0), 0)
	w.path(3, 2)
	w.path(3, 2, 1)
	w.set(slot(0, 1), 0)
	w.noPath(w.at(1), w.at(2), w.at(3))
	w.set(global(15), w.at(1))
	w.path(1, 3, 2)
	w.push(w.at(2))
	w.path(2)
	w.path(1, 3)
}

// Of several ways of the same length the least one is taken: by the first address at which they differ, not by the order of places and references, nor by the last one.
func TestShortestOfSame(t *testing.T) {
	w := graph(t, []int{7}, plainNode(5), plainNode(6), plainNode(), plainNode(), plainNode(3), plainNode(4, 3), plainNode(2, 1))
	w.path(7, 1, 5, 3)
	w.path(7, 2, 6, 4)
	w = graph(t, []int{4, 2, 3}, plainNode(), plainNode(1), plainNode(1, 5), plainNode(5, 1), plainNode())
	w.path(2, 1)
	w.path(3, 5)
	// 2, 6 is less than 3, 5, although 5 is less than 6.
	w = graph(t, []int{1}, plainNode(3, 2), plainNode(6), plainNode(5), plainNode(), plainNode(4), plainNode(4))
	w.path(1, 2, 6, 4)
	w.path(1, 3, 5)
	// The least way to 6 is by 2 and 5, although 3 leads to 4, which is less than 5.
	w = graph(t, []int{3, 2}, plainNode(), plainNode(5), plainNode(4), plainNode(6), plainNode(6), plainNode(1))
	w.path(2, 5, 6, 1)
}

// A longer way through lesser addresses is not taken.
func TestShortestOfLonger(t *testing.T) {
	w := graph(t, []int{1}, plainNode(2, 5), plainNode(3), plainNode(4), plainNode(), plainNode(4))
	w.path(1, 5, 4)
	w.path(1, 2, 3)
	w = graph(t, []int{1, 4}, plainNode(2), plainNode(3), plainNode(), plainNode(3))
	w.path(4, 3)
	w.path(1, 2)
}

// Rings, and objects that lead to themselves.
func TestShortestInRings(t *testing.T) {
	w := graph(t, []int{3}, plainNode(2, 1), plainNode(3, 2), plainNode(1, 3), plainNode(4))
	w.path(3)
	w.path(3, 1)
	w.path(3, 1, 2)
	w.noPath(w.at(4))
}

// Only strong references lead on, of all kinds.
func TestShortestByKinds(t *testing.T) {
	leaf := plainNode()
	for _, x := range []struct {
		kind  int
		loose int // of the references
	}{{api.Plain, 0}, {api.Weak, 1}, {api.Ephemeron, 2}, {api.Special, 0}} {
		w := graph(t, []int{1, 6}, node{x.kind, []int{2, 3, 4}}, leaf, leaf, leaf, leaf, otherNode(1))
		for i, ident := range []int{2, 3, 4} {
			if i < x.loose {
				w.noPath(w.at(ident))
			} else {
				w.path(1, ident)
			}
		}
		w.path(1)
		w.noPath(w.at(5))
	}
}

// An object that is kept by an Ephemeron alone is not reached, nor is what it leads to.
func TestShortestOfValue(t *testing.T) {
	w := graph(t, []int{1, 2}, pairNode(2, 3, 5), plainNode(), plainNode(4), plainNode(), plainNode())
	w.keeps(1, 2, 3, 4, 5)
	w.noPath(w.at(3), w.at(4))
	w.path(1, 5)
	w.refer(1, 2, 4)
	w.path(1, 4)
	w.noPath(w.at(3), w.at(5))
}

// Addresses of no object; places and references that lead to none lead nowhere.
func TestShortestOfNone(t *testing.T) {
	w := graph(t, []int{1}, plainNode(2, 3, 4), plainNode(), plainNode(2), plainNode(2))
	none := append([]int{0, 1, 2, -1, -2, -64, 62, 63, 65, 66, w.at(3) + 1, 126, 128, 511, 512, 514}, beyond...)
	w.noPath(none...)
	graph(t, nil).noPath(append(none, 64)...)
	w.kill(3)
	w.noPath(w.at(2) + 2)
	w.noPath(none...)
	for _, v := range none {
		c := w.clone()
		c.poke(1, 0, v)
		c.path(1, 4, 2)
		c.noPath(none...)
		if c.r.Set(slot(0, 0), v) != api.OK {
			continue
		}
		c.noPath(c.at(1), c.at(4))
		if v > 0 {
			c.push(v)
			c.push(c.at(4))
			c.path(4)
			c.path(4, 2)
			c.noPath(none...)
			c.noPath(c.at(1))
		}
	}
}

// A list of as many objects as a heap has room for.
func TestShortestOfFullHeap(t *testing.T) {
	w := full(t, api.Plain)
	all := w.h.All()
	var idents []int
	for _, addr := range all {
		idents = append(idents, w.ident(addr))
	}
	w.path(idents...)
}
