package trace_test

import (
	"testing"

	"dustcart/api"
	"dustcart/trace"
)

// The first example: there is no overflow, even with the limit 1.
func TestMarkList(t *testing.T) {
	w := graph(t, []int{1}, plainNode(2), plainNode(3), plainNode(), plainNode(1))
	for order := range orders {
		for _, limit := range []int{1, 2, 3, 4, api.MaxEntries} {
			w.marks(order, limit, api.Traced{Scanned: 3, Rounds: 1, Deepest: 1}, 1, 2, 3)
		}
	}
}

// The second example: of three objects two find no room in the list.
func TestMarkFan(t *testing.T) {
	w := graph(t, []int{1}, plainNode(2, 3, 4), plainNode(), plainNode(), plainNode())
	for order := range orders {
		w.marks(order, 1, api.Traced{Scanned: 6, Overflows: 2, Rescans: 1, Rounds: 1, Deepest: 1}, 1, 2, 3, 4)
		w.marks(order, 2, api.Traced{Scanned: 7, Overflows: 1, Rescans: 1, Rounds: 1, Deepest: 2}, 1, 2, 3, 4)
		for _, limit := range []int{3, 4, api.MaxEntries} {
			w.marks(order, limit, api.Traced{Scanned: 4, Rounds: 1, Deepest: 3}, 1, 2, 3, 4)
		}
	}
}

// Without objects, and without places that are not empty, there is one round.
func TestMarkNothing(t *testing.T) {
	for _, w := range []world{graph(t, nil), graph(t, nil, plainNode(1), weakNode(1), pairNode(3, 1), otherNode(2))} {
		for order := range orders {
			for _, limit := range []int{1, 2, api.MaxEntries} {
				w.marks(order, limit, api.Traced{Rounds: 1})
			}
		}
	}
}

// The newest or the oldest element first: the lists have other lengths, and overflow at other objects.
func TestMarkOrders(t *testing.T) {
	w := graph(t, []int{1}, plainNode(2, 3), plainNode(4, 5), plainNode(6, 7), plainNode(), plainNode(), plainNode(), plainNode())
	all := []int{1, 2, 3, 4, 5, 6, 7}
	w.marks(Newest, 7, api.Traced{Scanned: 7, Rounds: 1, Deepest: 3}, all...)
	w.marks(Oldest, 7, api.Traced{Scanned: 7, Rounds: 1, Deepest: 4}, all...)
	w.marks(Newest, 3, api.Traced{Scanned: 7, Rounds: 1, Deepest: 3}, all...)
	w.marks(Oldest, 3, api.Traced{Scanned: 13, Overflows: 1, Rescans: 1, Rounds: 1, Deepest: 3}, all...)
	w.marks(Newest, 2, api.Traced{Scanned: 13, Overflows: 1, Rescans: 1, Rounds: 1, Deepest: 2}, all...)
	w.marks(Oldest, 2, api.Traced{Scanned: 12, Overflows: 2, Rescans: 1, Rounds: 1, Deepest: 2}, all...)
}

// An overflow in step 1; an address that is reached again does not overflow again.
func TestMarkOverflowOfPlaces(t *testing.T) {
	w := graph(t, []int{1, 2, 3}, plainNode(), plainNode(), plainNode())
	for order := range orders {
		w.marks(order, 2, api.Traced{Scanned: 5, Overflows: 1, Rescans: 1, Rounds: 1, Deepest: 2}, 1, 2, 3)
		w.marks(order, 1, api.Traced{Scanned: 4, Overflows: 2, Rescans: 1, Rounds: 1, Deepest: 1}, 1, 2, 3)
	}
	w = graph(t, []int{1, 1, 2, 1, 2}, plainNode(1, 2, 1), plainNode(2, 2))
	for i := range 2 {
		w.set(global(i), w.at(i+1))
		w.push(w.at(i + 1))
	}
	for order := range orders {
		w.marks(order, 1, api.Traced{Scanned: 3, Overflows: 1, Rescans: 1, Rounds: 1, Deepest: 1}, 1, 2)
		w.marks(order, 2, api.Traced{Scanned: 2, Rounds: 1, Deepest: 2}, 1, 2)
	}
}

// What the places hold is reached in their order: which object finds no room tells.
func TestMarkOrderOfPlaces(t *testing.T) {
	// There is room for one object only. If that is 2, then 2 and 3 are scanned ahead of the rescan, of all three; if it is 1, then 1 is, and the rescan of 1 and 2 finds 3.
	w := graph(t, nil, plainNode(), plainNode(3), plainNode())
	places := []api.Place{slot(0, 2), slot(0, 15), slot(1, 0), global(0), global(15)}
	for i, first := range places {
		for _, second := range places[i+1:] {
			c := w.clone()
			c.set(first, w.at(2))
			c.set(second, w.at(1))
			c.marks(Newest, 1, api.Traced{Scanned: 2 + 3, Overflows: 1, Rescans: 1, Rounds: 1, Deepest: 1}, 1, 2, 3)
			c = w.clone()
			c.set(first, w.at(1))
			c.set(second, w.at(2))
			c.marks(Newest, 1, api.Traced{Scanned: 1 + 3, Overflows: 1, Rescans: 1, Rounds: 1, Deepest: 1}, 1, 2, 3)
		}
		c := w.clone()
		c.push(w.at(1))
		c.set(first, w.at(2))
		c.marks(Newest, 1, api.Traced{Scanned: 2 + 3, Overflows: 1, Rescans: 1, Rounds: 1, Deepest: 1}, 1, 2, 3)
	}
	w.push(w.at(2))
	w.push(w.at(1))
	w.marks(Newest, 1, api.Traced{Scanned: 2 + 3, Overflows: 1, Rescans: 1, Rounds: 1, Deepest: 1}, 1, 2, 3)
}

// An overflow during a rescan asks for another one, of those that are marked when it begins: 5, which found room, and 4, which did not, are not scanned by the first rescan itself.
func TestMarkSeveralRescans(t *testing.T) {
	w := graph(t, []int{1}, plainNode(2, 3), plainNode(), plainNode(5, 4), plainNode(), plainNode())
	for order := range orders {
		w.marks(order, 1, api.Traced{Scanned: 2 + 4 + 5, Overflows: 2, Rescans: 2, Rounds: 1, Deepest: 1}, 1, 2, 3, 4, 5)
	}
	// Each rescan finds the next object of a list of forks.
	w = graph(t, []int{1}, plainNode(2, 3), plainNode(), plainNode(4, 5), plainNode(), plainNode(6, 7), plainNode(), plainNode())
	for order := range orders {
		w.marks(order, 1, api.Traced{Scanned: 2 + 4 + 6 + 7, Overflows: 3, Rescans: 3, Rounds: 1, Deepest: 1}, 1, 2, 3, 4, 5, 6, 7)
	}
}

// In a rescan the list is emptied after each object, so that the next one finds room.
func TestMarkRescanEmptiesList(t *testing.T) {
	w := graph(t, []int{1}, plainNode(2, 3, 4), plainNode(), plainNode(5), plainNode(6), plainNode(), plainNode())
	for order := range orders {
		w.marks(order, 1, api.Traced{Scanned: 2 + 4 + 2, Overflows: 2, Rescans: 1, Rounds: 1, Deepest: 1}, 1, 2, 3, 4, 5, 6)
	}
}

// A rescan goes by the addresses: with 3 ahead of 4 their child 5 is in the list, and 6 is not.
func TestMarkRescanOrder(t *testing.T) {
	w := graph(t, []int{1}, plainNode(2, 4, 3), plainNode(), plainNode(5), plainNode(6, 5), plainNode(7, 8), plainNode(), plainNode(), plainNode())
	for order := range orders {
		// Scanned: 1, 2; 1, 2, 3, then 5 and 7, 8 being left out, then 4, then 6; 1 to 8.
		w.marks(order, 1, api.Traced{Scanned: 2 + 7 + 8, Overflows: 3, Rescans: 2, Rounds: 1, Deepest: 1}, 1, 2, 3, 4, 5, 6, 7, 8)
	}
}

// An overflow in a round asks for a rescan.
func TestMarkOverflowInRound(t *testing.T) {
	w := graph(t, []int{1}, pairNode(3, 4, 2), pairNode(3, 5, 3), plainNode(), plainNode(), plainNode())
	for order := range orders {
		w.marks(order, 1, api.Traced{Scanned: 3 + 1 + 5, Overflows: 1, Rescans: 1, Rounds: 2, Deepest: 1}, 1, 2, 3, 4, 5)
		w.marks(order, 2, api.Traced{Scanned: 5, Rounds: 2, Deepest: 2}, 1, 2, 3, 4, 5)
	}
}

// A round looks at Ephemerons as they are marked when it begins, so that a chain needs a round for each, whatever the addresses are.
func TestMarkSeveralRounds(t *testing.T) {
	rising := graph(t, []int{1, 2, 3, 4}, pairNode(4, 5), pairNode(5, 6), pairNode(6, 7), plainNode(), plainNode(), plainNode(), plainNode())
	falling := graph(t, []int{1, 2, 3, 4}, pairNode(6, 7), pairNode(5, 6), pairNode(4, 5), plainNode(), plainNode(), plainNode(), plainNode())
	for order := range orders {
		for _, w := range []world{rising, falling} {
			w.marks(order, 4, api.Traced{Scanned: 7, Rounds: 4, Deepest: 4}, 1, 2, 3, 4, 5, 6, 7)
			w.marks(order, 1, api.Traced{Scanned: 1 + 4 + 3, Overflows: 3, Rescans: 1, Rounds: 4, Deepest: 1}, 1, 2, 3, 4, 5, 6, 7)
		}
	}
	// An Ephemeron that is marked by a round is looked at by the next one, even if its key was marked before.
	w := graph(t, []int{1, 3}, pairNode(3, 2), pairNode(3, 4), plainNode(), plainNode())
	for order := range orders {
		w.marks(order, 2, api.Traced{Scanned: 4, Rounds: 3, Deepest: 2}, 1, 2, 3, 4)
	}
}

// Rounds go by the addresses: of two values the one of the Ephemeron with the least address is added first.
func TestMarkOrderOfRound(t *testing.T) {
	// In a list of one element there is room for 5, which leads to 6, or for 4.
	w := graph(t, []int{3}, pairNode(3, 5), pairNode(3, 4, 1), plainNode(2), plainNode(), plainNode(6), plainNode())
	for order := range orders {
		// Scanned: 3, 2, 1; 5, 6; 1 to 6.
		w.marks(order, 1, api.Traced{Scanned: 3 + 2 + 6, Overflows: 1, Rescans: 1, Rounds: 2, Deepest: 1}, 1, 2, 3, 4, 5, 6)
	}
}

// A rescan in a later round, and several of them.
func TestMarkRescansInSeveralRounds(t *testing.T) {
	w := graph(t, []int{1}, pairNode(2, 3, 2), plainNode(), plainNode(4, 5), pairNode(1, 6), plainNode(), plainNode(7, 8), plainNode(), plainNode())
	for order := range orders {
		// Scanned: 1, 2; a round: 3, 4, 5 being left out, then all 5; a round: 6, 7, then all 8; a round.
		w.marks(order, 1, api.Traced{Scanned: 2 + 2 + 5 + 2 + 8, Overflows: 2, Rescans: 2, Rounds: 3, Deepest: 1}, 1, 2, 3, 4, 5, 6, 7, 8)
	}
}

// P7.3, and P7.2: on lists, fans and trees of many objects.
func TestMarkLimits(t *testing.T) {
	var list, tree []node
	fan := []node{plainNode(2, 3, 4, 5, 6, 7, 8, 9, 10, 11, 12, 13, 14, 15, 16)}
	for i := 1; i <= 60; i++ {
		list = append(list, plainNode(i%60+1))
		if 2*i+1 <= 60 {
			tree = append(tree, plainNode(2*i, 2*i+1))
		} else {
			tree = append(tree, plainNode(1))
		}
		if i <= 15 {
			fan = append(fan, otherNode(i, 1))
		}
	}
	for _, nodes := range [][]node{list, tree, fan} {
		w := graph(t, []int{1}, nodes...)
		n := len(w.h.All())
		kept, _ := trace.Kept(w.h, w.r)
		for order := range orders {
			for limit := 1; limit <= n+1; limit++ {
				_, done, e := trace.Mark(w.h, w.r, order, limit)
				if e != api.OK || done.Deepest > limit || limit >= n && done.Overflows > 0 {
					t.Errorf("Mark(%d, %d): %+v, error %d", order, limit, done, e)
				}
				if (done.Overflows == 0) != (done.Rescans == 0) || (done.Overflows == 0) != (done.Scanned == len(kept)) {
					t.Errorf("Mark(%d, %d): %+v, %d objects being kept", order, limit, done, len(kept))
				}
			}
		}
	}
}

// As many objects as a heap has room for: marking ends, and with a limit of MaxEntries there is room in the list for all of them.
func TestMarkFullHeap(t *testing.T) {
	for _, kind := range []int{api.Plain, api.Ephemeron, api.Special} {
		w := full(t, kind)
		all := w.h.All()
		kept, e := trace.Kept(w.h, w.r)
		if e != api.OK || len(kept) != len(all) || len(all) < 1000 {
			t.Fatalf("kind %d: Kept: %d of %d objects, error %d", kind, len(kept), len(all), e)
		}
		for order := range orders {
			_, done, _ := trace.Mark(w.h, w.r, order, api.MaxEntries)
			if done.Scanned != len(all) || done.Overflows != 0 {
				t.Errorf("kind %d: Mark(%d, MaxEntries): %+v", kind, order, done)
			}
			m, done, _ := trace.Mark(w.h, w.r, order, 1)
			if m.Count(1) != len(all) || done.Deepest != 1 {
				t.Errorf("kind %d: Mark(%d, 1): %+v", kind, order, done)
			}
		}
		for _, workers := range []int{1, 3, mostWorkers} {
			if m, _, _, e := trace.Share(w.h, w.r, workers); e != api.OK || m.Count(1) != len(all) {
				t.Errorf("kind %d: Share(%d): error %d", kind, workers, e)
			}
		}
	}
}
