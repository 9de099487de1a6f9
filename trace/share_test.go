package trace_test

import (
	"testing"

	"dustcart/api"
	"dustcart/trace"
)

// No worker has anything to do.
func TestShareNothing(t *testing.T) {
	for _, w := range []world{graph(t, nil), graph(t, nil, plainNode(1), pairNode(1, 1))} {
		for workers := 1; workers <= mostWorkers; workers++ {
			w.shares(0, make([]int, workers)...)
		}
	}
}

// Objects are dealt to worker 0, 1, .., and again from 0 on, each one once.
func TestShareDealt(t *testing.T) {
	w := graph(t, []int{3, 1, 3, 2, 1, 5, 4}, plainNode(), plainNode(), plainNode(), plainNode(), plainNode(), plainNode())
	w.shares(0, 5)
	w.shares(0, 3, 2)
	w.shares(0, 2, 2, 1)
	w.shares(0, 2, 1, 1, 1)
	w.shares(0, 1, 1, 1, 1, 1)
	w.shares(0, 1, 1, 1, 1, 1, 0, 0, 0)
}

// Nothing is stolen from a list of one element.
func TestShareList(t *testing.T) {
	w := graph(t, []int{1}, plainNode(2), plainNode(3), plainNode(4), plainNode())
	for workers := 1; workers <= mostWorkers; workers++ {
		counts := make([]int, workers)
		counts[0] = 4
		w.shares(0, counts...)
	}
}

// Lists of three elements and of two are stolen from; that is all that a worker does in its turn.
func TestShareStolen(t *testing.T) {
	w := graph(t, []int{1}, plainNode(2, 3, 4), plainNode(), plainNode(), plainNode())
	w.shares(0, 4)
	// 0: 1; 1 steals 2; 0: 4; 1: 2; 0: 3.
	w.shares(1, 3, 1)
	// 0: 1; 1 steals 2; 2 steals 3; 0: 4; 1: 2; 2: 3.
	w.shares(2, 2, 1, 1)
	w.shares(2, 2, 1, 1, 0, 0, 0, 0, 0)

	w = graph(t, []int{1, 2}, plainNode(3, 4, 5, 6), plainNode(), plainNode(), plainNode(), plainNode(), plainNode())
	// 0: 1; 1: 2; 0: 6; 1 steals 3 of three; 0: 5; 1: 3; 0: 4.
	w.shares(1, 4, 2)
}

// The oldest element is stolen, of several longest lists that of the worker with the least number.
func TestShareStolenFrom(t *testing.T) {
	leaf := plainNode()
	w := graph(t, []int{1, 2, 3}, plainNode(4, 5, 6), plainNode(7, 8, 9), leaf, leaf, leaf, leaf, leaf, leaf, leaf)
	w.shares(1, 3, 4, 2)
	// 4, which is stolen, leads to 10.
	w = graph(t, []int{1, 2, 3}, plainNode(4, 5, 6), plainNode(7, 8, 9), leaf, plainNode(10), leaf, leaf, leaf, leaf, leaf, leaf)
	w.shares(1, 3, 4, 3)
	// The list of worker 1 is the longest one.
	w = graph(t, []int{1, 2, 3}, plainNode(4, 5, 6), plainNode(7, 8, 9, 10), leaf, leaf, leaf, leaf, leaf, leaf, leaf, leaf)
	w.shares(1, 4, 4, 2)
}

// A worker scans its newest element: 0 finds 4 by 2, ahead of 1 by 3. If it began with 1, then 4 would be scanned by 1.
func TestShareNewestFirst(t *testing.T) {
	w := graph(t, []int{1, 3, 2}, plainNode(), plainNode(4), plainNode(4), plainNode())
	w.shares(0, 3, 1)
}

// After a round objects are dealt from worker 0 on, and the turns begin with worker 0, although worker 1 is next.
func TestShareRounds(t *testing.T) {
	w := graph(t, []int{1, 2, 3}, pairNode(3, 4), pairNode(3, 5), plainNode(), plainNode(6, 7), plainNode(6), plainNode(), plainNode())
	// 0: 3; 1: 2; 0: 1; the round: 4 for 0, 5 for 1; 0: 4; 1: 5; 0: 7; 1: nothing; 0: 6.
	w.shares(0, 5, 2)
	w.shares(0, 7)
	// 0: 1; 1: 2; 2: 3; the round: 4 for 0, 5 for 1; 0: 4; 1: 5; 2 steals 6; 0: 7; 1: nothing; 2: 6.
	w.shares(1, 3, 2, 2)
}

// A round looks at Ephemerons as they are marked when it begins, in the order of the addresses.
func TestShareSeveralRounds(t *testing.T) {
	w := graph(t, []int{1, 2, 3, 4}, pairNode(4, 5), pairNode(5, 6), pairNode(6, 7), plainNode(), plainNode(), plainNode(), plainNode())
	// Each round marks one object, for worker 0.
	w.shares(0, 7)
	w.shares(0, 2+3, 2)
	w.shares(0, 1+3, 1, 1, 1, 0)
	// 4 is dealt to worker 0, 5 to worker 1; it leads to 6.
	w = graph(t, []int{2, 1}, pairNode(1, 4), pairNode(1, 5), plainNode(), plainNode(), plainNode(6), plainNode())
	w.shares(0, 2, 3)
}

// P7.1 and P7.4: each kept object is scanned once, by any number of workers.
func TestShareSum(t *testing.T) {
	var nodes []node
	for i := 1; i <= 40; i++ {
		nodes = append(nodes, node{kind: i % 4, refs: []int{(i*7)%40 + 1, (i*3)%40 + 1, i%9 + 1, (i * i) % 40}})
	}
	w := graph(t, []int{1, 9, 4}, nodes...)
	kept, _ := trace.Kept(w.h, w.r)
	stole := 0
	for workers := 1; workers <= mostWorkers; workers++ {
		m, counts, stolen, e := trace.Share(w.h, w.r, workers)
		sum := 0
		for _, n := range counts {
			sum += n
		}
		if e != api.OK || len(counts) != workers || sum != len(kept) || m.Count(1) != len(kept) || stolen < 0 {
			t.Errorf("Share(%d): scanned %v, stolen %d, error %d, %d objects being kept", workers, counts, stolen, e, len(kept))
		}
		stole += stolen
	}
	if stole == 0 || len(kept) < 20 {
		t.Errorf("the test itself is idle: stolen %d, kept %d", stole, len(kept))
	}
}
