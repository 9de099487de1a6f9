package trace_test

import (
	"testing"

	"dustcart/api"
	"dustcart/trace"
)

// refs checks the references of an object, by identities.
func (w world) refs(ident int, want ...int) {
	w.t.Helper()
	for i, to := range want {
		if got := w.ref(ident, i); got != to {
			w.t.Errorf("object %d: reference %d leads to %d, want %d", ident, i, got, to)
		}
	}
}

// clearable is a world of which 1 to 9 and 11 are kept, 12 and 13 are not.
func clearable(t *testing.T) world {
	t.Helper()
	return graph(t, []int{1, 2, 3, 4, 5, 6, 7, 8, 9},
		weakNode(11),          // 1: its target is kept
		weakNode(12, 11, 1),   // 2: its target is not
		weakNode(0, 11),       // 3: it has none
		pairNode(11, 9),       // 4: its key is kept
		pairNode(12, 11, 2),   // 5: its key is not, its value is
		pairNode(0, 11, 2),    // 6: it has no key
		pairNode(12, 0),       // 7: it has no value
		pairNode(0, 0, 1),     // 8: it has neither
		otherNode(1, 2),       // 9
		pairNode(12, 11),      // 10: it is not kept
		plainNode(1, 1),       // 11
		plainNode(13, 12, 11), // 12
		weakNode(12, 1),       // 13
	)
}

// Clear of marks of the kept objects, and Clear again.
func TestClearKept(t *testing.T) {
	w := clearable(t)
	w.keeps(1, 2, 3, 4, 5, 6, 7, 8, 9, 11)
	m, _, _ := trace.Mark(w.h, w.r, Newest, 20)
	w.clears(m, 4)
	w.refs(1, 11)
	w.refs(2, 0, 11, 1)
	w.refs(3, 0, 11)
	w.refs(4, 11, 9)
	w.refs(5, 0, 0, 2)
	w.refs(6, 0, 0, 2)
	w.refs(7, 0, 0)
	w.refs(8, 0, 0, 1)
	w.refs(9, 1, 2)
	w.refs(10, 12, 11)
	w.refs(11, 1, 1)
	w.refs(12, 13, 12, 11)
	w.refs(13, 12, 1)
	w.keeps(1, 2, 3, 4, 5, 6, 7, 8, 9, 11)
	m, _, _, _ = trace.Share(w.h, w.r, 3)
	w.clears(m, 0)
}

// Clear of no marks changes nothing.
func TestClearNoMarks(t *testing.T) {
	w := clearable(t)
	before := w.state()
	w.clears(w.marksOf(), 0)
	w.unchanged("after Clear of no marks", before)
	graph(t, nil).clears(graph(t, nil).marksOf(), 0)
}

// Clear goes by the marks that it is given, whatever is kept.
func TestClearAnyMarks(t *testing.T) {
	for _, x := range []struct {
		marked  []int
		changed int
		ident   int
		refs    []int
	}{
		{[]int{1}, 1, 1, []int{0}},                     // the target is kept, but not marked
		{[]int{1, 11}, 0, 1, []int{11}},                // it is marked
		{[]int{11}, 0, 1, []int{11}},                   // the Weak is not
		{[]int{13}, 1, 13, []int{0, 1}},                // it is not kept, but marked
		{[]int{13, 12}, 0, 13, []int{12, 1}},           // likewise
		{[]int{4}, 1, 4, []int{0, 0}},                  // the key is kept, but not marked
		{[]int{4, 9}, 1, 4, []int{0, 0}},               // the value is marked
		{[]int{4, 11}, 0, 4, []int{11, 9}},             // the value is not marked, the key is
		{[]int{5, 12}, 0, 5, []int{12, 11, 2}},         // likewise
		{[]int{6}, 1, 6, []int{0, 0, 2}},               // no key
		{[]int{6, 11, 2, 12}, 1, 6, []int{0, 0, 2}},    // likewise
		{[]int{7}, 1, 7, []int{0, 0}},                  // no value
		{[]int{7, 12}, 0, 7, []int{12, 0}},             // likewise
		{[]int{8, 3}, 0, 8, []int{0, 0, 1}},            // nothing to be cleared
		{[]int{9, 11, 12}, 0, 9, []int{1, 2}},          // plain and special ones
		{[]int{10, 5, 7, 2, 1}, 5, 10, []int{0, 0}},    // several
		{[]int{10, 5, 7, 2, 12}, 0, 10, []int{12, 11}}, // several
	} {
		w := clearable(t)
		w.clears(w.marksOf(x.marked...), x.changed)
		w.refs(x.ident, x.refs...)
	}
	w := clearable(t)
	m := w.marksOf()
	m.Fill(0, m.Entries(), 1)
	w.clears(m, 1)
	w.refs(6, 0, 0, 2)
}

// Objects that lead to themselves, and to one another.
func TestClearTangled(t *testing.T) {
	w := graph(t, nil, weakNode(1), pairNode(2, 2), pairNode(4, 3), pairNode(3, 4), weakNode(6), weakNode(5))
	before := w.state()
	for _, marked := range [][]int{{1}, {2}, {3, 4}, {5, 6}, {1, 2, 3, 4, 5, 6}} {
		w.clears(w.marksOf(marked...), 0)
	}
	w.unchanged("after Clear of nothing", before)
	w.clears(w.marksOf(3, 5), 2)
	w.refs(3, 0, 0)
	w.refs(4, 3, 4)
	w.refs(5, 0)
	w.refs(6, 5)
}

// References that lead to no object are cleared, too; marks of words at which there is no object do not matter.
func TestClearBroken(t *testing.T) {
	for _, v := range append([]int{1, 2, -1, -2, 62, 65, 66, 126, 512, 1000}, beyond...) {
		w := graph(t, nil, weakNode(2), plainNode(), pairNode(2, 2), pairNode(2, 2), pairNode(0, 0))
		w.poke(1, 0, v)
		w.poke(3, 0, v)
		w.poke(4, 1, v)
		w.poke(5, 1, v)
		if w.h.Has(v) {
			t.Fatalf("the test itself is wrong: there is an object at %d", v)
		}
		m := w.marksOf()
		m.Fill(0, m.Entries(), 1)
		w.clears(m, 3)
		w.refs(1, 0)
		w.refs(3, 0, 0)
		w.refs(5, 0, 0)
		if to, _ := w.h.Ref(w.at(4), 1); to != v {
			t.Errorf("the value %d of an Ephemeron with a marked key is %d", v, to)
		}
	}
	w := graph(t, nil, weakNode(2), plainNode())
	m := w.marksOf(1, 2)
	w.kill(2)
	w.clears(m, 1)
	w.refs(1, 0)
}

// P7.5: what is freed after Clear is missed by no reference of a kept object.
func TestClearThenKill(t *testing.T) {
	w := clearable(t)
	m, _, _ := trace.Mark(w.h, w.r, Oldest, 1)
	w.clears(m, 4)
	w.kill(10, 12, 13)
	for _, addr := range w.h.All() {
		s, _ := w.h.Shape(addr)
		for i := range s.Refs {
			if to, _ := w.h.Ref(addr, i); to != 0 && !w.h.Has(to) {
				t.Errorf("object %d: reference %d leads to no object", w.ident(addr), i)
			}
		}
	}
	w.keeps(1, 2, 3, 4, 5, 6, 7, 8, 9, 11)
	if all, e := trace.Kept(w.h, w.r); e != api.OK || len(all) != len(w.h.All()) {
		t.Errorf("Kept: %d of %d objects, error %d", len(all), len(w.h.All()), e)
	}
}
