package trace_test

import (
	"fmt"
	"math"
	"slices"
	"testing"

	"dustcart/alloc"
	"dustcart/api"
	"dustcart/heap"
	"dustcart/roots"
	"dustcart/side"
	"dustcart/trace"
)

// The orders in which marking goes on.
const (
	Newest = iota
	Oldest
	orders
)

const mostWorkers = 8

// beyond are numbers far outside of all ranges, at which a sum, a difference or a product would overflow.
var beyond = []int{math.MinInt, math.MinInt + 1, math.MinInt / 2, math.MinInt / 16, math.MinInt32, -1 << 16, 1 << 16, math.MaxInt32, math.MaxInt32 + 1, math.MaxInt / 16, math.MaxInt/2 + 1, math.MaxInt - 1, math.MaxInt}

// nowhere are numbers that are not from 1 to n.
func nowhere(n int) []int {
	return append([]int{0, -1, -2, -n, n + 1, n + 2, 2 * n, 64 * n}, beyond...)
}

func slot(mutator, i int) api.Place {
	return api.Place{Kind: api.PlaceSlot, Mutator: mutator, Index: i}
}
func global(i int) api.Place { return api.Place{Kind: api.PlaceGlobal, Index: i} }
func queued(i int) api.Place { return api.Place{Kind: api.PlaceQueue, Index: i} }

// line is all that was told, as text: lists that are nil and those that are empty are the same.
func line(results ...any) string {
	return fmt.Sprint(results...)
}

// world is a heap with roots.
type world struct {
	t *testing.T
	h *heap.Heap
	r *roots.Roots
}

// node is an object of a graph: its references by identities, 0 being none.
type node struct {
	kind int
	refs []int
}

func plainNode(refs ...int) node { return node{kind: api.Plain, refs: refs} }
func weakNode(refs ...int) node  { return node{kind: api.Weak, refs: refs} }
func pairNode(refs ...int) node  { return node{kind: api.Ephemeron, refs: refs} }
func otherNode(refs ...int) node { return node{kind: api.Special, refs: refs} }

// graph makes a world of objects with the identities 1, 2, .., whose addresses rise, too; the slots 0, 1, .. of mutator 0 lead to some of them.
func graph(t *testing.T, leads []int, nodes ...node) world {
	t.Helper()
	h, e := heap.New(8)
	r, eR := roots.New(2)
	a, eA := alloc.New(h, 3, 0)
	if e != api.OK || eR != api.OK || eA != api.OK {
		t.Fatalf("the test itself is wrong: errors %d, %d, %d", e, eR, eA)
	}
	w := world{t, h, r}
	for _, n := range nodes {
		if _, e := a.Alloc(api.Shape{Refs: len(n.refs), Kind: n.kind}); e != api.OK {
			t.Fatalf("Alloc: the test itself is wrong: error %d", e)
		}
	}
	for i, n := range nodes {
		for j, ident := range n.refs {
			if ident != 0 {
				w.refer(i+1, j, ident)
			}
		}
	}
	for i, ident := range leads {
		w.set(slot(0, i), w.at(ident))
	}
	return w
}

func (w world) clone() world {
	return world{w.t, w.h.Clone(), w.r.Clone()}
}

// at returns the address of the object with an identity.
func (w world) at(ident int) int {
	w.t.Helper()
	addr, e := w.h.At(ident)
	if e != api.OK {
		w.t.Fatalf("At(%d): the test itself is wrong: error %d", ident, e)
	}
	return addr
}

// ident returns the identity of the object with an address; -1, if there is none.
func (w world) ident(addr int) int {
	ident, e := w.h.Ident(addr)
	if e != api.OK {
		return -1
	}
	return ident
}

// idents returns the identities of objects by their addresses.
func (w world) idents(addrs []int) []int {
	var list []int
	for _, addr := range addrs {
		list = append(list, w.ident(addr))
	}
	return list
}

// refer lets a reference of an object lead to another one, by their identities.
func (w world) refer(ident, i, to int) {
	w.t.Helper()
	if e := w.h.SetRef(w.at(ident), i, w.at(to)); e != api.OK {
		w.t.Fatalf("SetRef(%d, %d, %d): the test itself is wrong: error %d", ident, i, to, e)
	}
}

// ref returns the identity to which a reference of an object leads; 0, if it is empty.
func (w world) ref(ident, i int) int {
	w.t.Helper()
	to, e := w.h.Ref(w.at(ident), i)
	if e != api.OK {
		w.t.Fatalf("Ref(%d, %d): the test itself is wrong: error %d", ident, i, e)
	}
	if to == 0 {
		return 0
	}
	return w.ident(to)
}

// set lets a place be anything.
func (w world) set(p api.Place, addr int) {
	w.t.Helper()
	if e := w.r.Set(p, addr); e != api.OK {
		w.t.Fatalf("Set(%v, %d): the test itself is wrong: error %d", p, addr, e)
	}
}

func (w world) push(addr int) {
	w.t.Helper()
	if e := w.r.Push(addr); e != api.OK {
		w.t.Fatalf("Push(%d): the test itself is wrong: error %d", addr, e)
	}
}

// poke lets a reference of an object be anything.
func (w world) poke(ident, i, v int) {
	w.t.Helper()
	if e := w.h.Poke(w.at(ident)+api.HeadWords+i, v); e != api.OK {
		w.t.Fatalf("Poke: the test itself is wrong: error %d", e)
	}
}

func (w world) kill(idents ...int) {
	w.t.Helper()
	for _, ident := range idents {
		if e := w.h.Kill(w.at(ident)); e != api.OK {
			w.t.Fatalf("Kill: the test itself is wrong: error %d", e)
		}
	}
}

// table makes a side table; the entries of some addresses are 1.
func (w world) table(entries, width int, addrs ...int) *side.Table {
	w.t.Helper()
	t, e := side.New(entries, width)
	if e != api.OK {
		w.t.Fatalf("side.New(%d, %d): the test itself is wrong: error %d", entries, width, e)
	}
	for _, addr := range addrs {
		if e := t.Set(addr/2, 1); e != api.OK {
			w.t.Fatalf("Set(%d): the test itself is wrong: error %d", addr/2, e)
		}
	}
	return t
}

// marksOf makes marks of some objects, by their identities.
func (w world) marksOf(idents ...int) *side.Table {
	w.t.Helper()
	var addrs []int
	for _, ident := range idents {
		addrs = append(addrs, w.at(ident))
	}
	return w.table(32*w.h.Blocks(), 1, addrs...)
}

// addresses returns what a table marks, entry by entry, whatever there is at these addresses.
func addresses(t *side.Table) []int {
	var list []int
	for i := range t.Entries() {
		if t.Get(i) != 0 {
			list = append(list, 2*i)
		}
	}
	return list
}

// state is all that a heap and roots tell, as numbers.
func (w world) state() []int {
	list := []int{w.h.Blocks(), w.h.Births(), w.h.Used(), w.r.Mutators()}
	for block := range w.h.Blocks() {
		list = append(list, w.h.State(block), w.h.Space(block))
	}
	for addr := range 64 * w.h.Blocks() {
		v, _ := w.h.Word(addr)
		to, _ := w.h.Forward(addr)
		list = append(list, v, to)
	}
	for _, addr := range w.h.All() {
		list = append(list, addr, map[bool]int{true: 1}[w.h.Pinned(addr)])
	}
	for _, p := range w.r.Places() {
		addr, _ := w.r.Get(p)
		list = append(list, p.Kind, p.Mutator, p.Index, addr)
	}
	return list
}

func (w world) unchanged(when string, before []int) {
	w.t.Helper()
	if !slices.Equal(w.state(), before) {
		w.t.Fatalf("%s: the heap or the roots are changed", when)
	}
}

// marks checks Mark: what was done, and the objects that are marked, by their identities. It calls it twice, changing the first result, to which the second one must not be related.
func (w world) marks(order, limit int, want api.Traced, idents ...int) {
	w.t.Helper()
	before := w.state()
	for range 2 {
		m, done, e := trace.Mark(w.h, w.r, order, limit)
		if e != api.OK || done != want {
			w.t.Errorf("Mark(%d, %d): %+v, error %d, want %+v", order, limit, done, e, want)
			return
		}
		if got := w.idents(addresses(m)); !slices.Equal(got, idents) {
			w.t.Errorf("Mark(%d, %d): marked %v, want %v", order, limit, got, idents)
		}
		m.Fill(0, m.Entries(), 1)
	}
	w.unchanged("after Mark", before)
}

// shares checks Share by as many workers as counts are expected.
func (w world) shares(stolen int, counts ...int) {
	w.t.Helper()
	before := w.state()
	kept, _ := trace.Kept(w.h, w.r)
	for range 2 {
		m, got, times, e := trace.Share(w.h, w.r, len(counts))
		if e != api.OK || !slices.Equal(got, counts) || times != stolen {
			w.t.Errorf("Share(%d): scanned %v, stolen %d, error %d, want %v and %d", len(counts), got, times, e, counts, stolen)
			return
		}
		if got := addresses(m); !slices.Equal(got, kept) {
			w.t.Errorf("Share(%d): marked %v, want %v", len(counts), got, kept)
		}
		m.Fill(0, m.Entries(), 1)
		clear(got)
	}
	w.unchanged("after Share", before)
}

// keeps checks Kept, by the identities.
func (w world) keeps(idents ...int) {
	w.t.Helper()
	before := w.state()
	for range 2 {
		got, e := trace.Kept(w.h, w.r)
		if e != api.OK || !slices.IsSorted(got) {
			w.t.Errorf("Kept: %v, error %d", got, e)
		}
		list := w.idents(got)
		slices.Sort(list)
		if !slices.Equal(list, idents) {
			w.t.Errorf("Kept: %v, want %v", list, idents)
		}
		clear(got)
	}
	w.unchanged("after Kept", before)
}

// path checks Shortest: the identities of the list that ends with the last one of them.
func (w world) path(idents ...int) {
	w.t.Helper()
	before := w.state()
	for range 2 {
		got, e := trace.Shortest(w.h, w.r, w.at(idents[len(idents)-1]))
		if e != api.OK || !slices.Equal(w.idents(got), idents) {
			w.t.Errorf("Shortest: %v, error %d, want %v", w.idents(got), e, idents)
		}
		clear(got)
	}
	w.unchanged("after Shortest", before)
}

// noPath checks that Shortest finds no list to some addresses.
func (w world) noPath(addrs ...int) {
	w.t.Helper()
	before := w.state()
	for _, addr := range addrs {
		if got, e := trace.Shortest(w.h, w.r, addr); len(got) != 0 || e != api.ErrNone {
			w.t.Errorf("Shortest(%d): %v, error %d, want none", addr, got, e)
		}
	}
	w.unchanged("after Shortest", before)
}

// clears checks that Clear changes as many objects, and nothing the second time (P7.5).
func (w world) clears(m *side.Table, want int) {
	w.t.Helper()
	marks := m.Clone()
	for _, want := range []int{want, 0} {
		before := w.state()
		got, e := trace.Clear(w.h, m)
		if e != api.OK || got != want {
			w.t.Errorf("Clear: %d, error %d, want %d", got, e, want)
		}
		if want == 0 {
			w.unchanged("after Clear of nothing", before)
		}
	}
	if !side.Same(m, marks) {
		w.t.Errorf("Clear has changed the marks")
	}
}

// withRoots returns the same heap with new roots.
func withRoots(t *testing.T, w world, mutators int) world {
	t.Helper()
	r, e := roots.New(mutators)
	if e != api.OK {
		t.Fatalf("roots.New(%d): the test itself is wrong: error %d", mutators, e)
	}
	return world{t, w.h, r}
}

// newFull makes a heap without room, all objects of which are kept, of one kind: a list of plain objects, each leading to the one before it, too; a list of Ephemerons, each being its own key, and the next one its value; or special objects, of which every second one leads to the next two.
func newFull(t *testing.T, blocks, kind int) world {
	t.Helper()
	h, e := heap.New(blocks)
	if e != api.OK {
		t.Fatalf("heap.New(%d): the test itself is wrong: error %d", blocks, e)
	}
	shape := api.Shape{Refs: 2, Kind: kind}
	for block := 1; block < blocks; block++ {
		h.Claim(block, 0)
		for addr := 64 * block; addr < 64*(block+1); addr += heap.Words(shape) {
			if _, e := h.Place(addr, shape); e != api.OK {
				t.Fatalf("Place(%d): the test itself is wrong: error %d", addr, e)
			}
		}
	}
	w := withRoots(t, world{t, h, nil}, 1)
	w.set(slot(0, 0), w.at(1))
	for i := 1; i < h.Births(); i++ {
		switch {
		case kind == api.Ephemeron:
			w.refer(i, 0, i)
			w.refer(i, 1, i+1)
		case kind == api.Plain:
			w.refer(i+1, 0, i)
			w.refer(i, 1, i+1)
		case i%2 == 1:
			w.refer(i, 0, i+1)
			w.refer(i, 1, min(i+2, h.Births()))
		}
	}
	return w
}

// full is a heap of as many blocks as there may be.
func full(t *testing.T, kind int) world {
	t.Helper()
	return newFull(t, api.MaxBlocks, kind)
}
