package copying_test

import (
	"fmt"
	"math"
	"slices"
	"testing"

	"dustcart/api"
	"dustcart/copying"
	"dustcart/heap"
	"dustcart/roots"
)

// beyond are numbers far outside of all ranges, at which a sum, a difference or a product would overflow.
var beyond = []int{math.MinInt, math.MinInt + 1, math.MinInt / 2, math.MinInt / 64, math.MinInt32, -1 << 16, 1 << 16, math.MaxInt32, math.MaxInt32 + 1, math.MaxInt / 64, math.MaxInt/2 + 1, math.MaxInt - 1, math.MaxInt}

// The orders.
const (
	oldest = 0
	newest = 1
)

// Shapes by their words.
var (
	words2   = api.Shape{}
	words4   = api.Shape{Data: 2}
	words6   = api.Shape{Data: 4}
	words20  = api.Shape{Data: 18}
	words22  = api.Shape{Data: 20}
	words32  = api.Shape{Data: 30}            // the most of a small object
	words34  = api.Shape{Data: 31}            // the least of a large one
	words218 = api.Shape{Refs: 15, Data: 200} // the most of all
)

const oldSpace = 5 // that of all blocks that tests claim

func slot(mutator, i int) api.Place {
	return api.Place{Kind: api.PlaceSlot, Mutator: mutator, Index: i}
}
func global(i int) api.Place { return api.Place{Kind: api.PlaceGlobal, Index: i} }
func queued(i int) api.Place { return api.Place{Kind: api.PlaceQueue, Index: i} }

// line is all that was told, as text: lists that are nil and those that are empty are the same.
func line(results ...any) string {
	return fmt.Sprint(results...)
}

// world is a heap with roots.
type world struct {
	t *testing.T
	h *heap.Heap
	r *roots.Roots
}

func newWorld(t *testing.T, blocks, mutators int) world {
	t.Helper()
	h, e := heap.New(blocks)
	r, eR := roots.New(mutators)
	if e != api.OK || eR != api.OK {
		t.Fatalf("the test itself is wrong: errors %d, %d", e, eR)
	}
	return world{t, h, r}
}

func (w world) clone() world {
	return world{w.t, w.h.Clone(), w.r.Clone()}
}

// ok lets the test fail if something that it needs is refused.
func (w world) ok(what string, e api.Errno) {
	w.t.Helper()
	if e != api.OK {
		w.t.Fatalf("%s: the test itself is wrong: error %d", what, e)
	}
}

// put places an object, for which blocks are claimed if it is the first one there: its address.
func (w world) put(addr int, s api.Shape) int {
	w.t.Helper()
	block, n := addr/64, heap.Words(s)
	if w.h.State(block) == api.BlockFree {
		if n > api.LargeWords {
			w.ok("ClaimLarge", w.h.ClaimLarge(block, (n+63)/64, oldSpace))
		} else {
			w.ok("Claim", w.h.Claim(block, oldSpace))
		}
	}
	_, e := w.h.Place(addr, s)
	w.ok("Place", e)
	return addr
}

// refs lets the references of an object lead to others, from reference 0 on.
func (w world) refs(addr int, to ...int) {
	w.t.Helper()
	for i, ref := range to {
		w.ok("SetRef", w.h.SetRef(addr, i, ref))
	}
}

// node places an object of a kind whose references lead to objects that are there, or are itself: its address.
func (w world) node(addr, kind int, to ...int) int {
	w.t.Helper()
	w.put(addr, api.Shape{Refs: len(to), Kind: kind})
	w.refs(addr, to...)
	return addr
}

// set lets a place be anything.
func (w world) set(p api.Place, addr int) {
	w.t.Helper()
	w.ok("Set", w.r.Set(p, addr))
}

// lead lets the slots 0, 1, .. of mutator 0 lead to some objects.
func (w world) lead(addrs ...int) {
	w.t.Helper()
	for i, addr := range addrs {
		w.set(slot(0, i), addr)
	}
}

func (w world) push(addrs ...int) {
	w.t.Helper()
	for _, addr := range addrs {
		w.ok("Push", w.r.Push(addr))
	}
}

func (w world) pin(addrs ...int) {
	w.t.Helper()
	for _, addr := range addrs {
		w.ok("Pin", w.h.Pin(addr))
	}
}

// claim claims blocks without objects.
func (w world) claim(blocks ...int) {
	w.t.Helper()
	for _, block := range blocks {
		w.ok("Claim", w.h.Claim(block, oldSpace))
	}
}

// fill claims all free blocks from one on, each for an object that nothing leads to.
func (w world) fill(from int) {
	w.t.Helper()
	for block := from; block < w.h.Blocks(); block++ {
		if w.h.State(block) == api.BlockFree {
			w.put(64*block, words2)
		}
	}
}

func (w world) free() int {
	n := 0
	for block := 1; block < w.h.Blocks(); block++ {
		if w.h.State(block) == api.BlockFree {
			n++
		}
	}
	return n
}

func (w world) shape(addr int) api.Shape {
	w.t.Helper()
	s, e := w.h.Shape(addr)
	w.ok("Shape", e)
	return s
}

// isFixed tells whether an object may not be moved.
func (w world) isFixed(addr int) bool {
	w.t.Helper()
	return heap.Words(w.shape(addr)) > 32 || w.h.Pinned(addr)
}

func (w world) ident(addr int) int {
	w.t.Helper()
	ident, e := w.h.Ident(addr)
	w.ok("Ident", e)
	return ident
}

// idents are the identities of all objects, rising.
func (w world) idents() []int {
	w.t.Helper()
	var list []int
	for _, addr := range w.h.All() {
		list = append(list, w.ident(addr))
	}
	slices.Sort(list)
	return list
}

// state is all that a heap and roots tell, as numbers.
func (w world) state() []int {
	list := []int{w.h.Blocks(), w.h.Births(), w.h.Used(), w.r.Mutators()}
	for block := range w.h.Blocks() {
		list = append(list, w.h.State(block), w.h.Space(block))
	}
	for addr := range 64 * w.h.Blocks() {
		v, _ := w.h.Word(addr)
		to, _ := w.h.Forward(addr)
		list = append(list, v, to)
	}
	for _, addr := range w.h.All() {
		list = append(list, addr, map[bool]int{true: 1}[w.h.Pinned(addr)])
	}
	for _, p := range w.r.Places() {
		addr, _ := w.r.Get(p)
		list = append(list, p.Kind, p.Mutator, p.Index, addr)
	}
	return list
}

func (w world) unchanged(when string, before []int) {
	w.t.Helper()
	if !slices.Equal(w.state(), before) {
		w.t.Fatalf("%s: the heap or the roots are changed", when)
	}
}

// as checks that a heap and roots tell the same as others.
func (w world) as(other world, when string) {
	w.t.Helper()
	if !slices.Equal(w.state(), other.state()) {
		w.t.Fatalf("%s: the heaps or the roots differ", when)
	}
}

// has checks which objects are there.
func (w world) has(addrs ...int) {
	w.t.Helper()
	if got := w.h.All(); !slices.Equal(got, addrs) {
		w.t.Errorf("there are %v, want %v", got, addrs)
	}
}

// at checks the address of the object with an identity, and what its references are.
func (w world) at(ident, addr int, refs ...int) {
	w.t.Helper()
	if got, e := w.h.At(ident); got != addr || e != api.OK {
		w.t.Errorf("object %d: at %d, error %d, want %d", ident, got, e, addr)
		return
	}
	for i, want := range refs {
		if got, e := w.h.Ref(addr, i); got != want || e != api.OK {
			w.t.Errorf("object %d: reference %d is %d, error %d, want %d", ident, i, got, e, want)
		}
	}
}

// leads checks what a place is.
func (w world) leads(p api.Place, want int) {
	w.t.Helper()
	if got, e := w.r.Get(p); got != want || e != api.OK {
		w.t.Errorf("place %v is %d, error %d, want %d", p, got, e, want)
	}
}

// states checks the states of the blocks 1, 2, ..
func (w world) states(want ...int) {
	w.t.Helper()
	for i, state := range want {
		if got := w.h.State(i + 1); got != state {
			w.t.Errorf("block %d: state %d, want %d", i+1, got, state)
		}
	}
}

// space checks the space of some blocks.
func (w world) space(want int, blocks ...int) {
	w.t.Helper()
	for _, block := range blocks {
		if got := w.h.Space(block); got != want {
			w.t.Errorf("block %d: space %d, want %d", block, got, want)
		}
	}
}

// room checks what Room returns, and that it changes nothing.
func (w world) room(order, want int) {
	w.t.Helper()
	before := w.state()
	for range 2 {
		if got, e := copying.Room(w.h, w.r, order); got != want || e != api.OK {
			w.t.Errorf("Room(%d): %d, error %d, want %d", order, got, e, want)
		}
	}
	w.unchanged("after Room", before)
}

// refuses checks that Collect returns an error for a space and an order, and changes nothing.
func (w world) refuses(space, order int, want api.Errno) {
	w.t.Helper()
	before := w.state()
	x, moves, e := copying.Collect(w.h, w.r, space, order)
	if x != (api.Report{}) || len(moves) != 0 || e != want {
		w.t.Errorf("Collect(%d, %d): %+v, %v, error %d, want error %d", space, order, x, moves, e, want)
	}
	w.unchanged("after Collect that was refused", before)
}

// collect calls Collect, which must not be refused, and checks what the promises say of any collection.
func (w world) collect(space, order int) (api.Report, []api.Move) {
	w.t.Helper()
	before := w.clone()
	need, e := copying.Room(w.h, w.r, order)
	w.ok("Room", e)
	x, moves, e := copying.Collect(w.h, w.r, space, order)
	if e != api.OK {
		w.t.Fatalf("Collect(%d, %d): error %d", space, order, e)
	}
	w.sums(before, x, moves)
	w.movedOnce(before, moves)
	w.inRows(before, moves, space, need)
	w.noEmptyBlocks()
	if order == oldest {
		before.nearerFirst(moves)
	}
	return x, moves
}

// collects checks the report and the moves of Collect.
func (w world) collects(space, order int, want api.Report, wantMoves ...api.Move) {
	w.t.Helper()
	x, moves := w.collect(space, order)
	if x != want || !slices.Equal(moves, wantMoves) {
		w.t.Errorf("Collect(%d, %d): %+v, %v, want %+v, %v", space, order, x, moves, want, wantMoves)
	}
}

// sums checks the report against what is there.
func (w world) sums(before world, x api.Report, moves []api.Move) {
	w.t.Helper()
	words := 0
	for _, m := range moves {
		words += heap.Words(before.shape(m.From))
	}
	if x.Kept+x.Freed != len(before.h.All()) || x.KeptWords+x.FreedWords != before.h.Used() || x.Kept != len(w.h.All()) || x.KeptWords != w.h.Used() {
		w.t.Errorf("Collect: %+v, of %d objects with %d words, of which %d with %d are there still", x, len(before.h.All()), before.h.Used(), len(w.h.All()), w.h.Used())
	}
	if x.Scanned != x.Kept || x.Moved != len(moves) || x.MovedWords != words { // P9.3
		w.t.Errorf("Collect: %+v, with moves %v of %d words", x, moves, words)
	}
	if w.h.Births() != before.h.Births() {
		w.t.Errorf("Collect: %d objects were placed", w.h.Births()-before.h.Births())
	}
}

// movedOnce checks that each object that is there and is not fixed is moved once, and all others are where they were (P9.2), and that forwards note it (P9.7).
func (w world) movedOnce(before world, moves []api.Move) {
	w.t.Helper()
	to := map[int]int{}
	for _, m := range moves {
		if to[m.From] != 0 || before.isFixed(m.From) {
			w.t.Errorf("%d is moved to %d", m.From, m.To)
		}
		to[m.From] = m.To
		if at, e := w.h.Forward(m.From); at != m.To || e != api.OK {
			w.t.Errorf("Forward(%d): %d, error %d, want %d", m.From, at, e, m.To)
		}
	}
	for _, addr := range w.h.All() {
		was, e := before.h.At(w.ident(addr))
		w.ok("At", e)
		if before.isFixed(was) && addr != was || !before.isFixed(was) && addr != to[was] || before.h.Pinned(was) != w.h.Pinned(addr) {
			w.t.Errorf("object %d was at %d, is at %d, and %d is moved to %d", w.ident(addr), was, addr, was, to[was])
		}
	}
	for addr := range 64 * w.h.Blocks() {
		if at, _ := w.h.Forward(addr); to[addr] == 0 {
			if was, _ := before.h.Forward(addr); at != was {
				w.t.Errorf("the forward from %d is %d, was %d", addr, at, was)
			}
		}
	}
}

// inRows checks that the moves go to the free blocks with the least numbers, as many as Room said, one after the other, each block being left only if what is moved next does not fit (P9.2).
func (w world) inRows(before world, moves []api.Move, space, need int) {
	w.t.Helper()
	block, place, begun := 0, 64, 0
	for _, m := range moves {
		n := heap.Words(before.shape(m.From))
		if place+n > 64*(block+1) {
			for block++; before.h.State(block) != api.BlockFree; {
				block++
			}
			place = 64 * block
			begun++
			w.space(space, block)
		}
		if m.To != place {
			w.t.Fatalf("%d is moved to %d, not to %d", m.From, m.To, place)
		}
		place += n
	}
	if begun != need {
		w.t.Errorf("%d blocks were claimed, but Room said %d", begun, need)
	}
}

func (w world) noEmptyBlocks() {
	w.t.Helper()
	for block := range w.h.Blocks() {
		if state := w.h.State(block); (state == api.BlockUsed || state == api.BlockHead) && len(w.h.Objects(block)) == 0 {
			w.t.Errorf("after Collect there is no object in block %d, whose state is %d", block, state)
		}
	}
}

// nearerFirst checks, if there are no Ephemerons, that no object is moved before one that was nearer to the roots (P9.4).
func (w world) nearerFirst(moves []api.Move) {
	w.t.Helper()
	for _, addr := range w.h.All() {
		if w.shape(addr).Kind == api.Ephemeron {
			return
		}
	}
	far := map[int]int{}
	list := w.r.Leads()
	for _, addr := range list {
		far[addr] = 1
	}
	for ; len(list) > 0; list = list[1:] {
		s := w.shape(list[0])
		for i := range s.Refs {
			to, _ := w.h.Ref(list[0], i)
			if to != 0 && far[to] == 0 && (i > 0 || s.Kind != api.Weak) {
				far[to] = far[list[0]] + 1
				list = append(list, to)
			}
		}
	}
	last := 0
	for _, m := range moves {
		if far[m.From] < last {
			w.t.Errorf("%d, %d steps from the roots, is moved after one that is %d", m.From, far[m.From], last)
		}
		last = far[m.From]
	}
}

// again checks P9.6: that a second Collect with any order frees and clears nothing, and moves once more what is not fixed. (It is done on a clone.)
func (w world) again(space int) {
	w.t.Helper()
	for _, order := range []int{oldest, newest} {
		c := w.clone()
		if need, _ := copying.Room(c.h, c.r, order); need > c.free() {
			c.refuses(space, order, api.ErrFull)
			continue
		}
		idents, movable := w.idents(), 0
		for _, addr := range w.h.All() {
			if !w.isFixed(addr) {
				movable++
			}
		}
		x, moves := c.collect(space, order)
		if x.Freed != 0 || x.FreedWords != 0 || x.Cleared != 0 || len(moves) != movable || !slices.Equal(c.idents(), idents) {
			w.t.Errorf("a second Collect: %+v, %v, %d objects being movable", x, moves, movable)
		}
	}
}
