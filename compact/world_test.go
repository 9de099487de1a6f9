package compact_test

import (
	"fmt"
	"math"
	"slices"
	"testing"

	"dustcart/api"
	"dustcart/compact"
	"dustcart/heap"
	"dustcart/roots"
	"dustcart/side"
	"dustcart/trace"
)

// beyond are numbers far outside of all ranges, at which a sum, a difference or a product would overflow.
var beyond = []int{math.MinInt, math.MinInt + 1, math.MinInt / 2, math.MinInt / 64, math.MinInt32, -1 << 16, 1 << 16, math.MaxInt32, math.MaxInt32 + 1, math.MaxInt / 64, math.MaxInt/2 + 1, math.MaxInt - 1, math.MaxInt}

// Shapes by their words.
var (
	words2   = api.Shape{}
	words4   = api.Shape{Data: 2}
	words6   = api.Shape{Data: 4}
	words20  = api.Shape{Data: 18}
	words32  = api.Shape{Data: 30}            // the most of a small object
	words34  = api.Shape{Data: 31}            // the least of a large one
	words218 = api.Shape{Refs: 15, Data: 200} // the most of all
)

const (
	home       = 5 // the space of blocks that are claimed for an object
	everywhere = -1
)

func slot(mutator, i int) api.Place {
	return api.Place{Kind: api.PlaceSlot, Mutator: mutator, Index: i}
}
func global(i int) api.Place { return api.Place{Kind: api.PlaceGlobal, Index: i} }
func queued(i int) api.Place { return api.Place{Kind: api.PlaceQueue, Index: i} }

// moves are written as pairs of addresses.
func moves(pairs ...int) []api.Move {
	var list []api.Move
	for i := 0; i < len(pairs); i += 2 {
		list = append(list, api.Move{From: pairs[i], To: pairs[i+1]})
	}
	return list
}

// line is all that was told, as text.
func line(results ...any) string {
	return fmt.Sprint(results...)
}

// world is a heap with roots.
type world struct {
	t *testing.T
	h *heap.Heap
	r *roots.Roots
}

func newWorld(t *testing.T, blocks, mutators int) world {
	t.Helper()
	h, e := heap.New(blocks)
	r, eR := roots.New(mutators)
	if e != api.OK || eR != api.OK {
		t.Fatalf("the test itself is wrong: errors %d, %d", e, eR)
	}
	return world{t, h, r}
}

func (w world) clone() world {
	return world{w.t, w.h.Clone(), w.r.Clone()}
}

// ok lets the test fail if something that it needs is refused.
func (w world) ok(what string, e api.Errno) {
	w.t.Helper()
	if e != api.OK {
		w.t.Fatalf("%s: the test itself is wrong: error %d", what, e)
	}
}

// claim claims blocks for small objects of a space.
func (w world) claim(space int, blocks ...int) {
	w.t.Helper()
	for _, block := range blocks {
		w.ok("Claim", w.h.Claim(block, space))
	}
}

// put places an object, for which blocks are claimed if the first one is free: its address.
func (w world) put(addr int, s api.Shape) int {
	w.t.Helper()
	block, n := addr/64, heap.Words(s)
	if w.h.State(block) == api.BlockFree {
		if n > api.LargeWords {
			w.ok("ClaimLarge", w.h.ClaimLarge(block, (n+63)/64, home))
		} else {
			w.claim(home, block)
		}
	}
	_, e := w.h.Place(addr, s)
	w.ok("Place", e)
	return addr
}

// keep places objects as put does, and lets one more place lead to each.
func (w world) keep(s api.Shape, addrs ...int) {
	w.t.Helper()
	for _, addr := range addrs {
		w.also(w.put(addr, s))
	}
}

// also lets the first place that is empty lead to an object.
func (w world) also(addr int) {
	w.t.Helper()
	for mutator := range w.r.Mutators() {
		for i := range api.MaxSlots {
			if was, _ := w.r.Get(slot(mutator, i)); was == 0 {
				w.set(slot(mutator, i), addr)
				return
			}
		}
	}
	w.ok("Push", w.r.Push(addr))
}

// refs lets the references of an object lead to others, from reference 0 on.
func (w world) refs(addr int, to ...int) {
	w.t.Helper()
	for i, ref := range to {
		w.ok("SetRef", w.h.SetRef(addr, i, ref))
	}
}

// node places an object of a kind whose references lead to objects that are there: its address.
func (w world) node(addr, kind int, to ...int) int {
	w.t.Helper()
	w.put(addr, api.Shape{Refs: len(to), Kind: kind})
	w.refs(addr, to...)
	return addr
}

// set lets a place be anything.
func (w world) set(p api.Place, addr int) {
	w.t.Helper()
	w.ok("Set", w.r.Set(p, addr))
}

func (w world) push(addrs ...int) {
	w.t.Helper()
	for _, addr := range addrs {
		w.ok("Push", w.r.Push(addr))
	}
}

func (w world) pin(addrs ...int) {
	w.t.Helper()
	for _, addr := range addrs {
		w.ok("Pin", w.h.Pin(addr))
	}
}

func (w world) shape(addr int) api.Shape {
	w.t.Helper()
	s, e := w.h.Shape(addr)
	w.ok("Shape", e)
	return s
}

func (w world) words(addr int) int {
	w.t.Helper()
	return heap.Words(w.shape(addr))
}

func (w world) ident(addr int) int {
	w.t.Helper()
	ident, e := w.h.Ident(addr)
	w.ok("Ident", e)
	return ident
}

// idents are the identities of all objects, rising.
func (w world) idents() []int {
	w.t.Helper()
	var list []int
	for _, addr := range w.h.All() {
		list = append(list, w.ident(addr))
	}
	slices.Sort(list)
	return list
}

// kept are the identities of all kept objects, rising.
func (w world) kept() []int {
	w.t.Helper()
	addrs, e := trace.Kept(w.h, w.r)
	w.ok("Kept", e)
	var list []int
	for _, addr := range addrs {
		list = append(list, w.ident(addr))
	}
	slices.Sort(list)
	return list
}

// marks are marks of the kept objects.
func (w world) marks() *side.Table {
	w.t.Helper()
	marks, _, e := trace.Mark(w.h, w.r, 0, api.MaxEntries)
	w.ok("Mark", e)
	return marks
}

// table is marks of some addresses.
func (w world) table(addrs ...int) *side.Table {
	w.t.Helper()
	marks, e := side.New(32*w.h.Blocks(), 1)
	w.ok("side.New", e)
	for _, addr := range addrs {
		w.ok("Set", marks.Set(addr/2, 1))
	}
	return marks
}

// state is all that a heap and roots tell, as numbers.
func (w world) state() []int {
	list := []int{w.h.Blocks(), w.h.Births(), w.h.Used(), w.r.Mutators()}
	for block := range w.h.Blocks() {
		list = append(list, w.h.State(block), w.h.Space(block))
	}
	for addr := range 64 * w.h.Blocks() {
		v, _ := w.h.Word(addr)
		to, _ := w.h.Forward(addr)
		list = append(list, v, to)
	}
	for _, addr := range w.h.All() {
		list = append(list, addr, map[bool]int{true: 1}[w.h.Pinned(addr)])
	}
	for _, p := range w.r.Places() {
		addr, _ := w.r.Get(p)
		list = append(list, p.Kind, p.Mutator, p.Index, addr)
	}
	return list
}

func (w world) unchanged(when string, before []int) {
	w.t.Helper()
	if !slices.Equal(w.state(), before) {
		w.t.Fatalf("%s: the heap or the roots are changed", when)
	}
}

// as checks that a heap and roots tell the same as others.
func (w world) as(other world, when string) {
	w.t.Helper()
	if !slices.Equal(w.state(), other.state()) {
		w.t.Fatalf("%s: the heaps or the roots differ", when)
	}
}

// has checks which objects are there.
func (w world) has(addrs ...int) {
	w.t.Helper()
	if got := w.h.All(); !slices.Equal(got, addrs) {
		w.t.Errorf("there are %v, want %v", got, addrs)
	}
}

// at checks the address of the object with an identity, and what its references are.
func (w world) at(ident, addr int, refs ...int) {
	w.t.Helper()
	if got, e := w.h.At(ident); got != addr || e != api.OK {
		w.t.Errorf("object %d: at %d, error %d, want %d", ident, got, e, addr)
		return
	}
	for i, want := range refs {
		if got, e := w.h.Ref(addr, i); got != want || e != api.OK {
			w.t.Errorf("object %d: reference %d is %d, error %d, want %d", ident, i, got, e, want)
		}
	}
}

// leads checks what a place is.
func (w world) leads(p api.Place, want int) {
	w.t.Helper()
	if got, e := w.r.Get(p); got != want || e != api.OK {
		w.t.Errorf("place %v is %d, error %d, want %d", p, got, e, want)
	}
}

// states checks the states of the blocks 1, 2, ..
func (w world) states(want ...int) {
	w.t.Helper()
	for i, state := range want {
		if got := w.h.State(i + 1); got != state {
			w.t.Errorf("block %d: state %d, want %d", i+1, got, state)
		}
	}
}

// spaces checks the spaces of the blocks 1, 2, ..
func (w world) spaces(want ...int) {
	w.t.Helper()
	for i, space := range want {
		if got := w.h.Space(i + 1); got != space {
			w.t.Errorf("block %d: space %d, want %d", i+1, got, space)
		}
	}
}

// wastes checks what Waste returns, and that it changes nothing.
func (w world) wastes(want int) {
	w.t.Helper()
	before := w.state()
	for range 2 {
		if got, e := compact.Waste(w.h); got != want || e != api.OK {
			w.t.Errorf("Waste: %d, error %d, want %d", got, e, want)
		}
	}
	w.unchanged("after Waste", before)
}

// plans checks what Plan returns for marks, and that it changes neither these nor the heap.
func (w world) plans(marks *side.Table, want ...api.Move) {
	w.t.Helper()
	before, table := w.state(), marks.Clone()
	for range 2 {
		if got, e := compact.Plan(w.h, marks); !slices.Equal(got, want) || e != api.OK {
			w.t.Errorf("Plan: %v, error %d, want %v", got, e, want)
		}
	}
	w.unchanged("after Plan", before)
	if !side.Same(marks, table) {
		w.t.Errorf("Plan changes marks")
	}
}

// run is Collect, or Space of a space.
func (w world) run(space int) (api.Report, []api.Move, api.Errno) {
	if space == everywhere {
		return compact.Collect(w.h, w.r)
	}
	return compact.Space(w.h, w.r, space)
}

// refuses checks that Collect, or Space, returns an error, and changes nothing.
func (w world) refuses(space int, want api.Errno) {
	w.t.Helper()
	before := w.state()
	x, list, e := w.run(space)
	if x != (api.Report{}) || len(list) != 0 || e != want {
		w.t.Errorf("of %d: %+v, %v, error %d, want error %d", space, x, list, e, want)
	}
	w.unchanged("after what was refused", before)
}

// collect is Collect, or Space, which must not be refused; it checks what the promises say of any collection.
func (w world) collect(space int) (api.Report, []api.Move) {
	w.t.Helper()
	before := w.clone()
	x, list, e := w.run(space)
	if e != api.OK {
		w.t.Fatalf("of %d: error %d", space, e)
	}
	w.promised(before, space, x, list)
	return x, list
}

// collects checks the report and the moves of Collect, or of Space, and that nothing is left to do for a second one.
func (w world) collects(space int, want api.Report, wantMoves ...api.Move) {
	w.t.Helper()
	x, list := w.collect(space)
	if x != want || !slices.Equal(list, wantMoves) {
		w.t.Errorf("of %d: %+v, %v, want %+v, %v", space, x, list, want, wantMoves)
	}
	w.again(space)
}

// slid is a report of objects of which none was freed or cleared.
func slid(kept, keptWords, moved, movedWords int) api.Report {
	return api.Report{Kept: kept, KeptWords: keptWords, Moved: moved, MovedWords: movedWords, Scanned: kept}
}

// again checks P10.5: that a second Collect, or Space, changes nothing.
func (w world) again(space int) {
	w.t.Helper()
	before := w.state()
	x, list, e := w.run(space)
	if n := len(w.h.All()); x != slid(n, w.h.Used(), 0, 0) || len(list) != 0 || e != api.OK {
		w.t.Errorf("once more: %+v, %v, error %d", x, list, e)
	}
	w.unchanged("after a second collection", before)
}
