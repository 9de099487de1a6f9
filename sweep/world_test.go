package sweep_test

import (
	"fmt"
	"math"
	"slices"
	"testing"

	"dustcart/api"
	"dustcart/heap"
	"dustcart/roots"
	"dustcart/side"
	"dustcart/sweep"
	"dustcart/trace"
)

// beyond are numbers far outside of all ranges, at which a sum, a difference or a product would overflow.
var beyond = []int{math.MinInt, math.MinInt + 1, math.MinInt / 2, math.MinInt / 64, math.MinInt32, -1 << 16, 1 << 16, math.MaxInt32, math.MaxInt32 + 1, math.MaxInt / 64, math.MaxInt/2 + 1, math.MaxInt - 1, math.MaxInt}

// Shapes by their words.
var (
	words2   = api.Shape{}
	words4   = api.Shape{Data: 2}
	words6   = api.Shape{Data: 4}
	words8   = api.Shape{Data: 6}
	words22  = api.Shape{Data: 20}
	words32  = api.Shape{Data: 30} // the most of a small object
	words34  = api.Shape{Data: 31} // the least of a large one
	words102 = api.Shape{Data: 100}
	words218 = api.Shape{Refs: 15, Data: 200} // the most of all
)

func slot(mutator, i int) api.Place {
	return api.Place{Kind: api.PlaceSlot, Mutator: mutator, Index: i}
}
func global(i int) api.Place { return api.Place{Kind: api.PlaceGlobal, Index: i} }

// line is all that was told, as text: lists that are nil and those that are empty are the same.
func line(results ...any) string {
	return fmt.Sprint(results...)
}

// world is a heap with roots.
type world struct {
	t *testing.T
	h *heap.Heap
	r *roots.Roots
}

func newWorld(t *testing.T, blocks, mutators int) world {
	t.Helper()
	h, e := heap.New(blocks)
	r, eR := roots.New(mutators)
	if e != api.OK || eR != api.OK {
		t.Fatalf("the test itself is wrong: errors %d, %d", e, eR)
	}
	return world{t, h, r}
}

func (w world) clone() world {
	return world{w.t, w.h.Clone(), w.r.Clone()}
}

// ok lets the test fail if something that it needs is refused.
func (w world) ok(what string, e api.Errno) {
	w.t.Helper()
	if e != api.OK {
		w.t.Fatalf("%s: the test itself is wrong: error %d", what, e)
	}
}

// put places an object, for which blocks are claimed if it is the first one there: its address.
func (w world) put(addr int, s api.Shape) int {
	w.t.Helper()
	block, n := addr/64, heap.Words(s)
	if w.h.State(block) == api.BlockFree {
		if n > api.LargeWords {
			w.ok("ClaimLarge", w.h.ClaimLarge(block, (n+63)/64, 5))
		} else {
			w.ok("Claim", w.h.Claim(block, 5))
		}
	}
	_, e := w.h.Place(addr, s)
	w.ok("Place", e)
	return addr
}

// refer lets a reference of an object lead to another one.
func (w world) refer(addr, i, to int) {
	w.t.Helper()
	w.ok("SetRef", w.h.SetRef(addr, i, to))
}

// ref returns a reference of an object.
func (w world) ref(addr, i int) int {
	w.t.Helper()
	to, e := w.h.Ref(addr, i)
	w.ok("Ref", e)
	return to
}

// set lets a place be anything.
func (w world) set(p api.Place, addr int) {
	w.t.Helper()
	w.ok("Set", w.r.Set(p, addr))
}

// lead lets the slots 0, 1, .. of mutator 0 lead to some objects.
func (w world) lead(addrs ...int) {
	w.t.Helper()
	for i, addr := range addrs {
		w.set(slot(0, i), addr)
	}
}

func (w world) kill(addrs ...int) {
	w.t.Helper()
	for _, addr := range addrs {
		w.ok("Kill", w.h.Kill(addr))
	}
}

// vacate kills all objects of a block and releases it.
func (w world) vacate(block int) {
	w.t.Helper()
	w.kill(w.h.Objects(block)...)
	w.ok("Release", w.h.Release(block))
}

// marks makes marks of some addresses, whatever is there.
func (w world) marks(addrs ...int) *side.Table {
	w.t.Helper()
	m := newTable(w.t, 32*w.h.Blocks(), 1)
	for _, addr := range addrs {
		w.ok("Set of a table", m.Set(addr/2, 1))
	}
	return m
}

func newTable(t *testing.T, entries, width int) *side.Table {
	t.Helper()
	m, e := side.New(entries, width)
	if e != api.OK {
		t.Fatalf("side.New(%d, %d): the test itself is wrong: error %d", entries, width, e)
	}
	return m
}

// sweeper makes a sweeper with marks of some addresses, and checks that New changes nothing.
func (w world) sweeper(addrs ...int) *sweep.Sweeper {
	w.t.Helper()
	before := w.state()
	s, e := sweep.New(w.h, w.marks(addrs...))
	if e != api.OK || s == nil {
		w.t.Fatalf("New: error %d", e)
	}
	w.unchanged("after New", before)
	return s
}

// keptSweeper makes a sweeper with marks of the kept objects, references being cleared.
func (w world) keptSweeper() *sweep.Sweeper {
	w.t.Helper()
	m, _, e := trace.Mark(w.h, w.r, 1, 3)
	w.ok("Mark", e)
	_, e = trace.Clear(w.h, m)
	w.ok("Clear", e)
	s, e := sweep.New(w.h, m)
	if e != api.OK || s == nil {
		w.t.Fatalf("New: error %d", e)
	}
	return s
}

// blockState is all that a heap tells of some blocks, as numbers.
func (w world) blockState(blocks ...int) []int {
	var list []int
	for _, block := range blocks {
		list = append(list, w.h.State(block), w.h.Space(block))
		for addr := 64 * block; addr < 64*(block+1); addr++ {
			v, _ := w.h.Word(addr)
			to, _ := w.h.Forward(addr)
			list = append(list, v, to)
		}
		for _, addr := range w.h.Objects(block) {
			list = append(list, addr, map[bool]int{true: 1}[w.h.Pinned(addr)])
		}
	}
	return list
}

// allBut are the numbers of all blocks but some.
func (w world) allBut(blocks ...int) []int {
	var list []int
	for block := range w.h.Blocks() {
		if !slices.Contains(blocks, block) {
			list = append(list, block)
		}
	}
	return list
}

// state is all that a heap and roots tell, as numbers.
func (w world) state() []int {
	list := []int{w.h.Blocks(), w.h.Births(), w.h.Used(), w.r.Mutators()}
	list = append(list, w.blockState(w.allBut()...)...)
	for _, p := range w.r.Places() {
		addr, _ := w.r.Get(p)
		list = append(list, p.Kind, p.Mutator, p.Index, addr)
	}
	return list
}

func (w world) unchanged(when string, before []int) {
	w.t.Helper()
	if !slices.Equal(w.state(), before) {
		w.t.Fatalf("%s: the heap or the roots are changed", when)
	}
}

// as checks that a heap and roots tell the same as others.
func (w world) as(other world, when string) {
	w.t.Helper()
	if !slices.Equal(w.state(), other.state()) {
		w.t.Fatalf("%s: the heaps or the roots differ", when)
	}
}

// has checks which objects are there.
func (w world) has(addrs ...int) {
	w.t.Helper()
	if got := w.h.All(); !slices.Equal(got, addrs) {
		w.t.Errorf("there are %v, want %v", got, addrs)
	}
}

// states checks the states of the blocks 1, 2, ..
func (w world) states(want ...int) {
	w.t.Helper()
	for i, state := range want {
		if got := w.h.State(i + 1); got != state {
			w.t.Errorf("block %d: state %d, want %d", i+1, got, state)
		}
	}
}

// report calls Collect and checks what P8.3 and P8.7 promise: the report.
func (w world) report() api.Report {
	w.t.Helper()
	objects, words, births := len(w.h.All()), w.h.Used(), w.h.Births()
	x, e := sweep.Collect(w.h, w.r)
	if e != api.OK {
		w.t.Fatalf("Collect: error %d", e)
	}
	if x.Kept+x.Freed != objects || x.KeptWords+x.FreedWords != words || x.Scanned != x.Kept || x.Moved != 0 || x.MovedWords != 0 {
		w.t.Errorf("Collect: %+v, of %d objects with %d words", x, objects, words)
	}
	if len(w.h.All()) != x.Kept || w.h.Used() != x.KeptWords || w.h.Births() != births {
		w.t.Errorf("Collect: %+v, but there are %d objects with %d words", x, len(w.h.All()), w.h.Used())
	}
	for block := range w.h.Blocks() {
		if state := w.h.State(block); (state == api.BlockUsed || state == api.BlockHead) && len(w.h.Objects(block)) == 0 {
			w.t.Errorf("after Collect there is no object in block %d, whose state is %d", block, state)
		}
	}
	return x
}

// collects checks the report of Collect, and that a second Collect frees and changes nothing.
func (w world) collects(want api.Report) {
	w.t.Helper()
	if got := w.report(); got != want {
		w.t.Errorf("Collect: %+v, want %+v", got, want)
	}
	before := w.state()
	if got := w.report(); got != (api.Report{Kept: want.Kept, KeptWords: want.KeptWords, Scanned: want.Scanned}) {
		w.t.Errorf("a second Collect: %+v", got)
	}
	w.unchanged("after a second Collect", before)
}

// sweeps checks that Block frees as many words, and changes nothing but that block (with its tails, of a head).
func (w world) sweeps(s *sweep.Sweeper, block, words int) {
	w.t.Helper()
	group := []int{block}
	for w.h.State(block) == api.BlockHead && w.h.State(block+len(group)) == api.BlockTail {
		group = append(group, block+len(group))
	}
	places, used := w.r.Places(), w.h.Used()
	before := w.blockState(w.allBut(group...)...)
	if n, e := s.Block(block); n != words || e != api.OK {
		w.t.Errorf("Block(%d): %d, error %d, want %d", block, n, e, words)
	}
	if !slices.Equal(w.blockState(w.allBut(group...)...), before) || !slices.Equal(w.r.Places(), places) {
		w.t.Errorf("Block(%d) has changed more than that block", block)
	}
	if w.h.Used() != used-words {
		w.t.Errorf("Block(%d): %d words are used, want %d", block, w.h.Used(), used-words)
	}
	if slices.Contains(s.Left(), block) {
		w.t.Errorf("Block(%d): it is left still", block)
	}
}

// refusesBlock checks that Block returns ErrNone for some numbers, and changes nothing.
func (w world) refusesBlock(s *sweep.Sweeper, blocks ...int) {
	w.t.Helper()
	before, left := w.state(), s.Left()
	for _, block := range blocks {
		if n, e := s.Block(block); n != 0 || e != api.ErrNone {
			w.t.Errorf("Block(%d): %d, error %d, want none", block, n, e)
		}
	}
	w.unchanged("after Block of no block that is left", before)
	w.left(s, left...)
}

// needs checks which block Need returns, and that it is as P8.5 says.
func (w world) needs(s *sweep.Sweeper, words, block int) {
	w.t.Helper()
	got, e := s.Need(words)
	if got != block || e != api.OK {
		w.t.Errorf("Need(%d): %d, error %d, want %d", words, got, e, block)
	}
	if !w.hasRoom(got, words) && len(s.Left()) > 0 {
		w.t.Errorf("Need(%d): block %d has no room", words, got)
	}
}

// hasRoom tells whether a block is free, or as many words of it that follow one another are in no object.
func (w world) hasRoom(block, words int) bool {
	if w.h.State(block) == api.BlockFree {
		return true
	}
	run := 0
	for addr := 64 * block; addr < 64*(block+1) && w.h.State(block) == api.BlockUsed && run < words; addr++ {
		run++
		if _, e := w.h.Find(addr); e == api.OK {
			run = 0
		}
	}
	return run >= words
}

// refusesNeed checks that Need returns an error for some numbers, and changes nothing.
func (w world) refusesNeed(s *sweep.Sweeper, want api.Errno, words ...int) {
	w.t.Helper()
	before, left := w.state(), s.Left()
	for _, n := range words {
		if block, e := s.Need(n); block != 0 || e != want {
			w.t.Errorf("Need(%d): %d, error %d, want error %d", n, block, e, want)
		}
	}
	w.unchanged("after Need that was refused", before)
	w.left(s, left...)
}

// finishes checks that Finish frees as many words, and leaves nothing; the second time nothing happens.
func (w world) finishes(s *sweep.Sweeper, words int) {
	w.t.Helper()
	used := w.h.Used()
	if n, e := s.Finish(); n != words || e != api.OK || w.h.Used() != used-words {
		w.t.Errorf("Finish: %d, error %d, want %d; %d words were used, then %d", n, e, words, used, w.h.Used())
	}
	w.left(s)
	before := w.state()
	if n, e := s.Finish(); n != 0 || e != api.OK {
		w.t.Errorf("a second Finish: %d, error %d", n, e)
	}
	w.unchanged("after a second Finish", before)
}

// left checks which blocks are left, twice, changing the first result, to which the second one must not be related.
func (w world) left(s *sweep.Sweeper, want ...int) {
	w.t.Helper()
	for range 2 {
		got := s.Left()
		if !slices.Equal(got, want) {
			w.t.Errorf("left are %v, want %v", got, want)
		}
		clear(got)
	}
}

// born checks what Born returns for some addresses, and that the heap is not changed.
func (w world) born(s *sweep.Sweeper, want api.Errno, addrs ...int) {
	w.t.Helper()
	before, left := w.state(), s.Left()
	for _, addr := range addrs {
		if e := s.Born(addr); e != want {
			w.t.Errorf("Born(%d): error %d, want %d", addr, e, want)
		}
	}
	w.unchanged("after Born", before)
	w.left(s, left...)
}
