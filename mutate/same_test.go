package mutate_test

import (
	"fmt"
	"math"
	"slices"
	"strings"
	"testing"

	"dustcart/alloc"
	"dustcart/api"
	"dustcart/heap"
	"dustcart/model"
	"dustcart/mutate"
	"dustcart/roots"
)

// The policies of allocators.
const (
	First = iota
	Best
	Next
	Bump
	Lines
	policies
)

// beyond are numbers far outside of all ranges, at which a sum, a difference or a product would overflow.
var beyond = []int{math.MinInt, math.MinInt + 1, math.MinInt / 2, math.MinInt / 16, math.MinInt32, -1 << 16, 1 << 16, math.MaxInt32, math.MaxInt32 + 1, math.MaxInt / 16, math.MaxInt/2 + 1, math.MaxInt - 1, math.MaxInt}

// nowhere are numbers that are no index from 0 to n - 1.
func nowhere(n int) []int {
	return append([]int{-1, -2, -n - 1, n, n + 1, 2*n + 1}, beyond...)
}

var (
	leaf  = api.Shape{}
	word  = api.Shape{Data: 1}
	link  = api.Shape{Refs: 1}
	fork  = api.Shape{Refs: 2}
	weak  = api.Shape{Refs: 1, Kind: api.Weak}
	pair  = api.Shape{Refs: 2, Kind: api.Ephemeron}
	large = api.Shape{Refs: 2, Data: 100, Kind: api.Special}
)

func create(a int, s api.Shape) api.Act { return api.Act{Kind: api.ActNew, A: a, Shape: s} }
func load(a, b, i int) api.Act          { return api.Act{Kind: api.ActLoad, A: a, B: b, I: i} }
func store(a, i, b int) api.Act         { return api.Act{Kind: api.ActStore, A: a, B: b, I: i} }
func put(a, i, n int) api.Act           { return api.Act{Kind: api.ActPut, A: a, I: i, N: n} }
func get(a, i int) api.Act              { return api.Act{Kind: api.ActGet, A: a, I: i} }
func copied(a, b int) api.Act           { return api.Act{Kind: api.ActCopy, A: a, B: b} }
func drop(a int) api.Act                { return api.Act{Kind: api.ActDrop, A: a} }
func alike(a, b int) api.Act            { return api.Act{Kind: api.ActSame, A: a, B: b} }
func ident(a int) api.Act               { return api.Act{Kind: api.ActIdent, A: a} }
func export(a, i int) api.Act           { return api.Act{Kind: api.ActExport, A: a, I: i} }
func imported(a, i int) api.Act         { return api.Act{Kind: api.ActImport, A: a, I: i} }
func shape(a int) api.Act               { return api.Act{Kind: api.ActShape, A: a} }

func slot(mutator, i int) api.Place {
	return api.Place{Kind: api.PlaceSlot, Mutator: mutator, Index: i}
}
func global(i int) api.Place { return api.Place{Kind: api.PlaceGlobal, Index: i} }
func queued(i int) api.Place { return api.Place{Kind: api.PlaceQueue, Index: i} }

// line is all that was told, as text: lists that are nil and those that are empty are the same.
func line(results ...any) string {
	return fmt.Sprint(results...)
}

// told is all that an act told, as text.
func told(f api.Effect, e api.Errno) string {
	return fmt.Sprintf("told %v, object %d, I %d, old %d, new %d, made %d, loaded %d, error %d", f.Told, f.Object, f.I, f.Old, f.New, f.Made, f.Loaded, e)
}

// succeeded tells whether what an act told has no error.
func succeeded(told string) bool {
	return strings.HasSuffix(told, ", error 0")
}

// world is what acts are done on, and a model to which the same acts are done.
type world struct {
	t *testing.T
	h *heap.Heap
	r *roots.Roots
	a *alloc.Allocator
	m *model.Model
}

func newWorld(t *testing.T, blocks, mutators, policy int) world {
	t.Helper()
	h, e := heap.New(blocks)
	r, eR := roots.New(mutators)
	m, eM := model.New(mutators)
	a, eA := alloc.New(h, 3, policy)
	if e != api.OK || eR != api.OK || eM != api.OK || eA != api.OK {
		t.Fatalf("the test itself is wrong: errors %d, %d, %d, %d", e, eR, eM, eA)
	}
	return world{t, h, r, a, m}
}

func (w world) clone() world {
	h := w.h.Clone()
	return world{w.t, h, w.r.Clone(), w.a.Clone(h), w.m.Clone()}
}

// ident returns the identity of the object with an address, 0 for 0, and -1 if there is none.
func (w world) ident(addr int) int {
	if addr == 0 {
		return 0
	}
	n, e := w.h.Ident(addr)
	if e != api.OK {
		return -1
	}
	return n
}

// at returns the address of the object with an identity.
func (w world) at(ident int) int {
	w.t.Helper()
	addr, e := w.h.At(ident)
	if e != api.OK {
		w.t.Fatalf("At(%d): the test itself is wrong: error %d", ident, e)
	}
	return addr
}

// idents returns an effect with identities instead of addresses.
func (w world) idents(f api.Effect) api.Effect {
	f.Object, f.Old, f.New = w.ident(f.Object), w.ident(f.Old), w.ident(f.New)
	f.Made, f.Loaded = w.ident(f.Made), w.ident(f.Loaded)
	return f
}

// do lets a mutator do an act in both: P6.1 and P6.5. Where the heap is full the model does not do it.
func (w world) do(mutator int, a api.Act) (api.Effect, api.Errno) {
	w.t.Helper()
	on := w.h.Clone()
	addr, full := w.a.Clone(on).Alloc(a.Shape)
	f, e := mutate.Do(w.h, w.r, w.a, mutator, a)
	if e == api.ErrFull && a.Kind == api.ActNew && full == api.ErrFull {
		return f, e
	}
	want, wantE := w.m.Do(mutator, a)
	if got, want := told(w.idents(f), e), told(want, wantE); got != want {
		w.t.Fatalf("Do(%d, %v): %s, want %s", mutator, a, got, want)
	}
	if a.Kind == api.ActNew && e == api.OK && f.Made != addr {
		w.t.Fatalf("Do(%d, %v): made %d, but the allocator places it at %d", mutator, a, f.Made, addr)
	}
	return f, e
}

// acts lets a mutator do acts, which must succeed.
func (w world) acts(mutator int, list ...api.Act) {
	w.t.Helper()
	for _, a := range list {
		if _, e := w.do(mutator, a); e != api.OK {
			w.t.Fatalf("Do(%d, %v): error %d", mutator, a, e)
		}
	}
	w.match(line("after ", list))
}

// effect lets mutator 0 do an act, whose effect is told by the test.
func (w world) effect(a api.Act, want api.Effect) {
	w.t.Helper()
	f, e := w.do(0, a)
	if got := told(f, e); got != told(want, api.OK) {
		w.t.Fatalf("Do(0, %v): %s, want %s", a, got, told(want, api.OK))
	}
	w.match(line("after ", a))
}

// alone lets a mutator do an act with the heap alone: the result, as text.
func (w world) alone(mutator int, a api.Act) string {
	return told(mutate.Do(w.h, w.r, w.a, mutator, a))
}

// refused checks the error of an act, which the model does not do, and that it changed nothing (P6.6).
func (w world) refused(mutator int, a api.Act, want api.Errno) {
	w.t.Helper()
	before := w.state()
	if got, want := w.alone(mutator, a), told(api.Effect{}, want); got != want {
		w.t.Errorf("Do(%d, %v): %s, want %s", mutator, a, got, want)
	}
	w.unchanged(line("after Do(", mutator, a, "), which was refused"), before)
}

func (w world) match(when string) {
	w.t.Helper()
	if !mutate.Match(w.h, w.r, w.m) {
		w.t.Fatalf("%s: no match: %v, want %v", when, w.told(), w.modelled())
	}
}

// set lets a place of the heap's roots be anything.
func (w world) set(p api.Place, addr int) {
	w.t.Helper()
	if e := w.r.Set(p, addr); e != api.OK {
		w.t.Fatalf("Set(%v, %d): the test itself is wrong: error %d", p, addr, e)
	}
}

// poke lets a word of the heap be anything.
func (w world) poke(addr, v int) {
	w.t.Helper()
	if e := w.h.Poke(addr, v); e != api.OK {
		w.t.Fatalf("Poke(%d, %d): the test itself is wrong: error %d", addr, v, e)
	}
}

func (w world) kill(addrs ...int) {
	w.t.Helper()
	for _, addr := range addrs {
		if e := w.h.Kill(addr); e != api.OK {
			w.t.Fatalf("Kill(%d): the test itself is wrong: error %d", addr, e)
		}
	}
}

// push adds an object to both queues, by its identity.
func (w world) push(ident int) {
	w.t.Helper()
	addr := w.at(ident)
	if e, eR := w.m.Push(ident), w.r.Push(addr); e != api.OK || eR != api.OK {
		w.t.Fatalf("Push(%d): the test itself is wrong: errors %d, %d", ident, e, eR)
	}
}

// state is all that a heap, roots and an allocator tell, as numbers.
func (w world) state() []int {
	list := []int{w.h.Blocks(), w.h.Births(), w.h.Used(), w.r.Mutators(), w.a.Space(), w.a.Policy()}
	for block := range w.h.Blocks() {
		list = append(list, w.h.State(block), w.h.Space(block))
	}
	for addr := range 64 * w.h.Blocks() {
		v, _ := w.h.Word(addr)
		list = append(list, v)
	}
	for _, addr := range w.h.All() {
		list = append(list, addr, map[bool]int{true: 1}[w.h.Pinned(addr)])
	}
	for addr := 0; addr < 64*w.h.Blocks(); addr += 2 {
		to, _ := w.h.Forward(addr)
		list = append(list, to)
	}
	for _, p := range w.r.Places() {
		addr, _ := w.r.Get(p)
		list = append(list, p.Kind, p.Mutator, p.Index, addr)
	}
	cursor, limit, overCursor, overLimit := w.a.Cursor()
	return append(list, cursor, limit, overCursor, overLimit)
}

func (w world) unchanged(when string, before []int) {
	w.t.Helper()
	if !slices.Equal(w.state(), before) {
		w.t.Fatalf("%s: the heap, the roots or the allocator are changed", when)
	}
}
