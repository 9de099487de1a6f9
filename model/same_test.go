package model_test

import (
	"fmt"
	"math"
	"slices"
	"testing"

	"dustcart/api"
	"dustcart/model"
)

// beyond are numbers far outside of all ranges, at which a sum, a difference or a product would overflow.
var beyond = []int{math.MinInt, math.MinInt + 1, math.MinInt / 2, math.MinInt / 16, math.MinInt32, -1 << 16, 1 << 16, math.MaxInt32, math.MaxInt32 + 1, math.MaxInt / 16, math.MaxInt/2 + 1, math.MaxInt - 1, math.MaxInt}

var (
	leaf = api.Shape{}
	word = api.Shape{Data: 1}
	link = api.Shape{Refs: 1}
	fork = api.Shape{Refs: 2}
	weak = api.Shape{Refs: 1, Kind: api.Weak}
	pair = api.Shape{Refs: 2, Kind: api.Ephemeron}
)

func create(a int, s api.Shape) api.Act { return api.Act{Kind: api.ActNew, A: a, Shape: s} }
func load(a, b, i int) api.Act          { return api.Act{Kind: api.ActLoad, A: a, B: b, I: i} }
func store(a, i, b int) api.Act         { return api.Act{Kind: api.ActStore, A: a, B: b, I: i} }
func put(a, i, n int) api.Act           { return api.Act{Kind: api.ActPut, A: a, I: i, N: n} }
func get(a, i int) api.Act              { return api.Act{Kind: api.ActGet, A: a, I: i} }
func copied(a, b int) api.Act           { return api.Act{Kind: api.ActCopy, A: a, B: b} }
func drop(a int) api.Act                { return api.Act{Kind: api.ActDrop, A: a} }
func alike(a, b int) api.Act            { return api.Act{Kind: api.ActSame, A: a, B: b} }
func ident(a int) api.Act               { return api.Act{Kind: api.ActIdent, A: a} }
func export(a, i int) api.Act           { return api.Act{Kind: api.ActExport, A: a, I: i} }
func imported(a, i int) api.Act         { return api.Act{Kind: api.ActImport, A: a, I: i} }
func shape(a int) api.Act               { return api.Act{Kind: api.ActShape, A: a} }

// littered returns an act in which all fields are n that its kind does not use.
func littered(a api.Act, n int) api.Act {
	if !usesB(a.Kind) {
		a.B = n
	}
	if !slices.Contains([]int{1, 2, 3, 4, 9, 10}, a.Kind) {
		a.I = n
	}
	if a.Kind != 3 {
		a.N = n
	}
	if a.Kind != 0 {
		a.Shape = api.Shape{Refs: n, Data: n, Kind: n}
	}
	return a
}

// line is all that a call told, as text: lists that are nil and those that are empty are the same.
func line(results ...any) string {
	return fmt.Sprint(results...)
}

// told is all that an act told, as text.
func told(f api.Effect, e api.Errno) string {
	return fmt.Sprintf("told %v, object %d, I %d, old %d, new %d, made %d, loaded %d, error %d", f.Told, f.Object, f.I, f.Old, f.New, f.Made, f.Loaded, e)
}

func newModel(t *testing.T, mutators int) *model.Model {
	t.Helper()
	m, e := model.New(mutators)
	if e != api.OK || m == nil {
		t.Fatalf("New(%d): %v, error %d", mutators, m, e)
	}
	return m
}

// both is a model and the plain one: what is done with the one is done with the other.
type both struct {
	t *testing.T
	m *model.Model
	p *plain
}

func newBoth(t *testing.T, mutators int) both {
	t.Helper()
	return both{t, newModel(t, mutators), newPlain(mutators)}
}

func (b both) clone() both {
	return both{b.t, b.m.Clone(), b.p.clone()}
}

// acts lets a mutator do acts, which must succeed.
func (b both) acts(mutator int, list ...api.Act) {
	b.t.Helper()
	for _, a := range list {
		f, e := b.p.Do(mutator, a)
		if e != api.OK {
			b.t.Fatalf("Do(%d, %v): the test itself is wrong: error %d", mutator, a, e)
		}
		b.expect(mutator, a, f, e)
	}
}

// expect does an act with the model alone; what it must tell is told by the test.
func (b both) expect(mutator int, a api.Act, f api.Effect, e api.Errno) {
	b.t.Helper()
	want := told(f, e)
	if got := told(b.m.Do(mutator, a)); got != want {
		b.t.Fatalf("Do(%d, %v): %s, want %s", mutator, a, got, want)
	}
}

// effect lets mutator 0 do an act, whose effect is told by the test.
func (b both) effect(a api.Act, want api.Effect) {
	b.t.Helper()
	if f, e := b.p.Do(0, a); told(f, e) != told(want, api.OK) {
		b.t.Fatalf("Do(0, %v): the test itself is wrong: %s", a, told(f, e))
	}
	b.expect(0, a, want, api.OK)
	b.same(line("after ", a))
}

// kept checks the kept objects, which are told by the test.
func (b both) kept(want ...int) {
	b.t.Helper()
	if got := b.m.Kept(); !slices.Equal(got, want) {
		b.t.Fatalf("Kept = %v, want %v", got, want)
	}
	b.same("with these kept objects")
}

// collect checks how many objects a collection changes, which is told by the test.
func (b both) collect(want int) {
	b.t.Helper()
	if got := b.p.Collect(); got != want {
		b.t.Fatalf("Collect: the test itself is wrong: %d", got)
	}
	if got := b.m.Collect(); got != want {
		b.t.Fatalf("Collect = %d, want %d", got, want)
	}
	b.same("after a collection")
}

func (b both) push(idents ...int) {
	b.t.Helper()
	for _, n := range idents {
		if e := b.p.Push(n); e != api.OK {
			b.t.Fatalf("Push(%d): the test itself is wrong: error %d", n, e)
		}
		expectError(b.t, line("Push(", n, ")"), b.m.Push(n), api.OK)
	}
}

func (b both) pop(want int) {
	b.t.Helper()
	b.p.Pop()
	n, e := b.m.Pop()
	expectNumber(b.t, "Pop", n, e, want)
}

func (b both) setRef(n, i, to int) {
	b.t.Helper()
	if e := b.p.SetRef(n, i, to); e != api.OK {
		b.t.Fatalf("SetRef(%d, %d, %d): the test itself is wrong: error %d", n, i, to, e)
	}
	expectError(b.t, line("SetRef(", n, i, to, ")"), b.m.SetRef(n, i, to), api.OK)
}

// roots lists what a model tells of its places, and of those next to them, which it has not.
func roots(k keeper) []string {
	var list []string
	for mutator := -1; mutator <= 4; mutator++ {
		for i := -1; i <= 16; i++ {
			n, e := k.Slot(mutator, i)
			list = append(list, line("Slot(", mutator, i, "): ", n, e))
		}
	}
	for i := -1; i <= 16; i++ {
		n, e := k.Global(i)
		list = append(list, line("Global(", i, "): ", n, e))
	}
	return append(list, line("Queue: ", k.Queue()))
}

// object lists what a model tells of one object, and of the words next to those that it has.
func object(k keeper, n int) []string {
	s, e := k.Shape(n)
	list := []string{line("Shape(", n, "): ", s, e)}
	for i := -1; i <= s.Refs; i++ {
		to, e := k.Ref(n, i)
		list = append(list, line("Ref(", n, i, "): ", to, e))
	}
	for i := -1; i <= s.Data; i++ {
		v, e := k.Data(n, i)
		list = append(list, line("Data(", n, i, "): ", v, e))
	}
	return list
}

// objects lists what a model tells of its objects, and of those next to them, which it has not.
func objects(k keeper) []string {
	list := []string{line("Births: ", k.Births(), ", Mutators: ", k.Mutators())}
	for n := -1; n <= k.Births()+1; n++ {
		list = append(list, object(k, n)...)
	}
	return list
}

// state lists all that a model tells.
func state(k keeper) []string {
	return slices.Concat(roots(k), objects(k), []string{line("Kept: ", k.Kept())})
}

func (b both) same(when string) {
	b.t.Helper()
	expectState(b.t, when, b.m, state(b.p))
}

func expectState(t *testing.T, when string, m *model.Model, want []string) {
	t.Helper()
	got := state(m)
	for i := range min(len(got), len(want)) {
		if got[i] != want[i] {
			t.Fatalf("%s: %s, want %s", when, got[i], want[i])
		}
	}
	if len(got) != len(want) {
		t.Fatalf("%s: %d lines of state, want %d", when, len(got), len(want))
	}
}

// refused checks the error of an act, and that it changed nothing (P4.6).
func (b both) refused(mutator int, a api.Act, want api.Errno) {
	b.t.Helper()
	b.expect(mutator, a, api.Effect{}, want)
	b.same(line("after Do(", mutator, a, "), which was refused"))
}

// alone returns an error that has only a zero value beside it, and -1 for any other.
func alone[V comparable](v V, e api.Errno) api.Errno {
	var zero V
	if v != zero {
		return -1
	}
	return e
}

func expectNumber(t *testing.T, what string, got int, e api.Errno, want int) {
	t.Helper()
	if got != want || e != api.OK {
		t.Errorf("%s = %d, error %d, want %d", what, got, e, want)
	}
}

func expectError(t *testing.T, what string, got, want api.Errno) {
	t.Helper()
	if got != want {
		t.Errorf("%s: error %d, want %d", what, got, want)
	}
}
