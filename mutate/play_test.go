package mutate_test

import (
	"slices"
	"testing"

	"dustcart/api"
	"dustcart/mutate"
)

// played is what Play told of each act, as text; it must tell of as many as there are.
func (w world) played(list []api.Act, mutators []int) []string {
	w.t.Helper()
	acts, numbers := slices.Clone(list), slices.Clone(mutators)
	effects, errors, e := mutate.Play(w.h, w.r, w.a, list, mutators)
	if e != api.OK || len(effects) != len(list) || len(errors) != len(list) {
		w.t.Fatalf("Play of %d acts: %d effects, %d errors, error %d", len(list), len(effects), len(errors), e)
	}
	if !slices.Equal(acts, list) || !slices.Equal(numbers, mutators) {
		w.t.Fatalf("Play changed its arguments")
	}
	var lines []string
	for i := range effects {
		lines = append(lines, told(effects[i], errors[i]))
	}
	return lines
}

// oneByOne is what Do tells of each act, as text.
func (w world) oneByOne(list []api.Act, mutators []int) []string {
	var lines []string
	for i, a := range list {
		lines = append(lines, w.alone(mutators[i], a))
	}
	return lines
}

// script returns acts of some mutators, and of some that there are not.
func (d *dice) script(n, mutators int) ([]api.Act, []int) {
	var list []api.Act
	var by []int
	for range n {
		list = append(list, d.act())
		by = append(by, d.next(mutators))
		if d.next(50) == 0 {
			by[len(by)-1] = d.among(-1, mutators, 4, 1<<40)
		}
	}
	return list, by
}

func expectLines(t *testing.T, what string, got, want []string) {
	t.Helper()
	for i := range min(len(got), len(want)) {
		if got[i] != want[i] {
			t.Fatalf("%s: act %d: %s, want %s", what, i, got[i], want[i])
		}
	}
	if len(got) != len(want) {
		t.Fatalf("%s: %d acts, want %d", what, len(got), len(want))
	}
}

// P6.4: Play of acts is Do of each, and Play of two lists, one after the other, is Play of both together.
func TestPlayParts(t *testing.T) {
	for policy := range policies {
		for mutators := 1; mutators <= 4; mutators++ {
			d := dice(10*policy + mutators)
			list, by := d.script(api.MaxActs, mutators)
			for _, blocks := range []int{4, 40} { // one is full soon
				first := newWorld(t, blocks, mutators, policy)
				want := first.oneByOne(list, by)
				whole := newWorld(t, blocks, mutators, policy)
				expectLines(t, "Play of all", whole.played(list, by), want)
				whole.unchanged("Play of all, held against Do of each", first.state())
				for _, cut := range []int{0, 1, 700, len(list) - 1, len(list)} {
					parts := newWorld(t, blocks, mutators, policy)
					got := append(parts.played(list[:cut], by[:cut]), parts.played(list[cut:], by[cut:])...)
					expectLines(t, "Play of two lists", got, want)
					parts.unchanged("Play of two lists, held against that of both", first.state())
				}
			}
		}
	}
}

// An act that is refused does not keep those behind it from being done.
func TestPlayGoesOn(t *testing.T) {
	w := newWorld(t, 2, 2, First)
	got := w.played(
		[]api.Act{create(0, link), get(0, 0), store(0, 0, 0), create(1, large), {Kind: 12}, ident(0), create(2, api.Shape{Refs: 16}), load(3, 4, 0), ident(0)},
		[]int{1, 1, 1, 1, 1, 1, 1, 1, 2},
	)
	var want []string
	for _, x := range []struct {
		f api.Effect
		e api.Errno
	}{
		{api.Effect{Made: 64}, api.OK}, {api.Effect{}, api.ErrArg}, {api.Effect{Object: 64, New: 64}, api.OK}, {api.Effect{}, api.ErrFull}, {api.Effect{}, api.ErrArg},
		{api.Effect{Told: []int{1}}, api.OK}, {api.Effect{}, api.ErrForm}, {api.Effect{}, api.ErrNil}, {api.Effect{}, api.ErrArg},
	} {
		want = append(want, told(x.f, x.e))
	}
	expectLines(t, "Play", got, want)
}

// Of no acts nothing is told; nil and empty lists are the same.
func TestPlayNothing(t *testing.T) {
	w := tangled(t)
	before := w.state()
	for _, list := range [][]api.Act{nil, {}} {
		for _, mutators := range [][]int{nil, {}} {
			w.played(list, mutators)
		}
	}
	w.unchanged("after Play of no acts", before)
}

// As many acts as there may be, and one more; as many mutators as acts, and fewer or more.
func TestPlayRefused(t *testing.T) {
	const most = 2000
	w := newWorld(t, 3, 1, First)
	before := w.state()
	for _, x := range []struct {
		acts, mutators int
		want           api.Errno
	}{
		{most + 1, most + 1, api.ErrLong}, {most + 1, most, api.ErrLong}, {most + 1, 0, api.ErrLong}, {2*most + 2, 1, api.ErrLong}, {10 * most, 10 * most, api.ErrLong},
		{most, most - 1, api.ErrForm}, {most, most + 1, api.ErrForm}, {most, 0, api.ErrForm}, {0, 1, api.ErrForm}, {1, 0, api.ErrForm}, {1, 2, api.ErrForm}, {0, most + 1, api.ErrForm},
	} {
		effects, errors, e := mutate.Play(w.h, w.r, w.a, make([]api.Act, x.acts), make([]int, x.mutators))
		if len(effects) != 0 || len(errors) != 0 || e != x.want {
			t.Errorf("Play of %d acts of %d mutators: %d effects, %d errors, error %d, want %d", x.acts, x.mutators, len(effects), len(errors), e, x.want)
		}
	}
	w.unchanged("after Play was refused", before)
	told := w.played(make([]api.Act, most), make([]int, most))
	if w.h.Births() != 64 || !succeeded(told[63]) || succeeded(told[64]) {
		t.Errorf("%d births, %s, %s", w.h.Births(), told[63], told[64])
	}
}

// Results are new memory: they share none with one another, or with later ones.
func TestPlayResults(t *testing.T) {
	w := newWorld(t, 4, 1, First)
	list := []api.Act{create(0, word), ident(0), get(0, 0), shape(0), ident(0), shape(0)}
	effects, errors, _ := mutate.Play(w.h, w.r, w.a, list, make([]int, len(list)))
	for i := range effects {
		f := effects[i]
		if len(f.Told) > 0 {
			effects[i].Told = append(f.Told[:0], -8)
			_ = append(f.Told, -9)
		}
		errors[i] = -1
	}
	for i, want := range [][]int{nil, {-8}, {-8}, {-8}, {-8}, {-8}} {
		if !slices.Equal(effects[i].Told, want) {
			t.Errorf("effect %d: %v", i, effects[i].Told)
		}
	}
	again, _, _ := mutate.Play(w.h, w.r, w.a, list[1:], make([]int, len(list)-1))
	for i, want := range [][]int{{1}, {0}, {0, 1, 0}, {1}, {0, 1, 0}} {
		if !slices.Equal(again[i].Told, want) {
			t.Errorf("again: effect %d: %v, want %v", i, again[i].Told, want)
		}
	}
}
