package side_test

import (
	"math"
	"testing"

	"dustcart/api"
	"dustcart/side"
)

// wrongRuns are runs that are not in a table of n entries, among them those whose Start and Size sum to a number of the table by overflow.
func wrongRuns(n int) []api.Run {
	runs := []api.Run{
		{Start: -1, Size: 1}, {Start: -1, Size: 2}, {Start: -n, Size: n}, {Start: -1, Size: n + 1},
		{Start: 0, Size: 0}, {Start: 0, Size: -1}, {Start: n - 1, Size: 0}, {Start: n, Size: 0}, {Start: n, Size: -1},
		{Start: n, Size: 1}, {Start: n + 1, Size: 1}, {Start: n - 1, Size: 2}, {Start: 0, Size: n + 1},
		{Start: math.MaxInt, Size: math.MaxInt}, {Start: math.MinInt, Size: math.MinInt},
		{Start: math.MinInt, Size: math.MaxInt}, {Start: math.MaxInt, Size: math.MinInt},
		{Start: math.MaxInt, Size: 1 - math.MaxInt}, {Start: 1 - math.MaxInt, Size: math.MaxInt},
	}
	for _, number := range beyond {
		runs = append(runs, api.Run{Start: number, Size: 1}, api.Run{Start: 0, Size: number}, api.Run{Start: n - 1, Size: number})
	}
	return runs
}

func wrongEntries(n int) []int {
	return append([]int{-1, -2, -n, n, n + 1, 2 * n}, beyond...)
}

func wrongValues(most int) []int {
	return append([]int{-1, -2, -most - 1, most + 1, most + 2, 2*most + 2, 256, 1 << 32}, beyond...)
}

// P1.7 and P10: each call is refused with ErrArg and zero values, and leaves the table as it was.
func TestRefused(t *testing.T) {
	eachWidth(func(width, most int) {
		for _, n := range []int{1, 2, 40, 65, api.MaxEntries} {
			l := pattern(n, most, n)
			x := tableOf(t, width, l...)
			refuseEntries(t, x, most)
			expectEntries(t, "after calls for no entry", x, l)
			refuseValues(t, x, most)
			expectEntries(t, "after calls with wrong values", x, l)
			refuseRuns(t, x, most)
			expectEntries(t, "after calls for wrong runs", x, l)
		}
	})
}

func expectArg(t *testing.T, what string, e api.Errno) {
	t.Helper()
	if e != api.ErrArg {
		t.Errorf("%s: error %d", what, e)
	}
}

func refuseEntries(t *testing.T, x *side.Table, most int) {
	t.Helper()
	for _, i := range wrongEntries(x.Entries()) {
		for _, v := range append([]int{0, 1, most}, wrongValues(most)...) {
			expectArg(t, "Set of no entry", x.Set(i, v))
			ok, e := x.Swap(i, v, v)
			expectArg(t, "Swap of no entry", e)
			got, e := x.Add(i, v)
			expectArg(t, "Add to no entry", e)
			if ok || got != 0 {
				t.Errorf("a refused Swap is %t, a refused Add %d", ok, got)
			}
		}
	}
}

func refuseValues(t *testing.T, x *side.Table, most int) {
	t.Helper()
	last := x.Entries() - 1
	for _, i := range []int{0, last} {
		is := x.Get(i)
		for _, v := range wrongValues(most) {
			expectArg(t, "Set of a wrong value", x.Set(i, v))
			expectArg(t, "Fill of a wrong value", x.Fill(i, 1, v))
			expectArg(t, "Fill of all with a wrong value", x.Fill(0, last+1, v))
			for _, pair := range [][2]int{{v, 0}, {v, most}, {is, v}, {most - is, v}, {v, v}} {
				if ok, e := x.Swap(i, pair[0], pair[1]); ok || e != api.ErrArg {
					t.Errorf("Swap(%d, %d, %d): %t, error %d", i, pair[0], pair[1], ok, e)
				}
			}
		}
		for _, d := range append([]int{-256, 256, -257, 257, 512, -512, 1 << 32}, beyond...) {
			if v, e := x.Add(i, d); v != 0 || e != api.ErrArg {
				t.Errorf("Add(%d, %d): %d, error %d", i, d, v, e)
			}
		}
	}
}

func refuseRuns(t *testing.T, x *side.Table, most int) {
	t.Helper()
	for _, run := range wrongRuns(x.Entries()) {
		for _, v := range []int{0, most, -1, most + 1} {
			expectArg(t, "Fill of a wrong run", x.Fill(run.Start, run.Size, v))
		}
	}
}

// A stuck entry is no excuse for a wrong argument.
func TestAddRefusedOfAStuckEntry(t *testing.T) {
	eachWidth(func(width, most int) {
		x := tableOf(t, width, most)
		for _, d := range append([]int{-256, 256}, beyond...) {
			if v, e := x.Add(0, d); v != 0 || e != api.ErrArg || x.Get(0) != most {
				t.Errorf("width %d: Add(0, %d): %d, error %d", width, d, v, e)
			}
		}
	})
}

// ErrNone changes nothing either, and comes with 0.
func TestNoneFoundChangesNothing(t *testing.T) {
	x := tableOf(t, 2, 3, 1, 3)
	if i, e := x.Next(2, 1); i != 0 || e != api.ErrNone {
		t.Errorf("Next: %d, error %d", i, e)
	}
	if i, e := x.Last(1, 1); i != 0 || e != api.ErrNone {
		t.Errorf("Last: %d, error %d", i, e)
	}
	expectEntries(t, "after nothing was found", x, []int{3, 1, 3})
}

// R1: methods of a nil table and of one that no function returned; ErrState is ahead of ErrArg and ErrNone.
func TestTablesThatNoFunctionReturned(t *testing.T) {
	var none *side.Table
	for what, x := range map[string]*side.Table{"nil": none, "zero": {}, "new": new(side.Table)} {
		for range 2 { // the calls change nothing: they answer the same again
			for _, n := range append([]int{-1, 0, 1, 2, 8, 255, 256, api.MaxEntries}, beyond...) {
				expectState(t, what, x, n)
				expectNothing(t, what, x, n)
			}
		}
	}
}

func expectState(t *testing.T, what string, x *side.Table, n int) {
	t.Helper()
	for _, e := range []api.Errno{x.Set(n, 0), x.Set(0, n), x.Set(n, n), x.Fill(n, 1, 0), x.Fill(0, n, 0), x.Fill(0, 1, n), x.Fill(n, n, n)} {
		if e != api.ErrState {
			t.Fatalf("a %s table, number %d: error %d", what, n, e)
		}
	}
	if ok, e := x.Swap(n, n, n); ok || e != api.ErrState {
		t.Errorf("a %s table: Swap(%d) = %t, error %d", what, n, ok, e)
	}
	if v, e := x.Add(n, n); v != 0 || e != api.ErrState {
		t.Errorf("a %s table: Add(%d) = %d, error %d", what, n, v, e)
	}
	if v, e := x.Add(0, 0); v != 0 || e != api.ErrState {
		t.Errorf("a %s table: Add(0, 0) = %d, error %d", what, v, e)
	}
	for _, v := range []int{0, n} {
		if i, e := x.Next(n, v); i != 0 || e != api.ErrState {
			t.Errorf("a %s table: Next(%d, %d) = %d, error %d", what, n, v, i, e)
		}
		if i, e := x.Last(n, v); i != 0 || e != api.ErrState {
			t.Errorf("a %s table: Last(%d, %d) = %d, error %d", what, n, v, i, e)
		}
	}
}

func expectNothing(t *testing.T, what string, x *side.Table, n int) {
	t.Helper()
	if x.Get(n) != -1 {
		t.Errorf("a %s table: Get(%d) = %d", what, n, x.Get(n))
	}
	if x.Count(n) != 0 || len(x.Runs(n)) != 0 || x.Entries() != 0 || x.Width() != 0 {
		t.Errorf("a %s table: Count(%d) = %d, Runs = %v, %d entries of width %d", what, n, x.Count(n), x.Runs(n), x.Entries(), x.Width())
	}
	if x.Clone() != nil {
		t.Errorf("a %s table has a clone", what)
	}
}
