package side_test

import (
	"math"
	"slices"
	"testing"

	"dustcart/api"
	"dustcart/side"
)

// entryCounts are the least and the greatest one, and those at which an entry begins or ends a word for some width.
var entryCounts = []int{1, 2, 7, 8, 9, 15, 16, 17, 31, 32, 33, 63, 64, 65, 100, 127, 128, 129, 200, api.MaxEntries - 1, api.MaxEntries}

// beyond are numbers far outside of all ranges, at which a sum, a difference or a shift would overflow.
var beyond = []int{math.MinInt, math.MinInt + 1, math.MinInt32, -1 << 16, 1 << 16, math.MaxInt32, math.MaxInt32 + 1, math.MaxInt - 1, math.MaxInt}

func eachWidth(visit func(width, most int)) {
	for shift := range 4 {
		width := 1 << shift
		visit(width, 1<<width-1)
	}
}

func newTable(t *testing.T, entries, width int) *side.Table {
	t.Helper()
	x, e := side.New(entries, width)
	if e != api.OK || x == nil {
		t.Fatalf("New(%d, %d): %v, error %d", entries, width, x, e)
	}
	return x
}

// tableOf returns a table with these entries.
func tableOf(t *testing.T, width int, entries ...int) *side.Table {
	t.Helper()
	x := newTable(t, len(entries), width)
	for i, v := range entries {
		if e := x.Set(i, v); e != api.OK {
			t.Fatalf("width %d: Set(%d, %d): error %d", width, i, v, e)
		}
	}
	return x
}

func entriesOf(x *side.Table) []int {
	var l []int
	for i := range x.Entries() {
		l = append(l, x.Get(i))
	}
	return l
}

func expectEntries(t *testing.T, what string, x *side.Table, want []int) {
	t.Helper()
	if x.Entries() != len(want) {
		t.Fatalf("%s: %d entries, want %d", what, x.Entries(), len(want))
	}
	for i, v := range want {
		if x.Get(i) != v {
			t.Fatalf("%s: width %d: entry %d is %d, want %d", what, x.Width(), i, x.Get(i), v)
		}
	}
}

// pattern returns entries in which every value can occur, side by side with others and in runs.
func pattern(n, most, seed int) []int {
	l := make([]int, n)
	state := uint32(seed)*2654435761 + 12345
	for i := range l {
		state = state*1664525 + 1013904223
		l[i] = int(state>>16) % (most + 1)
		if i > 0 && state>>9&3 == 0 {
			l[i] = l[i-1]
		}
	}
	return l
}

func wantRuns(l []int, v int) []api.Run {
	var runs []api.Run
	for i := 0; i < len(l); i++ {
		start := i
		for i < len(l) && l[i] == v {
			i++
		}
		if i > start {
			runs = append(runs, api.Run{Start: start, Size: i - start})
		}
	}
	return runs
}

func wantNext(l []int, from, v int) (int, api.Errno) {
	for i, w := range l {
		if i >= from && w == v {
			return i, api.OK
		}
	}
	return 0, api.ErrNone
}

func wantLast(l []int, before, v int) (int, api.Errno) {
	for i := len(l) - 1; i >= 0; i-- {
		if i < before && l[i] == v {
			return i, api.OK
		}
	}
	return 0, api.ErrNone
}

func count(l []int, v int) int {
	n := 0
	for _, w := range l {
		if w == v {
			n++
		}
	}
	return n
}

// The chapter's two examples, in one table as they stand there.
func TestExamples(t *testing.T) {
	x := newTable(t, 10, 2)
	if e := x.Set(3, 2); e != api.OK {
		t.Errorf("Set: error %d", e)
	}
	if e := x.Fill(4, 3, 2); e != api.OK {
		t.Errorf("Fill: error %d", e)
	}
	if l := x.Runs(2); !slices.Equal(l, []api.Run{{Start: 3, Size: 4}}) {
		t.Errorf("Runs(2) = %v", l)
	}
	if n := x.Count(0); n != 6 {
		t.Errorf("Count(0) = %d", n)
	}
	if i, e := x.Next(0, 2); i != 3 || e != api.OK {
		t.Errorf("Next(0, 2) = %d, error %d", i, e)
	}
	if i, e := x.Last(10, 2); i != 6 || e != api.OK {
		t.Errorf("Last(10, 2) = %d, error %d", i, e)
	}
	if v, e := x.Add(3, 5); v != 3 || e != api.OK {
		t.Errorf("Add(3, 5) = %d, error %d", v, e)
	}
	if v, e := x.Add(3, -1); v != 3 || e != api.OK {
		t.Errorf("Add(3, -1) = %d, error %d", v, e)
	}
	if ok, e := x.Swap(4, 1, 0); ok || e != api.OK {
		t.Errorf("Swap(4, 1, 0) = %t, error %d", ok, e)
	}
	if ok, e := x.Swap(4, 2, 0); !ok || e != api.OK {
		t.Errorf("Swap(4, 2, 0) = %t, error %d", ok, e)
	}
	expectEntries(t, "after the examples", x, []int{0, 0, 0, 3, 0, 2, 2, 0, 0, 0})
}

func TestNew(t *testing.T) {
	eachWidth(func(width, most int) {
		for _, n := range entryCounts {
			x := newTable(t, n, width)
			if x.Entries() != n || x.Width() != width {
				t.Errorf("New(%d, %d): %d entries of width %d", n, width, x.Entries(), x.Width())
			}
			expectEntries(t, "New", x, make([]int, n))
		}
	})
}

func TestNewRefused(t *testing.T) {
	wrongEntries := append([]int{0, -1, -2, api.MaxEntries + 1, 2 * api.MaxEntries}, beyond...)
	wrongWidths := append([]int{0, -1, -2, -8, 3, 5, 6, 7, 9, 10, 12, 15, 16, 32, 64, 128, 256}, beyond...)
	refused := func(entries, width int) {
		if x, e := side.New(entries, width); x != nil || e != api.ErrArg {
			t.Errorf("New(%d, %d): %v, error %d", entries, width, x, e)
		}
	}
	for _, entries := range wrongEntries {
		eachWidth(func(width, most int) { refused(entries, width) })
		for _, width := range wrongWidths {
			refused(entries, width)
		}
	}
	for _, width := range wrongWidths {
		for _, entries := range []int{1, 10, api.MaxEntries} {
			refused(entries, width)
		}
	}
}

// P1.1: each entry takes each value, between entries of all zeros, of all ones, and of a pattern.
func TestSetChangesOneEntry(t *testing.T) {
	eachWidth(func(width, most int) {
		const n = 70
		for _, l := range [][]int{make([]int, n), slices.Repeat([]int{most}, n), pattern(n, most, width)} {
			x := tableOf(t, width, l...)
			for i := range n {
				for v := 0; v <= most; v += max(1, most/20) {
					if e := x.Set(i, v); e != api.OK {
						t.Fatalf("width %d: Set(%d, %d): error %d", width, i, v, e)
					}
					l[i] = v
					expectEntries(t, "Set", x, l)
				}
			}
		}
	})
}

func TestSetOfAllEntries(t *testing.T) {
	eachWidth(func(width, most int) {
		for _, n := range entryCounts {
			x := newTable(t, n, width)
			for seed := range 3 { // set again: what was set last counts
				l := pattern(n, most, n+seed)
				for i, v := range l {
					if e := x.Set(i, v); e != api.OK {
						t.Fatalf("width %d: Set(%d, %d): error %d", width, i, v, e)
					}
				}
				expectEntries(t, "Set", x, l)
			}
			if e := x.Set(n-1, most); e != api.OK || x.Get(n-1) != most {
				t.Errorf("width %d: the last entry of %d: %d, error %d", width, n, x.Get(n-1), e)
			}
		}
	})
}

func TestEveryValueOfTheWidestEntry(t *testing.T) {
	x := newTable(t, api.MaxEntries, 8)
	for i := range api.MaxEntries {
		if e := x.Set(i, i%256); e != api.OK {
			t.Fatalf("Set(%d, %d): error %d", i, i%256, e)
		}
	}
	for i := range api.MaxEntries {
		if x.Get(i) != i%256 {
			t.Fatalf("Get(%d) = %d", i, x.Get(i))
		}
	}
}

func TestGetOfNoEntry(t *testing.T) {
	eachWidth(func(width, most int) {
		for _, n := range entryCounts {
			x := newTable(t, n, width)
			x.Fill(0, n, most)
			for _, i := range append([]int{-1, -2, -64, n, n + 1, n + 63, n + 64}, beyond...) {
				if v := x.Get(i); v != -1 {
					t.Errorf("width %d, %d entries: Get(%d) = %d", width, n, i, v)
				}
			}
		}
	})
}

func TestFill(t *testing.T) {
	eachWidth(func(width, most int) {
		const n = 67
		for start := range n {
			for size := 1; size <= n-start; size++ {
				l := pattern(n, most, start)
				x := tableOf(t, width, l...)
				v := (start + size) % (most + 1)
				if e := x.Fill(start, size, v); e != api.OK {
					t.Fatalf("width %d: Fill(%d, %d, %d): error %d", width, start, size, v, e)
				}
				for i := range size {
					l[start+i] = v
				}
				expectEntries(t, "Fill", x, l)
			}
		}
	})
}

func TestFillOfTheGreatestTable(t *testing.T) {
	eachWidth(func(width, most int) {
		const n = api.MaxEntries
		x := newTable(t, n, width)
		for _, run := range []api.Run{{Start: 0, Size: n}, {Start: 0, Size: 1}, {Start: n - 1, Size: 1}, {Start: 1, Size: n - 2}} {
			for _, v := range []int{most, 0, most} {
				before := entriesOf(x)
				if e := x.Fill(run.Start, run.Size, v); e != api.OK {
					t.Fatalf("width %d: Fill(%v, %d): error %d", width, run, v, e)
				}
				for i := range run.Size {
					before[run.Start+i] = v
				}
				expectEntries(t, "Fill", x, before)
			}
		}
	})
}

func TestSwap(t *testing.T) {
	eachWidth(func(width, most int) {
		step := max(1, most/17)
		for is := 0; is <= most; is += step {
			for old := 0; old <= most; old += step {
				for v := 0; v <= most; v += step {
					x := tableOf(t, width, 1, is, most)
					want := is
					if is == old {
						want = v
					}
					if ok, e := x.Swap(1, old, v); ok != (is == old) || e != api.OK {
						t.Fatalf("width %d: Swap(1, %d, %d) of %d: %t, error %d", width, old, v, is, ok, e)
					}
					expectEntries(t, "Swap", x, []int{1, want, most})
				}
			}
		}
	})
}

// P1.4: a stuck entry stays, and no other one leaves the range, whatever is added.
func TestAdd(t *testing.T) {
	eachWidth(func(width, most int) {
		x := newTable(t, 3, width)
		for is := range most + 1 {
			for d := -255; d <= 255; d++ {
				x.Set(0, most)
				x.Set(1, is)
				x.Set(2, 1)
				want := min(max(is+d, 0), most)
				if is == most {
					want = most
				}
				if v, e := x.Add(1, d); v != want || e != api.OK {
					t.Fatalf("width %d: Add(1, %d) of %d: %d, error %d; want %d", width, d, is, v, e, want)
				}
				expectEntries(t, "Add", x, []int{most, want, 1})
			}
		}
	})
}

func TestStuckEntryIsFreedOnlyBySetFillAndSwap(t *testing.T) {
	eachWidth(func(width, most int) {
		for way := range 3 {
			x := newTable(t, 9, width)
			x.Add(8, 255)
			for _, d := range []int{-1, -255, 1, 0, 255} {
				if v, e := x.Add(8, d); v != most || e != api.OK || x.Get(8) != most {
					t.Fatalf("width %d: Add(8, %d) of a stuck entry: %d, error %d", width, d, v, e)
				}
			}
			switch way {
			case 0:
				x.Set(8, 0)
			case 1:
				x.Fill(7, 2, 0)
			case 2:
				x.Swap(8, most, 0)
			}
			if v, e := x.Add(8, 1); x.Count(0) != 8 || v != 1 || e != api.OK {
				t.Errorf("width %d, way %d: Add of a freed entry: %d, error %d", width, way, v, e)
			}
		}
	})
}

// P1.3: all starts, among them those outside of the table, and all values, among them those that no entry can be.
func TestNextAndLast(t *testing.T) {
	eachWidth(func(width, most int) {
		for _, n := range []int{1, 2, 33, 70} {
			l := pattern(n, most, n)
			x := tableOf(t, width, l...)
			var places []int
			for i := -2; i <= n+2; i++ {
				places = append(places, i)
			}
			values := append([]int{-1, 0, 1, l[0], l[n-1], most, most + 1, most + 1 + l[0], l[0] - most - 1, l[0] + 256, l[0] + 1<<32}, l...)
			for _, at := range append(places, beyond...) {
				for _, v := range append(values, beyond...) {
					i, e := x.Next(at, v)
					if want, err := wantNext(l, at, v); i != want || e != err {
						t.Fatalf("width %d, %v: Next(%d, %d) = %d, error %d; want %d, %d", width, l, at, v, i, e, want, err)
					}
					i, e = x.Last(at, v)
					if want, err := wantLast(l, at, v); i != want || e != err {
						t.Fatalf("width %d, %v: Last(%d, %d) = %d, error %d; want %d, %d", width, l, at, v, i, e, want, err)
					}
				}
			}
			expectEntries(t, "Next and Last", x, l)
		}
	})
}

func TestNextAndLastOfTheGreatestTable(t *testing.T) {
	eachWidth(func(width, most int) {
		const n = api.MaxEntries
		x := newTable(t, n, width)
		if _, e := x.Next(0, most); e != api.ErrNone {
			t.Errorf("width %d: Next of no entry: error %d", width, e)
		}
		if _, e := x.Last(n, most); e != api.ErrNone {
			t.Errorf("width %d: Last of no entry: error %d", width, e)
		}
		x.Set(0, most)
		x.Set(n-1, most)
		for _, c := range []struct{ from, next int }{{0, 0}, {1, n - 1}, {n - 1, n - 1}, {math.MinInt, 0}} {
			if i, e := x.Next(c.from, most); i != c.next || e != api.OK {
				t.Errorf("width %d: Next(%d) = %d, error %d", width, c.from, i, e)
			}
		}
		for _, c := range []struct{ before, last int }{{n, n - 1}, {n - 1, 0}, {1, 0}, {math.MaxInt, n - 1}} {
			if i, e := x.Last(c.before, most); i != c.last || e != api.OK {
				t.Errorf("width %d: Last(%d) = %d, error %d", width, c.before, i, e)
			}
		}
		if _, e := x.Next(n, most); e != api.ErrNone {
			t.Errorf("width %d: Next behind the table: error %d", width, e)
		}
		if _, e := x.Last(0, most); e != api.ErrNone {
			t.Errorf("width %d: Last ahead of the table: error %d", width, e)
		}
	})
}

// P1.2 and P1.5, for tables of all sizes and all values.
func TestRunsAndCounts(t *testing.T) {
	eachWidth(func(width, most int) {
		for _, n := range entryCounts {
			l := pattern(n, most, n)
			x := tableOf(t, width, l...)
			total := 0
			for v := range most + 1 {
				expectRuns(t, x, l, v)
				total += x.Count(v)
			}
			if total != n {
				t.Errorf("width %d: the counts of %d entries sum to %d", width, n, total)
			}
			expectEntries(t, "Runs and Count", x, l)
		}
	})
}

func expectRuns(t *testing.T, x *side.Table, l []int, v int) {
	t.Helper()
	runs, sum := x.Runs(v), 0
	if want := wantRuns(l, v); !slices.Equal(runs, want) {
		t.Fatalf("width %d, %d entries: Runs(%d) = %v, want %v", x.Width(), len(l), v, runs, want)
	}
	for _, run := range runs {
		sum += run.Size
	}
	if x.Count(v) != count(l, v) || sum != x.Count(v) {
		t.Fatalf("width %d, %d entries: Count(%d) = %d, the runs sum to %d, want %d", x.Width(), len(l), v, x.Count(v), sum, count(l, v))
	}
}

func TestRunsAtBothEnds(t *testing.T) {
	eachWidth(func(width, most int) {
		for _, n := range []int{1, 2, 3, 64, 65, api.MaxEntries} {
			l := make([]int, n)
			x := newTable(t, n, width)
			expectRuns(t, x, l, 0)
			expectRuns(t, x, l, most)
			for _, i := range []int{0, n - 1, n / 2} {
				l[i] = most
				x.Set(i, most)
				expectRuns(t, x, l, 0)
				expectRuns(t, x, l, most)
			}
			x.Fill(0, n, most)
			if runs := x.Runs(most); !slices.Equal(runs, []api.Run{{Start: 0, Size: n}}) || x.Count(most) != n {
				t.Errorf("width %d: Runs of a table of one value = %v", width, runs)
			}
		}
	})
}

func TestRunsAndCountsOfValuesThatNoEntryCanBe(t *testing.T) {
	eachWidth(func(width, most int) {
		x := tableOf(t, width, 0, most, 1, 0, most)
		for _, v := range append([]int{-1, -most, -most - 1, most + 1, 2*most + 1, 256, 257, 1 << 32, 1<<32 + 1}, beyond...) {
			if x.Count(v) != 0 || len(x.Runs(v)) != 0 {
				t.Errorf("width %d: Count(%d) = %d, Runs = %v", width, v, x.Count(v), x.Runs(v))
			}
		}
	})
}

func TestRunsAreNewMemory(t *testing.T) {
	x := tableOf(t, 1, 1, 0, 1, 0, 1)
	first := x.Runs(1)
	second := x.Runs(1)
	first[0] = api.Run{Start: 9, Size: 9}
	_ = append(first[:1], api.Run{Start: 8, Size: 8})
	want := []api.Run{{Start: 0, Size: 1}, {Start: 2, Size: 1}, {Start: 4, Size: 1}}
	if !slices.Equal(second, want) || !slices.Equal(x.Runs(1), want) {
		t.Errorf("Runs share memory: %v, %v", second, x.Runs(1))
	}
}
