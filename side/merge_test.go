package side_test

import (
	"testing"

	"dustcart/api"
	"dustcart/side"
)

func merge(t *testing.T, a, b *side.Table, op int) *side.Table {
	t.Helper()
	x, e := side.Merge(a, b, op)
	if e != api.OK || x == nil {
		t.Fatalf("Merge, op %d: %v, error %d", op, x, e)
	}
	return x
}

func wantMerged(l, m []int, op int) []int {
	want := make([]int, len(l))
	for i := range l {
		want[i] = []int{max(l[i], m[i]), min(l[i], m[i]), max(l[i]-m[i], 0)}[op]
	}
	return want
}

func TestMerge(t *testing.T) {
	eachWidth(func(width, most int) {
		for _, n := range entryCounts {
			l, m := pattern(n, most, 1), pattern(n, most, 2)
			a, b := tableOf(t, width, l...), tableOf(t, width, m...)
			for op := range 3 {
				x := merge(t, a, b, op)
				if x.Entries() != n || x.Width() != width {
					t.Fatalf("Merge: %d entries of width %d", x.Entries(), x.Width())
				}
				expectEntries(t, "Merge", x, wantMerged(l, m, op))
			}
			expectEntries(t, "the first table that was merged", a, l)
			expectEntries(t, "the second table that was merged", b, m)
		}
	})
}

// Each pair of values, so that no pair borrows from or carries into its neighbours.
func TestMergeOfAllPairs(t *testing.T) {
	eachWidth(func(width, most int) {
		for v := range most + 1 {
			var l, m []int
			for w := range most + 1 {
				l, m = append(l, v), append(m, w)
			}
			a, b := tableOf(t, width, l...), tableOf(t, width, m...)
			for op := range 3 {
				expectEntries(t, "Merge", merge(t, a, b, op), wantMerged(l, m, op))
				expectEntries(t, "Merge", merge(t, b, a, op), wantMerged(m, l, op))
			}
		}
	})
}

// P1.6: the order does not matter for op 0 and 1; a table merged with itself is known.
func TestMergeOrderAndItself(t *testing.T) {
	eachWidth(func(width, most int) {
		a := tableOf(t, width, pattern(150, most, 3)...)
		b := tableOf(t, width, pattern(150, most, 4)...)
		for op := range 2 {
			if !side.Same(merge(t, a, b, op), merge(t, b, a, op)) {
				t.Errorf("width %d, op %d: Merge depends on the order", width, op)
			}
			for _, other := range []*side.Table{a, a.Clone()} {
				if !side.Same(merge(t, a, other, op), a) {
					t.Errorf("width %d, op %d: a table merged with itself differs", width, op)
				}
			}
		}
		for _, other := range []*side.Table{a, a.Clone()} {
			if x := merge(t, a, other, 2); x.Count(0) != 150 {
				t.Errorf("width %d: a table minus itself is not 0: %v", width, entriesOf(x))
			}
		}
	})
}

func TestMergeRefused(t *testing.T) {
	a, b := newTable(t, 64, 2), newTable(t, 64, 2)
	var none *side.Table
	refused := func(what string, a, b *side.Table, op int) {
		if x, e := side.Merge(a, b, op); x != nil || e != api.ErrArg {
			t.Errorf("Merge of %s, op %d: %v, error %d", what, op, x, e)
		}
	}
	for _, op := range append([]int{-1, -2, 3, 4, 256}, beyond...) {
		refused("two tables", a, b, op)
		refused("a table with itself", a, a, op)
	}
	for op := range 3 {
		for what, other := range map[string]*side.Table{
			"fewer entries":    newTable(t, 63, 2),
			"one entry more":   newTable(t, 65, 2),
			"a lesser width":   newTable(t, 64, 1),
			"a greater width":  newTable(t, 64, 4),
			"as many words":    newTable(t, 128, 1),
			"a nil table":      none,
			"a table not made": {},
		} {
			refused(what, a, other, op)
			refused(what, other, a, op)
		}
		refused("two nil tables", none, none, op)
		refused("two tables not made", &side.Table{}, &side.Table{}, op)
	}
	expectEntries(t, "a table that was not merged", a, make([]int, 64))
}

func TestMergedTableIsNew(t *testing.T) {
	for op := range 3 {
		a, b := tableOf(t, 4, 1, 2, 3), tableOf(t, 4, 1, 2, 3)
		x := merge(t, a, b, op)
		was := entriesOf(x)
		a.Fill(0, 3, 9)
		b.Fill(0, 3, 8)
		expectEntries(t, "a merged table after its sources changed", x, was)
		x.Fill(0, 3, 7)
		expectEntries(t, "the first source after the merged table changed", a, []int{9, 9, 9})
		expectEntries(t, "the second source after the merged table changed", b, []int{8, 8, 8})
	}
}

// Results of Merge and Clone are tables like those of New: all functions take them.
func TestMergedAndClonedTablesAreTables(t *testing.T) {
	a := tableOf(t, 2, 1, 3, 0)
	for _, x := range []*side.Table{merge(t, a, a, 0), a.Clone(), merge(t, a, a, 1).Clone(), merge(t, a.Clone(), a, 0)} {
		if !side.Same(x, a) || !side.Same(merge(t, x, a, 1), x) {
			t.Fatalf("%v is not %v", entriesOf(x), entriesOf(a))
		}
		if e := x.Set(3, 0); e != api.ErrArg {
			t.Errorf("Set behind the table: error %d", e)
		}
		if v, e := x.Add(1, -1); v != 3 || e != api.OK {
			t.Errorf("Add of a stuck entry: %d, error %d", v, e)
		}
		if e := x.Fill(0, 3, 2); e != api.OK || x.Count(2) != 3 {
			t.Errorf("Fill: error %d", e)
		}
	}
	expectEntries(t, "the table from which they were made", a, []int{1, 3, 0})
}

func TestSame(t *testing.T) {
	eachWidth(func(width, most int) {
		for _, n := range []int{1, 2, 64, 65, 200, api.MaxEntries} {
			l := pattern(n, most, n)
			a, b := tableOf(t, width, l...), tableOf(t, width, l...)
			if !side.Same(a, a) || !side.Same(a, b) || !side.Same(b, a) {
				t.Fatalf("width %d: equal tables of %d entries are not the same", width, n)
			}
			for _, i := range []int{0, n / 2, n - 1} {
				b.Set(i, most-l[i])
				if side.Same(a, b) || side.Same(b, a) {
					t.Errorf("width %d: tables that differ at %d of %d are the same", width, i, n)
				}
				b.Set(i, l[i])
			}
			if !side.Same(a, b) {
				t.Errorf("width %d: tables that are equal again are not the same", width)
			}
		}
	})
}

// Equality is of the entries alone, not of the ways by which they came to be.
func TestSameWhateverWasThere(t *testing.T) {
	eachWidth(func(width, most int) {
		a, b := newTable(t, 13, width), newTable(t, 13, width)
		b.Fill(0, 13, most)
		b.Add(12, -1)
		b.Swap(0, most, 0)
		b.Fill(0, 13, 0)
		if !side.Same(a, b) || !side.Same(b, a.Clone()) {
			t.Errorf("width %d: two tables of zeros are not the same", width)
		}
	})
}

func TestNotSame(t *testing.T) {
	var none *side.Table
	made := newTable(t, 64, 2)
	for what, other := range map[string]*side.Table{
		"fewer entries":    newTable(t, 63, 2),
		"more entries":     newTable(t, 65, 2),
		"a lesser width":   newTable(t, 64, 1),
		"a greater width":  newTable(t, 64, 8),
		"as many words":    newTable(t, 128, 1),
		"a nil table":      none,
		"a table not made": {},
	} {
		if side.Same(made, other) || side.Same(other, made) {
			t.Errorf("a table is the same as one of %s", what)
		}
	}
	zero := &side.Table{}
	if side.Same(none, none) || side.Same(zero, zero) || side.Same(none, zero) || side.Same(zero, &side.Table{}) {
		t.Errorf("tables that no function returned are the same")
	}
}

// P1.8: whatever is done with the one, the other stays.
func TestClone(t *testing.T) {
	changes := map[string]func(x *side.Table, most int){
		"Set":  func(x *side.Table, most int) { x.Set(0, most); x.Set(0, 0) },
		"Fill": func(x *side.Table, most int) { x.Fill(0, x.Entries(), most) },
		"Swap": func(x *side.Table, most int) { x.Swap(0, x.Get(0), most-x.Get(0)) },
		"Add":  func(x *side.Table, most int) { x.Set(0, 0); x.Add(0, most); x.Add(x.Entries()-1, -1) },
	}
	eachWidth(func(width, most int) {
		for _, n := range entryCounts {
			l := pattern(n, most, n)
			for what, change := range changes {
				x := tableOf(t, width, l...)
				c := x.Clone()
				if c.Entries() != n || c.Width() != width || !side.Same(c, x) {
					t.Fatalf("a clone of %d entries of width %d differs", n, width)
				}
				change(c, most)
				expectEntries(t, "a table after "+what+" of its clone", x, l)
				c = x.Clone()
				change(x, most)
				expectEntries(t, "a clone after "+what+" of its table", c, l)
			}
		}
	})
}

func TestCloneOfAClone(t *testing.T) {
	x := tableOf(t, 8, 250, 3, 255)
	c := x.Clone()
	d := c.Clone()
	c.Set(0, 1)
	d.Set(0, 2)
	expectEntries(t, "the table", x, []int{250, 3, 255})
	expectEntries(t, "the clone", c, []int{1, 3, 255})
	expectEntries(t, "the clone's clone", d, []int{2, 3, 255})
}
