// Package side is layer 1, side tables of few bits per entry: see shared/doc/01-side.md.
package side

import (
	"slices"

	"dustcart/api"
)

const (
	wordBits = 64
	widths   = 4   // 1, 2, 4 and 8 bits are the first four powers of two
	mostAdd  = 255 // Add takes what could cross the widest entry, whatever the width is
)

// What Merge does with two entries.
const (
	opGreater = 0
	opLesser  = 1
	opMinus   = 2
)

// Table is entries of few bits, packed into words.
//
// All widths divide wordBits, so no entry lies in two words. Bits behind the last entry stay 0, so that equal tables have equal words.
type Table struct {
	entries int
	width   int
	words   []uint64
}

// New returns a table.
func New(entries, width int) (*Table, api.Errno) {
	if entries < 1 || entries > api.MaxEntries || !isWidth(width) {
		return nil, api.ErrArg
	}
	words := (entries*width + wordBits - 1) / wordBits
	return &Table{entries: entries, width: width, words: make([]uint64, words)}, api.OK
}

func isWidth(width int) bool {
	for shift := range widths {
		if width == 1<<shift {
			return true
		}
	}
	return false
}

// made tells a table that a function of this package returned from a zero value: only the latter has no entries.
func (t *Table) made() bool {
	return t != nil && t.entries > 0
}

func (t *Table) greatest() int {
	return 1<<t.width - 1
}

func (t *Table) has(i int) bool {
	return 0 <= i && i < t.entries
}

func (t *Table) fits(v int) bool {
	return 0 <= v && v <= t.greatest()
}

func (t *Table) load(i int) int {
	bit := i * t.width
	return int((t.words[bit/wordBits] >> (bit % wordBits)) & uint64(t.greatest()))
}

func (t *Table) store(i, v int) {
	bit := i * t.width
	at, shift := bit/wordBits, bit%wordBits
	others := t.words[at] &^ (uint64(t.greatest()) << shift)
	t.words[at] = others | uint64(v)<<shift
}

// Get returns an entry.
func (t *Table) Get(i int) int {
	if !t.made() || !t.has(i) {
		return -1
	}
	return t.load(i)
}

// Set lets an entry be a value.
func (t *Table) Set(i, v int) api.Errno {
	if !t.made() {
		return api.ErrState
	}
	if !t.has(i) || !t.fits(v) {
		return api.ErrArg
	}
	t.store(i, v)
	return api.OK
}

// Fill lets all entries of a run be a value.
func (t *Table) Fill(start, size, v int) api.Errno {
	if !t.made() {
		return api.ErrState
	}
	if !t.covers(start, size) || !t.fits(v) {
		return api.ErrArg
	}
	for i := range size {
		t.store(start+i, v)
	}
	return api.OK
}

// covers subtracts, since start + size may be greater than any int.
func (t *Table) covers(start, size int) bool {
	return t.has(start) && size >= 1 && size <= t.entries-start
}

// Swap changes an entry, if it is a value.
func (t *Table) Swap(i, old, v int) (bool, api.Errno) {
	if !t.made() {
		return false, api.ErrState
	}
	if !t.has(i) || !t.fits(old) || !t.fits(v) {
		return false, api.ErrArg
	}
	if t.load(i) != old {
		return false, api.OK
	}
	t.store(i, v)
	return true, api.OK
}

// Add changes an entry by a number, unless it is stuck.
func (t *Table) Add(i, d int) (int, api.Errno) {
	if !t.made() {
		return 0, api.ErrState
	}
	if !t.has(i) || d < -mostAdd || d > mostAdd {
		return 0, api.ErrArg
	}
	v := t.load(i)
	if v == t.greatest() {
		return v, api.OK
	}
	v = min(max(v+d, 0), t.greatest())
	t.store(i, v)
	return v, api.OK
}

// Next returns the first entry from some one on that is a value.
func (t *Table) Next(from, v int) (int, api.Errno) {
	if !t.made() {
		return 0, api.ErrState
	}
	for i := max(from, 0); i < t.entries; i++ {
		if t.load(i) == v {
			return i, api.OK
		}
	}
	return 0, api.ErrNone
}

// Last returns the last entry before some one that is a value.
func (t *Table) Last(before, v int) (int, api.Errno) {
	if !t.made() {
		return 0, api.ErrState
	}
	// Both bounds come ahead of the subtraction: the least int minus 1 would be the greatest one.
	for i := min(max(before, 0), t.entries) - 1; i >= 0; i-- {
		if t.load(i) == v {
			return i, api.OK
		}
	}
	return 0, api.ErrNone
}

// Count returns how many entries are a value.
func (t *Table) Count(v int) int {
	if !t.made() {
		return 0
	}
	count := 0
	for i := range t.entries {
		if t.load(i) == v {
			count++
		}
	}
	return count
}

// Runs returns the maximal runs of entries that are a value.
func (t *Table) Runs(v int) []api.Run {
	if !t.made() {
		return nil
	}
	var runs []api.Run
	for i := range t.entries {
		if t.load(i) == v {
			runs = extended(runs, i)
		}
	}
	return runs
}

// extended adds an entry to the last run if they touch, so that runs are maximal, and begins a new run otherwise.
func extended(runs []api.Run, i int) []api.Run {
	if k := len(runs) - 1; k >= 0 && runs[k].Start+runs[k].Size == i {
		runs[k].Size++
		return runs
	}
	return append(runs, api.Run{Start: i, Size: 1})
}

// Entries returns the number of entries.
func (t *Table) Entries() int {
	if !t.made() {
		return 0
	}
	return t.entries
}

// Width returns the width.
func (t *Table) Width() int {
	if !t.made() {
		return 0
	}
	return t.width
}

// Clone returns a table with the same entries.
func (t *Table) Clone() *Table {
	if !t.made() {
		return nil
	}
	return &Table{entries: t.entries, width: t.width, words: slices.Clone(t.words)}
}

// alike reports whether the entries of two tables can be paired.
func alike(a, b *Table) bool {
	return a.made() && b.made() && a.entries == b.entries && a.width == b.width
}

// Merge returns a table of the entries of two.
func Merge(a, b *Table, op int) (*Table, api.Errno) {
	if !alike(a, b) || op < opGreater || op > opMinus {
		return nil, api.ErrArg
	}
	t := a.Clone()
	for i := range t.entries {
		t.store(i, merged(a.load(i), b.load(i), op))
	}
	return t, api.OK
}

func merged(v, w, op int) int {
	switch op {
	case opGreater:
		return max(v, w)
	case opLesser:
		return min(v, w)
	default:
		return max(v-w, 0)
	}
}

// Same reports whether two tables have equal entries.
func Same(a, b *Table) bool {
	return alike(a, b) && slices.Equal(a.words, b.words)
}
