package side_test

import (
	"testing"

	"dustcart/api"
	"dustcart/side"
)

// model is a table as plain numbers: acts are done with both, and their entries compared.
type model struct {
	width   int
	entries []int
}

// A long run of acts of all kinds, held against the model after each one.
func TestActsAgainstTheModel(t *testing.T) {
	eachWidth(func(width, most int) {
		for _, n := range []int{1, 5, 64, 90} {
			m := model{width: width, entries: make([]int, n)}
			x := newTable(t, n, width)
			numbers := pattern(2400, 1<<15-1, n+width)
			for k := 0; k < len(numbers); k += 4 {
				actBoth(t, x, &m, numbers[k:k+4])
				expectEntries(t, "acts", x, m.entries)
			}
		}
	})
}

// actBoth does one act with a table and with its model; some of its numbers are outside of their ranges.
func actBoth(t *testing.T, x *side.Table, m *model, numbers []int) {
	t.Helper()
	n, most := len(m.entries), 1<<m.width-1
	i, v, w := numbers[1]%(n+1), numbers[2]%(most+2), numbers[3]%(most+1)
	entry, value := i < n, v <= most
	ok := entry && value
	var e api.Errno
	switch numbers[0] % 4 {
	case 0:
		e = x.Set(i, v)
		if ok {
			m.entries[i] = v
		}
	case 1:
		size := w % (n + 1)
		ok = ok && size > 0 && i+size <= n
		e = x.Fill(i, size, v)
		for k := range size {
			if ok {
				m.entries[i+k] = v
			}
		}
	case 2:
		var swapped bool
		swapped, e = x.Swap(i, w, v)
		if swapped != (ok && m.entries[i] == w) {
			t.Fatalf("Swap(%d, %d, %d) = %t", i, w, v, swapped)
		}
		if swapped {
			m.entries[i] = v
		}
	case 3:
		ok = entry
		_, e = x.Add(i, w-most/2)
		if entry && m.entries[i] != most {
			m.entries[i] = min(max(m.entries[i]+w-most/2, 0), most)
		}
	}
	if ok != (e == api.OK) || !ok && e != api.ErrArg {
		t.Fatalf("act %v: error %d", numbers, e)
	}
}
