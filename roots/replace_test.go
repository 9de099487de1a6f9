package roots_test

import (
	"slices"
	"testing"

	"dustcart/api"
)

// whats returns what all places are, in order.
func whats(b both) []int {
	var list []int
	for _, p := range b.m.all() {
		n, _ := b.r.Get(p)
		list = append(list, n)
	}
	return list
}

// P3.4: exchanging two addresses exchanges them, and doing it twice restores everything.
func TestReplaceExchanges(t *testing.T) {
	b := filled(t)
	before := whats(b)
	b.replace([]int{64, 70}, []int{70, 64}, 6)
	b.same("after an exchange")
	n, e := b.r.Get(slot(0, 0))
	expectNumber(t, "a slot that was 64", n, e, 70)
	n, e = b.r.Get(global(15))
	expectNumber(t, "a global that was 70", n, e, 64)
	n, e = b.r.Get(queued(0))
	expectNumber(t, "an element that was 64", n, e, 70)
	b.replace([]int{64, 70}, []int{70, 64}, 6)
	if got := whats(b); !slices.Equal(got, before) {
		t.Errorf("after two exchanges: %v, want %v", got, before)
	}
}

// A ring of all addresses, in both directions: each place moves on by one step, not further.
func TestReplaceInARing(t *testing.T) {
	b := newBoth(t, 4)
	for range 64 {
		b.push(1)
	}
	for i, p := range b.m.all() {
		b.set(p, i%12+1)
	}
	before := whats(b)
	ring := []int{1, 2, 3, 4, 5, 6, 7, 8, 9, 10, 11, 12}
	up := []int{2, 3, 4, 5, 6, 7, 8, 9, 10, 11, 12, 1}
	down := []int{12, 1, 2, 3, 4, 5, 6, 7, 8, 9, 10, 11}
	b.replace(ring, up, 144)
	b.same("one step up")
	b.replace(ring, down, 144)
	if got := whats(b); !slices.Equal(got, before) {
		t.Errorf("up and down: %v, want %v", got, before)
	}
	for range 12 {
		b.replace(ring, down, 144)
		b.same("one step down")
	}
	if got := whats(b); !slices.Equal(got, before) {
		t.Errorf("twelve steps down: %v, want %v", got, before)
	}
}

// Replacing back restores everything, if the new addresses are different and were in no place.
func TestReplaceBack(t *testing.T) {
	b := filled(t)
	before := whats(b)
	b.replace([]int{64, 70, 90, 110}, []int{201, 202, 203, 204}, 8)
	b.same("replaced")
	if slices.Equal(whats(b), before) {
		t.Errorf("nothing was replaced")
	}
	b.replace([]int{201, 202, 203, 204}, []int{64, 70, 90, 110}, 8)
	if got := whats(b); !slices.Equal(got, before) {
		t.Errorf("replaced back: %v, want %v", got, before)
	}
}

// A chain: what became 70 stays 70, even though 70 is replaced, too.
func TestReplaceInAChain(t *testing.T) {
	b := filled(t)
	b.replace([]int{64, 70, 90, 100}, []int{70, 90, 100, 1}, 8)
	b.same("up a chain")
	if got := b.r.Queue(); !slices.Equal(got, []int{70, 90, 100, 80}) {
		t.Errorf("Queue = %v", got)
	}
	b = filled(t)
	b.replace([]int{70, 90, 100}, []int{64, 70, 90}, 5)
	b.same("down a chain")
}

// Several addresses become one, and an address becomes itself: such places count.
func TestReplaceByTheSame(t *testing.T) {
	b := filled(t)
	b.replace([]int{64, 70}, []int{70, 70}, 6)
	b.same("two became one")
	b = filled(t)
	before := whats(b)
	b.replace([]int{64, 65, 70}, []int{64, 65, 70}, 6)
	if got := whats(b); !slices.Equal(got, before) {
		t.Errorf("replaced by the same: %v, want %v", got, before)
	}
}

// Each place counts, but no empty one, and no number of `from` that is in no place.
func TestReplaceCounts(t *testing.T) {
	b := filled(t)
	b.replace(nil, nil, 0)
	b.replace([]int{}, nil, 0)
	b.replace(nil, []int{}, 0)
	b.same("lists of no addresses")
	b.replace([]int{1}, []int{2}, 0)
	b.replace([]int{63, 65, 71, 89, 111}, []int{1, 1, 1, 1, 1}, 0)
	b.same("addresses in no place")
	b.replace([]int{1, 80, 111}, []int{111, 81, 80}, 1)
	b.same("one of the queue alone")
	b.replace([]int{100}, []int{101}, 1)
	b.same("a slot alone")
	b.replace([]int{110}, []int{111}, 1)
	b.same("a global alone")

	empty := newBoth(t, 2)
	empty.replace([]int{1, 2, 3}, []int{4, 5, 6}, 0)
	empty.same("of empty roots")
}

// The first, the middle and the last one of a long list, of odd and of even length, are all found.
func TestReplaceByLongLists(t *testing.T) {
	for length := 1; length <= 40; length++ {
		b := newBoth(t, 4)
		for i := range 64 {
			b.push(3*i + 3)
		}
		var from, to []int
		for i := range length {
			from = append(from, 3*i+3)
			to = append(to, 1000-i)
		}
		b.replace(from, to, length)
		b.same("after a long list")
	}
	b := newBoth(t, 1)
	b.set(slot(0, 7), beyond[len(beyond)-1])
	b.set(global(7), 1)
	last := beyond[len(beyond)-1]
	b.replace([]int{1, 2, last - 1, last}, []int{last, 5, 6, 1}, 2)
	b.same("after the greatest address")
}

// What Replace changed is popped changed.
func TestPopAfterReplace(t *testing.T) {
	b := newBoth(t, 1)
	b.push(5, 6, 7, 5)
	b.pop(5)
	b.replace([]int{5, 6}, []int{6, 5}, 2)
	b.pop(5)
	b.pop(7)
	b.pop(6)
}

func TestReplaceRefused(t *testing.T) {
	cases := [][2][]int{
		{{64}, {}}, {{}, {64}}, {nil, {64}}, {{64}, nil}, {{64, 70}, {1}}, {{64}, {1, 2}}, {{64, 70, 90}, {1, 2, 3, 4}}, // of different lengths
		{{0}, {1}}, {{-1}, {1}}, {{0, 64}, {1, 2}}, {{-64, 64}, {1, 2}}, {{64, 0}, {1, 2}}, // numbers of `from`
		{{64}, {0}}, {{64}, {-1}}, {{64, 70}, {0, 2}}, {{64, 70}, {2, 0}}, {{64, 70, 90}, {1, -1, 2}}, {{1}, {0}}, // numbers of `to`
		{{64, 64}, {1, 2}}, {{64, 64}, {1, 1}}, {{70, 64}, {1, 2}}, {{64, 90, 70}, {1, 2, 3}}, {{64, 70, 70}, {1, 2, 3}}, {{1, 2, 1}, {3, 4, 5}}, // not rising
	}
	for _, n := range beyond {
		if n < 0 {
			cases = append(cases, [2][]int{{n}, {64}}, [2][]int{{64}, {n}}, [2][]int{{n, 64}, {1, 2}}, [2][]int{{64, 70}, {70, n}}, [2][]int{{n}, {n}})
		} else {
			cases = append(cases, [2][]int{{n, 64}, {1, 2}}, [2][]int{{n, n}, {1, 2}}, [2][]int{{64, n, -n}, {1, 2, 3}})
		}
	}
	b := filled(t)
	for _, c := range cases {
		n, e := b.r.Replace(c[0], c[1])
		if n != 0 || e != api.ErrArg {
			t.Errorf("Replace(%v, %v) = %d, error %d", c[0], c[1], n, e)
		}
		b.same("after Replace was refused")
	}
}
