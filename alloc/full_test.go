package alloc_test

import (
	"testing"

	"dustcart/api"
)

// freeRun returns how many free blocks follow one another at the most.
func freeRun(b both) int {
	longest, run := 0, 0
	for block := 1; block < b.h.Blocks(); block++ {
		run++
		if b.h.State(block) != api.BlockFree {
			run = 0
		}
		longest = max(longest, run)
	}
	return longest
}

func largestGap(b both) int {
	largest := 0
	for block := range b.h.Blocks() {
		for _, gap := range b.h.Gaps(block) {
			if b.h.Space(block) == b.p.space {
				largest = max(largest, gap.Size)
			}
		}
	}
	return largest
}

// expectFull expects that ErrFull was right for an object of so many words.
func (b both) expectFull(words int) {
	b.t.Helper()
	switch {
	case words > 32 && 64*freeRun(b) >= words:
		b.t.Fatalf("policy %d: no room for %d words, and %d free blocks follow one another", b.p.policy, words, freeRun(b))
	case words <= 32 && freeRun(b) > 0:
		b.t.Fatalf("policy %d: no room for %d words, and a block is free", b.p.policy, words)
	case words <= 32 && b.p.policy <= Next && largestGap(b) >= words:
		b.t.Fatalf("policy %d: no room for %d words, and a gap has %d", b.p.policy, words, largestGap(b))
	}
}

// overrun tells whether an object of more words than a line does not fit at the cursor, and words at the one for overflow, where it would, are used.
func (b both) overrun(words int) bool {
	at := cursorOf(b.a)
	inHole, inArea := at[1]-at[0] >= words, at[3]-at[2] >= words
	return b.p.policy == Lines && words > 8 && words <= 32 && !inHole && inArea && b.p.room(at[2]) < words
}

// fill allocates until so many calls were refused, while objects are killed now and then; how many objects were placed.
func (b both) fill(d *dice, sizes []int, refusals int) int {
	b.t.Helper()
	placed := 0
	for refusals > 0 {
		words := d.among(sizes...)
		overrun := b.overrun(words)
		switch _, e := b.alloc(sized(words)); {
		case e == api.OK:
			placed++
		case !overrun:
			b.expectFull(words)
			refusals--
		default:
			b.reset()
		}
		if all := b.h.All(); len(all) > 0 && d.next(6) == 0 {
			b.kill(all[d.next(len(all))])
		}
	}
	b.same("when the heap is full")
	return placed
}

// P5.5: objects of all numbers of words, of small ones alone, of those of a line at most, and of those of more.
func TestFull(t *testing.T) {
	for policy := range policies {
		for i, sizes := range [][]int{{2, 4, 6, 8, 10, 12, 16, 20, 26, 30, 32, 34, 64, 66, 130, 202}, {2, 4, 6, 8, 10, 16, 24, 32}, {2, 4, 6, 8}, {10, 12, 20, 32}, {64, 66, 200}} {
			for _, blocks := range []int{2, 3, 10, 20} {
				b, d := newBoth(t, blocks, policy), dice(blocks+i)
				if placed := b.fill(&d, sizes, 10); placed < blocks/5 {
					t.Errorf("policy %d: only %d objects were placed in %d blocks", policy, placed, blocks)
				}
			}
		}
	}
}

// P5.5: with the smallest objects no word of a heap is left, whatever the policy.
func TestFullOfTheSmallest(t *testing.T) {
	for policy := range policies {
		b := newBoth(t, 6, policy)
		for i := range 5 * 32 {
			b.place(2, 64+2*i)
		}
		b.refused(sized(2), api.ErrFull)
		b.refused(sized(34), api.ErrFull)
	}
}

// P5.6: what is refused changes nothing, of full heaps and of others, and the next call is answered as if it had not been.
func TestRefusedAgainAndAgain(t *testing.T) {
	for policy := range policies {
		b, d := newBoth(t, 5, policy), dice(policy)
		b.place(6, 64)
		b.place(130, 128)
		c := b.clone()
		for range 3 {
			c.refused(sized(66), api.ErrFull)
			c.refused(api.Shape{Refs: 16}, api.ErrForm)
		}
		for range 12 {
			words := d.among(4, 8, 10, 16)
			c.refused(sized(202), api.ErrFull)
			c.refused(api.Shape{Data: -1}, api.ErrForm)
			want, e := b.alloc(sized(words))
			if got, err := c.alloc(sized(words)); got != want || err != e {
				t.Fatalf("policy %d: %d, error %d, want %d, error %d", policy, got, err, want, e)
			}
		}
		expectCursor(t, c.a, cursorOf(b.a))
		expectSame(t, "with and without refused calls", c.h, b.h)
	}
}
