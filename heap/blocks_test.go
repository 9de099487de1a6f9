package heap_test

import (
	"slices"
	"testing"

	"dustcart/api"
)

func TestClaim(t *testing.T) {
	for _, blocks := range []int{2, 3, 10, api.MaxBlocks} {
		for _, block := range []int{1, blocks / 2, blocks - 1} {
			for space := range api.MaxSpaces {
				b := newBoth(t, blocks)
				b.claim(block, space)
				if b.h.State(block) != api.BlockUsed || b.h.Space(block) != space {
					t.Errorf("block %d: state %d, space %d", block, b.h.State(block), b.h.Space(block))
				}
				b.same("Claim")
			}
		}
	}
}

func TestClaimLarge(t *testing.T) {
	const blocks = 8
	for first := 1; first < blocks; first++ {
		for n := 1; first+n <= blocks; n++ {
			b := newBoth(t, blocks)
			b.claimLarge(first, n, n%api.MaxSpaces)
			for i := range n {
				want := api.BlockTail
				if i == 0 {
					want = api.BlockHead
				}
				if b.h.State(first+i) != want || b.h.Space(first+i) != n%api.MaxSpaces {
					t.Errorf("ClaimLarge(%d, %d): block %d: state %d, space %d", first, n, first+i, b.h.State(first+i), b.h.Space(first+i))
				}
			}
			b.same("ClaimLarge")
		}
	}
	b := newBoth(t, api.MaxBlocks)
	b.claimLarge(1, api.MaxBlocks-1, 7)
	b.same("ClaimLarge of all blocks")
}

// A claimed block of any state is taken, wherever it is in what is to be claimed, and also if its space is 0.
func TestClaimOfTakenBlocks(t *testing.T) {
	for _, space := range []int{0, 5} {
		b := newBoth(t, 9)
		b.claim(2, space)
		b.claimLarge(5, 2, space)
		b.same("before")
		for _, block := range []int{2, 5, 6} {
			for other := range api.MaxSpaces {
				b.refused("Claim of a taken block", b.h.Claim(block, other), api.ErrTaken)
				b.refused("ClaimLarge of a taken block", b.h.ClaimLarge(block, 1, other), api.ErrTaken)
			}
		}
		for _, run := range []api.Run{{Start: 1, Size: 2}, {Start: 1, Size: 8}, {Start: 2, Size: 2}, {Start: 3, Size: 3}, {Start: 4, Size: 2}, {Start: 6, Size: 3}} {
			b.refused("ClaimLarge of taken blocks", b.h.ClaimLarge(run.Start, run.Size, 1), api.ErrTaken)
		}
		b.claimLarge(3, 2, 1)
		b.claimLarge(7, 2, 1)
		b.claim(1, 1)
		b.same("what was free could be claimed")
	}
}

func TestReleaseAndClaimAgain(t *testing.T) {
	b := newBoth(t, 9)
	b.claim(1, 7)
	b.claimLarge(2, 3, 6)
	b.claimLarge(5, 1, 5)
	b.claimLarge(6, 2, 4)
	b.claim(8, 3)
	for _, block := range []int{2, 5, 1, 8, 6} { // the tails of one head end where another one, or a used or free block, follows
		b.do("Release", func(x memory) api.Errno { return x.Release(block) })
		b.same("Release")
		b.refused("a second Release", b.h.Release(block), api.ErrState)
	}
	b.claimLarge(1, 8, 1)
	b.same("ClaimLarge of released blocks")
	b.do("Release", func(x memory) api.Errno { return x.Release(1) })
	b.same("Release of the longest run")
}

func TestReleaseOfBlocksWithObjects(t *testing.T) {
	b := newBoth(t, 6)
	b.claim(1, 2)
	b.claimLarge(2, 3, 3)
	for _, addr := range []int{64, 100, 126} {
		b.place(addr, api.Shape{})
		b.refused("Release of a block with an object", b.h.Release(1), api.ErrTaken)
		b.kill(addr)
	}
	b.place(128, api.Shape{Data: 180})
	b.refused("Release of a head with an object", b.h.Release(2), api.ErrTaken)
	b.refused("Release of a tail of an object", b.h.Release(3), api.ErrState)
	b.refused("Release of a tail of an object", b.h.Release(4), api.ErrState)
	b.kill(128)
	for _, block := range []int{1, 2} {
		b.do("Release", func(x memory) api.Errno { return x.Release(block) })
		b.same("Release")
	}
}

func TestRetag(t *testing.T) {
	b := newBoth(t, 8)
	b.claim(1, 0)
	b.claimLarge(2, 3, 1)
	b.claimLarge(5, 2, 1)
	b.place(64, api.Shape{Data: 3})
	b.place(128, api.Shape{Data: 150})
	for _, block := range []int{1, 2, 5} { // with and without objects
		for space := range api.MaxSpaces {
			b.do("Retag", func(x memory) api.Errno { return x.Retag(block, space) })
			if b.h.Space(block) != space {
				t.Errorf("Retag(%d, %d): space %d", block, space, b.h.Space(block))
			}
			b.same("Retag")
		}
	}
}

func TestBlocksThatAreNone(t *testing.T) {
	b := filled(t)
	for _, block := range append([]int{-1, -2, -9, 9, 10, 64, 576}, beyond...) {
		if b.h.State(block) != -1 || b.h.Space(block) != -1 {
			t.Errorf("block %d: state %d, space %d", block, b.h.State(block), b.h.Space(block))
		}
		if len(b.h.Objects(block)) != 0 || len(b.h.Gaps(block)) != 0 || len(b.h.Lines(block)) != 0 {
			t.Errorf("block %d: %v, %v, %v", block, b.h.Objects(block), b.h.Gaps(block), b.h.Lines(block))
		}
	}
	if b.h.State(0) != api.BlockFree || b.h.Space(0) != 0 || len(b.h.Gaps(0)) != 0 || len(b.h.Lines(0)) != 0 {
		t.Errorf("block 0: state %d, space %d, %v, %v", b.h.State(0), b.h.Space(0), b.h.Gaps(0), b.h.Lines(0))
	}
}

// P2.2: an empty block is one gap, a full one has none, and free, head and tail blocks have none either.
func TestGaps(t *testing.T) {
	b := newBoth(t, 7)
	b.claim(1, 0)
	b.claim(2, 0)
	b.claim(6, 0)
	b.claimLarge(3, 2, 0)
	expectGaps(t, b.h, 1, api.Run{Start: 64, Size: 64})
	expectGaps(t, b.h, 2, api.Run{Start: 128, Size: 64})
	expectGaps(t, b.h, 6, api.Run{Start: 384, Size: 64})
	for _, block := range []int{3, 4, 5} {
		expectGaps(t, b.h, block)
	}
	b.place(64, api.Shape{Data: 30})
	b.place(96, api.Shape{Data: 30})
	b.place(130, api.Shape{Data: 1})
	b.place(134, api.Shape{})
	b.place(190, api.Shape{})
	expectGaps(t, b.h, 1)
	expectGaps(t, b.h, 2, api.Run{Start: 128, Size: 2}, api.Run{Start: 136, Size: 54})
	b.kill(130)
	expectGaps(t, b.h, 2, api.Run{Start: 128, Size: 6}, api.Run{Start: 136, Size: 54})
	b.kill(134)
	expectGaps(t, b.h, 2, api.Run{Start: 128, Size: 62})
	b.place(192, api.Shape{Data: 100})
	expectGaps(t, b.h, 3)
	expectGaps(t, b.h, 4)
	b.same("gaps")
}

// expectLines expects that just these lines of a block are occupied.
func expectLines(t *testing.T, b both, block int, want ...int) {
	t.Helper()
	lines := make([]bool, api.BlockLines)
	for _, line := range want {
		lines[line] = true
	}
	if got := b.h.Lines(block); !slices.Equal(got, lines) {
		t.Errorf("Lines(%d) = %v, want %v", block, got, want)
	}
}

// P2.5: objects that end and begin with a line, those that have just their first or last words in one, and one that has in its last line one word, and the one that makes its words even.
func TestLines(t *testing.T) {
	for _, c := range []struct {
		addr int
		s    api.Shape
		want []int
	}{
		{128, api.Shape{}, []int{0}},
		{128, api.Shape{Data: 6}, []int{0}},
		{128, api.Shape{Data: 7}, []int{0, 1}},
		{128, api.Shape{Data: 8}, []int{0, 1}},
		{134, api.Shape{}, []int{0}},
		{134, api.Shape{Data: 1}, []int{0, 1}},
		{134, api.Shape{Refs: 2}, []int{0, 1}},
		{136, api.Shape{}, []int{1}},
		{136, api.Shape{Refs: 3, Data: 3}, []int{1}},
		{142, api.Shape{Data: 9}, []int{1, 2, 3}},
		{142, api.Shape{Data: 8}, []int{1, 2}},
		{160, api.Shape{Data: 30}, []int{4, 5, 6, 7}},
		{158, api.Shape{Data: 30}, []int{3, 4, 5, 6, 7}},
		{190, api.Shape{}, []int{7}},
		{182, api.Shape{Data: 8}, []int{6, 7}},
	} {
		b := newBoth(t, 4)
		for block := 1; block < 4; block++ {
			b.claim(block, 0)
		}
		b.place(c.addr, c.s)
		expectLines(t, b, 2, c.want...)
		expectLines(t, b, 1)
		expectLines(t, b, 3)
		b.same("lines")
		b.kill(c.addr)
		expectLines(t, b, 2)
	}
}

func TestLinesOfOtherBlocks(t *testing.T) {
	b := newBoth(t, 5)
	b.claimLarge(2, 2, 0)
	b.place(128, api.Shape{Data: 100})
	for block := range 5 {
		if l := b.h.Lines(block); len(l) != 0 {
			t.Errorf("Lines(%d) = %v", block, l)
		}
	}
}

func TestObjects(t *testing.T) {
	b := newBoth(t, 7)
	for _, block := range []int{1, 2, 6} {
		b.claim(block, block)
	}
	b.claimLarge(3, 2, 1)
	for _, addr := range []int{190, 128, 64, 126, 384, 446} { // not rising, and at both ends of blocks
		b.place(addr, api.Shape{})
	}
	b.place(192, api.Shape{Data: 120})
	for block, want := range [][]int{nil, {64, 126}, {128, 190}, {192}, nil, nil, {384, 446}} {
		if got := b.h.Objects(block); !slices.Equal(got, want) {
			t.Errorf("Objects(%d) = %v, want %v", block, got, want)
		}
	}
	if got := b.h.All(); !slices.Equal(got, []int{64, 126, 128, 190, 192, 384, 446}) {
		t.Errorf("All = %v", got)
	}
	b.same("objects")
}
