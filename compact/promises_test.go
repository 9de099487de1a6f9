package compact_test

import (
	"slices"

	"dustcart/api"
)

// promised checks what the promises say of Collect, or of Space, of a heap that was as before.
func (w world) promised(before world, space int, x api.Report, list []api.Move) {
	w.t.Helper()
	if got := w.idents(); !slices.Equal(got, before.kept()) { // P10.1
		w.t.Errorf("there are %v, but %v were kept", got, before.kept())
	}
	w.reported(before, x, list)
	w.moved(before, list)
	w.fixed(before, space)
	w.noEmptyBlocks()
	for s := range api.MaxSpaces {
		if (space == s || space == everywhere) && !w.anyPinned(s) {
			w.inOrder(before, s)
			w.dense(s)
			w.fewest(s)
		}
	}
}

// reported checks the report against what is there.
func (w world) reported(before world, x api.Report, list []api.Move) {
	w.t.Helper()
	kept, words := len(w.h.All()), 0
	for _, m := range list {
		words += before.words(m.From)
	}
	want := api.Report{Kept: kept, KeptWords: w.h.Used(), Freed: len(before.h.All()) - kept, FreedWords: before.h.Used() - w.h.Used(), Moved: len(list), MovedWords: words, Scanned: kept, Cleared: x.Cleared}
	if x != want {
		w.t.Errorf("%+v, want %+v", x, want)
	}
	if w.h.Births() != before.h.Births() {
		w.t.Errorf("%d objects were placed", w.h.Births()-before.h.Births())
	}
}

// moved checks that just those objects that moves are of have other addresses, which are less (P10.3) and in blocks of the same space, that moves are in the order of spaces and addresses, and that forwards note them (P10.8), and no other ones.
func (w world) moved(before world, list []api.Move) {
	w.t.Helper()
	to := map[int]int{}
	last := []int{0, 0}
	for _, m := range list {
		space := before.h.Space(m.From / 64)
		if next := []int{space, m.From}; slices.Compare(last, next) >= 0 {
			w.t.Errorf("%v is behind %v, in %v", next, last, list)
		} else {
			last = next
		}
		if m.To >= m.From || before.h.Space(m.To/64) != space || before.h.State(m.To/64) != api.BlockUsed {
			w.t.Errorf("the move %v", m)
		}
		to[m.From] = m.To
	}
	for _, addr := range w.h.All() {
		was, e := before.h.At(w.ident(addr))
		w.ok("At", e)
		if want := to[was]; addr != want && (addr != was || want != 0) || before.h.Pinned(was) != w.h.Pinned(addr) {
			w.t.Errorf("object %d was at %d, is at %d, and its move is to %d", w.ident(addr), was, addr, want)
		}
	}
	for addr := range 64 * w.h.Blocks() {
		want, ok := to[addr]
		if !ok {
			want, _ = before.h.Forward(addr)
		}
		if got, _ := w.h.Forward(addr); got != want {
			w.t.Errorf("the forward from %d is %d, want %d", addr, got, want)
		}
	}
}

// fixed checks P10.7, also of objects of other spaces than that of Space, and that blocks keep their spaces.
func (w world) fixed(before world, space int) {
	w.t.Helper()
	for _, addr := range w.h.All() {
		was, _ := before.h.At(w.ident(addr))
		other := space != everywhere && before.h.Space(was/64) != space
		if (w.words(addr) > 32 || w.h.Pinned(addr) || other) && addr != was {
			w.t.Errorf("what was at %d is at %d", was, addr)
		}
	}
	for block := range w.h.Blocks() {
		state := w.h.State(block)
		if state != api.BlockFree && (state != before.h.State(block) || w.h.Space(block) != before.h.Space(block)) {
			w.t.Errorf("block %d: %d %d, was %d %d", block, state, w.h.Space(block), before.h.State(block), before.h.Space(block))
		}
	}
}

func (w world) noEmptyBlocks() {
	w.t.Helper()
	for block := range w.h.Blocks() {
		if state := w.h.State(block); (state == api.BlockUsed || state == api.BlockHead) && len(w.h.Objects(block)) == 0 {
			w.t.Errorf("there is no object in block %d, whose state is %d", block, state)
		}
	}
}

// blocks are the used blocks of a space.
func (w world) blocks(space int) []int {
	var list []int
	for block := range w.h.Blocks() {
		if w.h.State(block) == api.BlockUsed && w.h.Space(block) == space {
			list = append(list, block)
		}
	}
	return list
}

// small are the addresses of the objects of a space that are not large.
func (w world) small(space int) []int {
	var list []int
	for _, block := range w.blocks(space) {
		list = append(list, w.h.Objects(block)...)
	}
	return list
}

func (w world) anyPinned(space int) bool {
	return slices.ContainsFunc(w.small(space), w.h.Pinned)
}

// inOrder checks P10.2 of a space.
func (w world) inOrder(before world, space int) {
	w.t.Helper()
	last := 0
	for _, addr := range w.small(space) {
		was, _ := before.h.At(w.ident(addr))
		if was < last {
			w.t.Errorf("what is at %d was at %d, and one before it at %d", addr, was, last)
		}
		last = was
	}
}

// dense checks P10.4 of a space.
func (w world) dense(space int) {
	w.t.Helper()
	list := w.small(space)
	for _, block := range w.blocks(space) {
		for _, gap := range w.h.Gaps(block) {
			i, _ := slices.BinarySearch(list, gap.Start)
			if i < len(list) && (gap.Size >= w.words(list[i]) || gap.Start+gap.Size != 64*(block+1)) {
				w.t.Errorf("the gap %v is before %d", gap, list[i])
			}
		}
	}
}

// fewest checks P10.6 of a space: it tries all ways to part its objects, in their order, into blocks.
func (w world) fewest(space int) {
	w.t.Helper()
	need := []int{0} // for the first 0, 1, .. objects
	list := w.small(space)
	for i := range list {
		best, words := i+1, 0
		for j := i; j >= 0; j-- {
			if words += w.words(list[j]); words > 64 {
				break
			}
			best = min(best, need[j]+1)
		}
		need = append(need, best)
	}
	if got, want := len(w.blocks(space)), need[len(list)]; got != want {
		w.t.Errorf("space %d has %d blocks, but %d would be enough", space, got, want)
	}
}
