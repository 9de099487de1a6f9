package copying

import (
	"maps"
	"slices"

	"dustcart/api"
	"dustcart/heap"
	"dustcart/roots"
	"dustcart/side"
	"dustcart/trace"
)

const (
	entryWords = 2 // marks have an entry for every two words of a heap
	markWidth  = 1
)

// evacuation is what a collection does. All of it is found out before anything is changed, since only then it is known whether there is room.
type evacuation struct {
	heap       *heap.Heap
	order      int
	forwarded  map[int]int // the new addresses of what is evacuated, by the old ones; those of fixed objects are the same
	found      []int       // the old addresses, in the order in which they were evacuated
	moves      []api.Move
	movedWords int
	blocks     newBlocks
	list       toScan
	scanned    int
}

func newEvacuation(h *heap.Heap, order int) *evacuation {
	return &evacuation{heap: h, order: order, forwarded: map[int]int{}, blocks: newBlocksOf(h)}
}

// find evacuates what is kept because of the addresses that places hold.
func (v *evacuation) find(leads []int) {
	v.evacuate(leads)
	v.scan()
	for v.evacuate(v.values()) {
		v.scan()
	}
}

// evacuate evacuates addresses; it tells whether something was evacuated by this.
func (v *evacuation) evacuate(addrs []int) bool {
	before := len(v.found)
	for _, addr := range addrs {
		if _, done := v.forwarded[addr]; v.heap.Has(addr) && !done {
			v.forwarded[addr] = v.newAddress(addr)
			v.found = append(v.found, addr)
			v.list.add(addr)
		}
	}
	return len(v.found) > before
}

// newAddress returns where an object will be, and notes that it is moved, unless it is fixed.
func (v *evacuation) newAddress(addr int) int {
	s, _ := v.heap.Shape(addr)
	words := heap.Words(s)
	if words > api.LargeWords || v.heap.Pinned(addr) {
		return addr
	}
	to := v.blocks.take(words)
	v.moves = append(v.moves, api.Move{From: addr, To: to})
	v.movedWords += words
	return to
}

// scan scans objects until none is left.
func (v *evacuation) scan() {
	for v.list.Size > 0 {
		addr := v.list.remove(v.order)
		v.scanned++
		v.evacuate(strong(v.heap, addr))
	}
}

// values returns what a round evacuates: what the references 1 of Ephemerons lead to whose references 0 lead to objects that are evacuated now.
func (v *evacuation) values() []int {
	var list []int
	for _, addr := range v.found {
		s, _ := v.heap.Shape(addr)
		if s.Kind != api.Ephemeron {
			continue
		}
		pair := refs(v.heap, addr)
		if _, kept := v.forwarded[pair[0]]; kept {
			list = append(list, pair[1])
		}
	}
	return list
}

// carryOut changes the heap and the roots, if there is room: how many objects were cleared. It clears and kills while objects still have their old addresses, by which they were found.
func (v *evacuation) carryOut(r *roots.Roots, space int) int {
	cleared, _ := trace.Clear(v.heap, v.marks())
	v.killOthers()
	v.blocks.claim(v.heap, space)
	for _, m := range v.moves {
		v.heap.Move(m.From, m.To)
	}
	v.redirectReferences()
	v.redirectPlaces(r)
	for block := range v.heap.Blocks() {
		v.heap.Release(block) // which is refused if an object is in it
	}
	return cleared
}

// marks returns marks of what is evacuated.
func (v *evacuation) marks() *side.Table {
	marks, _ := side.New(v.heap.Blocks()*api.BlockWords/entryWords, markWidth)
	for _, addr := range v.found {
		marks.Set(addr/entryWords, 1)
	}
	return marks
}

func (v *evacuation) killOthers() {
	for _, addr := range v.heap.All() {
		if _, kept := v.forwarded[addr]; !kept {
			v.heap.Kill(addr)
		}
	}
}

// redirectReferences changes the references of all objects, each of which is empty, or the old address of one that is evacuated.
func (v *evacuation) redirectReferences() {
	for _, addr := range v.heap.All() {
		for i, from := range refs(v.heap, addr) {
			v.heap.SetRef(addr, i, v.forwarded[from])
		}
	}
}

// redirectPlaces changes all places, which lead to objects that are evacuated.
func (v *evacuation) redirectPlaces(r *roots.Roots) {
	from := slices.Sorted(maps.Keys(v.forwarded))
	to := make([]int, len(from))
	for i, addr := range from {
		to[i] = v.forwarded[addr]
	}
	r.Replace(from, to)
}
