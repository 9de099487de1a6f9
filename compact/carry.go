package compact

import (
	"cmp"
	"slices"

	"dustcart/api"
	"dustcart/heap"
	"dustcart/roots"
	"dustcart/side"
	"dustcart/trace"
)

// carryOut carries out a plan for marks.
func carryOut(h *heap.Heap, r *roots.Roots, marks *side.Table, moves []api.Move) {
	for _, addr := range h.All() {
		if !trace.Marked(h, marks, addr) {
			h.Kill(addr)
		}
	}
	for _, m := range moves {
		h.Move(m.From, m.To)
	}
	redirect(h, r, moves)
	for block := range h.Blocks() {
		h.Release(block) // which is refused if an object is in it
	}
}

// redirect changes all references and places that led to objects that were moved.
func redirect(h *heap.Heap, r *roots.Roots, moves []api.Move) {
	rising := slices.Clone(moves) // a plan is in the order of the spaces
	slices.SortFunc(rising, func(a, b api.Move) int { return cmp.Compare(a.From, b.From) })
	var from, to []int
	for _, m := range rising {
		from = append(from, m.From)
		to = append(to, m.To)
	}
	redirectReferences(h, from, to)
	r.Replace(from, to)
}

// redirectReferences asks for the addresses that moves began at, not for forwards, of which older ones may still be noted.
func redirectReferences(h *heap.Heap, from, to []int) {
	for _, addr := range h.All() {
		for i, ref := range refs(h, addr) {
			if k, moved := slices.BinarySearch(from, ref); moved {
				h.SetRef(addr, i, to[k])
			}
		}
	}
}
