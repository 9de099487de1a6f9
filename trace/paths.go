package trace

import (
	"slices"

	"dustcart/heap"
)

// paths are the least of the shortest lists that lead to objects: by its address, for each object that is reached by strong references alone, the one before it in its list; 0, if it is the first one.
type paths map[int]int

// newPaths finds them one length after the other. Lists of one length are found in their lexicographic order: in that of the lists that they go on from, and rising for each of these. So the first list that is found to an object is the one looked for.
func newPaths(h *heap.Heap, leads []int) paths {
	p := paths{}
	var ends queue[int]
	reach := func(from int, addrs []int) {
		slices.Sort(addrs)
		for _, addr := range addrs {
			if _, found := p[addr]; !found && h.Has(addr) {
				p[addr] = from
				ends.add(addr)
			}
		}
	}
	reach(0, leads)
	for len(ends) > 0 {
		end := ends.remove(oldestFirst)
		reach(end, strong(h, end))
	}
	return p
}

// to returns the list that leads to an object; an empty one, if there is none.
func (p paths) to(addr int) []int {
	if _, found := p[addr]; !found {
		return nil
	}
	var list []int
	for at := addr; at != 0; at = p[at] {
		list = append(list, at)
	}
	slices.Reverse(list)
	return list
}
