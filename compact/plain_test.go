package compact_test

import (
	"slices"

	"dustcart/api"
	"dustcart/heap"
	"dustcart/side"
)

// plain does what the chapter says, sentence by sentence, word by word, however slowly.
type plain struct {
	world
	marked map[int]bool // by addresses
	moves  []api.Move
}

func (p *plain) word(addr int) int {
	v, _ := p.h.Word(addr)
	return v
}

// isSound tells whether all places and all references are 0 or the addresses of objects.
func (p *plain) isSound() bool {
	list := []int{0}
	for _, addr := range p.h.All() {
		for i := range p.word(addr+1) % 16 {
			list = append(list, p.word(addr+2+i))
		}
	}
	for _, place := range p.r.Places() {
		addr, _ := p.r.Get(place)
		list = append(list, addr)
	}
	return !slices.ContainsFunc(list, func(addr int) bool { return addr != 0 && !p.h.Has(addr) })
}

// mark marks what is kept: it looks at all objects until nothing new is found.
func (p *plain) mark() {
	for _, place := range p.r.Places() {
		addr, _ := p.r.Get(place)
		p.marked[addr] = true
	}
	for before := -1; before < len(p.marked); {
		before = len(p.marked)
		for _, addr := range p.h.All() {
			if !p.marked[addr] {
				continue
			}
			kind, refs := p.word(addr+1)/4096, p.word(addr+1)%16
			for i := range refs {
				to := p.word(addr + 2 + i)
				isKey := i == 0 && (kind == 1 || kind == 2)
				isLoose := i == 1 && kind == 2 && !p.marked[p.word(addr+2)]
				if to != 0 && !isKey && !isLoose {
					p.marked[to] = true
				}
			}
		}
	}
}

// clear clears references: how many objects are changed.
func (p *plain) clear() int {
	n := 0
	for _, addr := range p.h.All() {
		kind := p.word(addr+1) / 4096
		if !p.marked[addr] || kind != 1 && kind != 2 || p.marked[p.word(addr+2)] {
			continue
		}
		some := false
		for i := range kind { // a Weak has one reference that does not keep, an Ephemeron two
			some = some || p.word(addr+2+i) != 0
			p.ok("Poke", p.h.Poke(addr+2+i, 0))
		}
		if some {
			n++
		}
	}
	return n
}

// fits tells whether an object of some words could be at an address: within a block of the row, without a word of a marked object that is pinned.
func (p *plain) fits(addr, words, space int) bool {
	if addr/64 != (addr+words-1)/64 || p.h.State(addr/64) != 1 || p.h.Space(addr/64) != space {
		return false
	}
	for i := range words {
		if other, e := p.h.Find(addr + i); e == api.OK && p.marked[other] && p.h.Pinned(other) {
			return false
		}
	}
	return true
}

// plan finds the moves of a space.
func (p *plain) plan(space int) {
	next := 0
	for _, addr := range p.h.All() {
		if p.h.State(addr/64) != 1 || p.h.Space(addr/64) != space || !p.marked[addr] || p.h.Pinned(addr) {
			continue
		}
		words := p.words(addr)
		for !p.fits(next, words, space) {
			next++
		}
		if next != addr {
			p.moves = append(p.moves, api.Move{From: addr, To: next})
		}
		next += words
	}
}

// planAll finds the moves of one space, or of all.
func (p *plain) planAll(space int) {
	for s := range 8 {
		if space == s || space == everywhere {
			p.plan(s)
		}
	}
}

// carryOut carries the plan out; references and places are changed by identities.
func (p *plain) carryOut() {
	leads := map[api.Place]int{}
	for _, place := range p.r.Places() {
		addr, _ := p.r.Get(place)
		leads[place] = p.word(addr)
	}
	for _, addr := range p.h.All() {
		if !p.marked[addr] {
			p.ok("Kill", p.h.Kill(addr))
		}
	}
	refs := map[int][]int{} // by identities (the identity at the address 0 is 0)
	for _, addr := range p.h.All() {
		for i := range p.shape(addr).Refs {
			refs[p.word(addr)] = append(refs[p.word(addr)], p.word(p.word(addr+2+i)))
		}
	}
	for _, m := range p.moves {
		p.ok("Move", p.h.Move(m.From, m.To))
	}
	for ident, list := range refs {
		for i, to := range list {
			p.ok("Poke", p.h.Poke(p.now(ident)+2+i, p.now(to)))
		}
	}
	for place, ident := range leads {
		p.set(place, p.now(ident))
	}
	for block := range p.h.Blocks() {
		if state := p.h.State(block); (state == 1 || state == 2) && len(p.h.Objects(block)) == 0 {
			p.ok("Release", p.h.Release(block))
		}
	}
}

// now is the address of the object with an identity (0: there is none).
func (p *plain) now(ident int) int {
	addr, _ := p.h.At(ident)
	return addr
}

// plainly is Collect, or Space, in the plain way; its heap and roots are those of the world, if it is not refused.
func (w world) plainly(space int) (*plain, api.Report, api.Errno) {
	p := &plain{world: w.clone(), marked: map[int]bool{}}
	if !p.isSound() {
		return p, api.Report{}, api.ErrState
	}
	p.mark()
	x := api.Report{Cleared: p.clear()}
	p.planAll(space)
	x.Moved = len(p.moves)
	for _, m := range p.moves {
		x.MovedWords += p.words(m.From)
	}
	for _, addr := range p.h.All() {
		if n := p.words(addr); p.marked[addr] {
			x.Kept++
			x.Scanned++
			x.KeptWords += n
		} else {
			x.Freed++
			x.FreedWords += n
		}
	}
	p.carryOut()
	return p, x, api.OK
}

// plainPlan is Plan in the plain way.
func (w world) plainPlan(marks *side.Table) []api.Move {
	p := &plain{world: w.clone(), marked: map[int]bool{}}
	for i := range marks.Entries() {
		p.marked[2*i] = marks.Get(i) == 1
	}
	p.planAll(everywhere)
	return p.moves
}

// plainWaste is Waste in the plain way: word by word.
func (w world) plainWaste() int {
	var last [api.MaxSpaces]int
	for _, addr := range w.h.All() {
		if s, _ := w.h.Shape(addr); heap.Words(s) <= 32 {
			last[w.h.Space(addr/64)] = addr
		}
	}
	n := 0
	for addr := range 64 * w.h.Blocks() {
		if _, e := w.h.Find(addr); e != api.OK && w.h.State(addr/64) == 1 && addr < last[w.h.Space(addr/64)] {
			n++
		}
	}
	return n
}
