package sweep_test

import (
	"slices"

	"dustcart/api"
	"dustcart/heap"
	"dustcart/side"
)

// plain does what the chapter says, sentence by sentence, by the words of a heap, however slowly.
type plain struct {
	world
	marked map[int]bool // addresses whose entries are 1
	isLeft map[int]bool // blocks
}

// plain is a sweeper in the plain way, on a heap of its own; it knows the marks of a table.
func (w world) plain(m *side.Table) *plain {
	p := &plain{world: w.clone(), marked: map[int]bool{}, isLeft: map[int]bool{}}
	for i := range m.Entries() {
		if m.Get(i) == 1 {
			p.marked[2*i] = true
		}
	}
	for block := range w.h.Blocks() {
		if state := w.h.State(block); state == 1 || state == 2 {
			p.isLeft[block] = true
		}
	}
	return p
}

func (p *plain) clone() *plain {
	c := &plain{world: p.world.clone(), marked: map[int]bool{}, isLeft: map[int]bool{}}
	for addr := range p.marked {
		c.marked[addr] = true
	}
	for block := range p.isLeft {
		c.isLeft[block] = true
	}
	return c
}

func (p *plain) word(addr int) int {
	v, _ := p.h.Word(addr)
	return v
}

// shape is that of an object, as its second word tells.
func (p *plain) shape(addr int) api.Shape {
	v := p.word(addr + 1)
	return api.Shape{Refs: v % 16, Data: v / 16 % 256, Kind: v / 4096}
}

// sweep kills all objects that begin in a used or head block and are not marked: their number and words.
func (p *plain) sweep(block int) (objects, words int) {
	if state := p.h.State(block); state != 1 && state != 2 {
		return 0, 0
	}
	for addr := 64 * block; addr < 64*block+64; addr++ {
		if p.h.Has(addr) && !p.marked[addr] {
			objects++
			words += heap.Words(p.shape(addr))
			p.h.Kill(addr)
		}
	}
	for addr := 64 * block; addr < 64*block+64; addr++ {
		if _, e := p.h.Find(addr); e == api.OK {
			return objects, words
		}
	}
	p.h.Release(block)
	return objects, words
}

func (p *plain) left() []int {
	var list []int
	for block := range p.h.Blocks() {
		if p.isLeft[block] {
			list = append(list, block)
		}
	}
	return list
}

func (p *plain) block(b int) (int, api.Errno) {
	if !p.isLeft[b] {
		return 0, api.ErrNone
	}
	delete(p.isLeft, b)
	_, words := p.sweep(b)
	return words, api.OK
}

func (p *plain) need(words int) (int, api.Errno) {
	if words <= 0 || words > 64 {
		return 0, api.ErrArg
	}
	last := 0
	for _, block := range p.left() {
		last = block
		p.block(block)
		if p.hasRoom(block, words) {
			break
		}
	}
	if last == 0 {
		return 0, api.ErrNone
	}
	return last, api.OK
}

func (p *plain) born(addr int) api.Errno {
	if !p.h.Has(addr) {
		return api.ErrNone
	}
	p.marked[addr] = true
	return api.OK
}

func (p *plain) finish() int {
	sum := 0
	for _, block := range p.left() {
		words, _ := p.block(block)
		sum += words
	}
	return sum
}

// strong are the references of an object that keep.
func (p *plain) strong(addr int) []int {
	s := p.shape(addr)
	var list []int
	for i := range s.Refs {
		isKey := i == 0 && (s.Kind == 1 || s.Kind == 2)
		isValue := i == 1 && s.Kind == 2
		if !isKey && !isValue {
			list = append(list, p.word(addr+2+i))
		}
	}
	return list
}

// keep marks an address; it tells whether there is an object that was not marked before.
func (p *plain) keep(addr int) bool {
	if !p.h.Has(addr) || p.marked[addr] {
		return false
	}
	p.marked[addr] = true
	return true
}

// kept marks the least set that DOC.md describes: objects are added as long as one is missing.
func (p *plain) kept() {
	clear(p.marked)
	for missing := true; missing; {
		missing = false
		for _, place := range p.r.Places() {
			addr, _ := p.r.Get(place)
			missing = p.keep(addr) || missing
		}
		for _, addr := range p.h.All() {
			if !p.marked[addr] {
				continue
			}
			for _, to := range p.strong(addr) {
				missing = p.keep(to) || missing
			}
			if p.shape(addr).Kind == 2 && p.marked[p.word(addr+2)] {
				missing = p.keep(p.word(addr+3)) || missing
			}
		}
	}
}

// clearLoose empties what does not lead to a marked object any more: how many objects were changed.
func (p *plain) clearLoose() int {
	changed := 0
	for _, addr := range p.h.All() {
		s := p.shape(addr)
		if !p.marked[addr] || s.Kind != 1 && s.Kind != 2 || p.marked[p.word(addr+2)] {
			continue
		}
		if p.word(addr+2) != 0 || s.Kind == 2 && p.word(addr+3) != 0 {
			changed++
		}
		p.h.Poke(addr+2, 0)
		if s.Kind == 2 {
			p.h.Poke(addr+3, 0)
		}
	}
	return changed
}

// isSound tells whether all places and all references are 0 or the addresses of objects.
func (p *plain) isSound() bool {
	list := []int{0}
	for _, addr := range p.h.All() {
		for i := range p.shape(addr).Refs {
			list = append(list, p.word(addr+2+i))
		}
	}
	for _, place := range p.r.Places() {
		addr, _ := p.r.Get(place)
		list = append(list, addr)
	}
	return !slices.ContainsFunc(list, func(addr int) bool { return addr != 0 && !p.h.Has(addr) })
}

// collect is Collect in the plain way.
func (p *plain) collect() (api.Report, api.Errno) {
	if !p.isSound() {
		return api.Report{}, api.ErrState
	}
	var x api.Report
	p.kept()
	x.Cleared = p.clearLoose()
	for block := range p.h.Blocks() {
		objects, words := p.sweep(block)
		x.Freed += objects
		x.FreedWords += words
	}
	for _, addr := range p.h.All() {
		x.Kept++
		x.Scanned++
		x.KeptWords += heap.Words(p.shape(addr))
	}
	return x, api.OK
}
