package heap

import (
	"slices"

	"dustcart/api"
)

// Valid reports whether a shape is valid.
func Valid(s api.Shape) bool {
	if s.Refs < 0 || s.Refs > api.MaxRefs || s.Data < 0 || s.Data > api.MaxData {
		return false
	}
	switch s.Kind {
	case api.Plain, api.Special:
		return true
	case api.Weak:
		return s.Refs >= 1
	case api.Ephemeron:
		return s.Refs >= 2
	default:
		return false
	}
}

// Words returns how many words an object has.
func Words(s api.Shape) int {
	if !Valid(s) {
		return 0
	}
	return roundedUp(api.HeadWords+s.Refs+s.Data, pairWords)
}

func roundedUp(n, unit int) int {
	return (n + unit - 1) / unit * unit
}

// Place makes an object.
func (h *Heap) Place(addr int, s api.Shape) (int, api.Errno) {
	if !h.made() {
		return 0, api.ErrState
	}
	if !Valid(s) {
		return 0, api.ErrForm
	}
	if e := h.checkRoom(addr, Words(s), 0); e != api.OK {
		return 0, e
	}
	h.births++
	h.cover(addr, []int{h.births, shapeWord(s)}, Words(s))
	return h.births, api.OK
}

// checkRoom looks for what forbids an object of some words at an address; the words of the object `own` are no obstacle.
func (h *Heap) checkRoom(addr, words, own int) api.Errno {
	if addr%pairWords != 0 || !h.hasWord(addr) {
		return api.ErrArg
	}
	if !h.suits(addr, words) {
		return api.ErrState
	}
	for at := addr; at < addr+words; at += pairWords {
		if owner := h.owner(at); owner != 0 && owner != own {
			return api.ErrTaken
		}
	}
	return api.OK
}

// suits reports whether the blocks at an address are those that an object of some words lies in.
func (h *Heap) suits(addr, words int) bool {
	block, start := addr/api.BlockWords, addr%api.BlockWords
	if words <= api.LargeWords {
		return h.blocks[block].state == api.BlockUsed && start+words <= api.BlockWords
	}
	needed := roundedUp(words, api.BlockWords) / api.BlockWords
	return h.blocks[block].state == api.BlockHead && start == 0 && len(h.group(block)) == needed
}

// cover lets an object of some words begin at an address; the first ones of its words are given, the others are 0.
func (h *Heap) cover(addr int, given []int, words int) {
	copy(h.words[addr:], given)
	h.pairs.Fill(addr/pairWords, words/pairWords, pairNext)
	h.pairs.Set(addr/pairWords, pairFirst)
	h.places[given[0]] = addr
}

// uncover lets the words of an object be of none.
func (h *Heap) uncover(addr int) {
	words := h.size(addr)
	delete(h.places, h.words[addr])
	clear(h.words[addr : addr+words])
	h.pairs.Fill(addr/pairWords, words/pairWords, pairGap)
	h.pins.Set(addr/pairWords, 0)
}

// Kill takes an object away.
func (h *Heap) Kill(addr int) api.Errno {
	if e := h.checkObject(addr); e != api.OK {
		return e
	}
	h.uncover(addr)
	return api.OK
}

// Move gives an object another address.
func (h *Heap) Move(from, to int) api.Errno {
	if e := h.checkObject(from); e != api.OK {
		return e
	}
	words := h.size(from)
	if e := h.checkRoom(to, words, from); e != api.OK {
		return e
	}
	// Both places may overlap, so the words are set aside.
	image, pinned := slices.Clone(h.words[from:from+words]), h.Pinned(from)
	h.uncover(from)
	h.cover(to, image, words)
	if pinned {
		h.Pin(to)
	}
	h.forwards[from] = to
	return api.OK
}

// Forward returns where an object was moved from some address.
func (h *Heap) Forward(addr int) (int, api.Errno) {
	if !h.made() {
		return 0, api.ErrState
	}
	to, ok := h.forwards[addr]
	if !ok {
		return 0, api.ErrNone
	}
	return to, api.OK
}

// Forget takes all forwards away.
func (h *Heap) Forget() int {
	if !h.made() {
		return 0
	}
	count := len(h.forwards)
	clear(h.forwards)
	return count
}

// Has reports whether there is an object with an address.
func (h *Heap) Has(addr int) bool {
	return h.made() && addr%pairWords == 0 && h.pairs.Get(addr/pairWords) == pairFirst
}

// checkObject looks for what forbids an act on the object with an address.
func (h *Heap) checkObject(addr int) api.Errno {
	if !h.made() {
		return api.ErrState
	}
	if !h.Has(addr) {
		return api.ErrNone
	}
	return api.OK
}

// owner returns the address of the object that a word belongs to, or 0.
func (h *Heap) owner(addr int) int {
	pair := addr / pairWords
	if !h.hasWord(addr) || h.pairs.Get(pair) == pairGap {
		return 0
	}
	first, _ := h.pairs.Last(pair+1, pairFirst)
	return first * pairWords
}

// Find returns the address of the object that a word belongs to.
func (h *Heap) Find(addr int) (int, api.Errno) {
	if !h.made() {
		return 0, api.ErrState
	}
	owner := h.owner(addr)
	if owner == 0 {
		return 0, api.ErrNone
	}
	return owner, api.OK
}

// At returns the address of the object with an identity.
func (h *Heap) At(ident int) (int, api.Errno) {
	if !h.made() {
		return 0, api.ErrState
	}
	addr, ok := h.places[ident]
	if !ok {
		return 0, api.ErrNone
	}
	return addr, api.OK
}

// Pin pins an object.
func (h *Heap) Pin(addr int) api.Errno {
	return h.setPin(addr, 1)
}

// Unpin lets an object be pinned no more.
func (h *Heap) Unpin(addr int) api.Errno {
	return h.setPin(addr, 0)
}

func (h *Heap) setPin(addr, pin int) api.Errno {
	if e := h.checkObject(addr); e != api.OK {
		return e
	}
	return h.pins.Set(addr/pairWords, pin)
}

// Pinned reports whether an object is pinned.
func (h *Heap) Pinned(addr int) bool {
	return h.Has(addr) && h.pins.Get(addr/pairWords) == 1
}
