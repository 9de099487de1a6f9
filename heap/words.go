package heap

import "dustcart/api"

// The units of a shape's word.
const (
	unitData = 16
	unitKind = 4096
)

// shapeWord returns a shape as one number.
func shapeWord(s api.Shape) int {
	return s.Refs + unitData*s.Data + unitKind*s.Kind
}

// shape returns what shapeWord made the number from, for the address of an object.
func (h *Heap) shape(addr int) api.Shape {
	word := h.words[addr+1]
	return api.Shape{Refs: word % unitData, Data: word % unitKind / unitData, Kind: word / unitKind}
}

// size returns how many words an object has.
func (h *Heap) size(addr int) int {
	return Words(h.shape(addr))
}

// Ident returns the identity of an object.
func (h *Heap) Ident(addr int) (int, api.Errno) {
	if e := h.checkObject(addr); e != api.OK {
		return 0, e
	}
	return h.words[addr], api.OK
}

// Shape returns the shape of an object.
func (h *Heap) Shape(addr int) (api.Shape, api.Errno) {
	if e := h.checkObject(addr); e != api.OK {
		return api.Shape{}, e
	}
	return h.shape(addr), api.OK
}

// refWord returns where a reference of an object is.
func (h *Heap) refWord(addr, i int) (int, api.Errno) {
	if e := h.checkObject(addr); e != api.OK {
		return 0, e
	}
	if i < 0 || i >= h.shape(addr).Refs {
		return 0, api.ErrArg
	}
	return addr + api.HeadWords + i, api.OK
}

// dataWord returns where a data word of an object is.
func (h *Heap) dataWord(addr, i int) (int, api.Errno) {
	if e := h.checkObject(addr); e != api.OK {
		return 0, e
	}
	s := h.shape(addr)
	if i < 0 || i >= s.Data {
		return 0, api.ErrArg
	}
	return addr + api.HeadWords + s.Refs + i, api.OK
}

// Ref returns a reference of an object.
func (h *Heap) Ref(addr, i int) (int, api.Errno) {
	at, e := h.refWord(addr, i)
	if e != api.OK {
		return 0, e
	}
	return h.words[at], api.OK
}

// Data returns a data word of an object.
func (h *Heap) Data(addr, i int) (int, api.Errno) {
	at, e := h.dataWord(addr, i)
	if e != api.OK {
		return 0, e
	}
	return h.words[at], api.OK
}

// SetRef changes a reference of an object.
func (h *Heap) SetRef(addr, i, to int) api.Errno {
	at, e := h.refWord(addr, i)
	if e != api.OK {
		return e
	}
	if to != 0 && !h.Has(to) {
		return api.ErrArg
	}
	h.words[at] = to
	return api.OK
}

// SetData changes a data word of an object.
func (h *Heap) SetData(addr, i, v int) api.Errno {
	at, e := h.dataWord(addr, i)
	if e != api.OK {
		return e
	}
	h.words[at] = v
	return api.OK
}

func (h *Heap) hasWord(addr int) bool {
	return 0 <= addr && addr < len(h.words)
}

// Word returns what a word holds.
func (h *Heap) Word(addr int) (int, api.Errno) {
	if !h.made() {
		return 0, api.ErrState
	}
	if !h.hasWord(addr) {
		return 0, api.ErrArg
	}
	return h.words[addr], api.OK
}

// Poke lets a reference or a data word hold anything.
func (h *Heap) Poke(addr, v int) api.Errno {
	if !h.made() {
		return api.ErrState
	}
	if !h.hasWord(addr) {
		return api.ErrArg
	}
	if !h.isField(addr) {
		return api.ErrNone
	}
	h.words[addr] = v
	return api.OK
}

// isField reports whether a word is a reference or a data word: neither one of a header nor the one that makes the words even.
func (h *Heap) isField(addr int) bool {
	owner := h.owner(addr)
	if owner == 0 {
		return false
	}
	s, i := h.shape(owner), addr-owner-api.HeadWords
	return 0 <= i && i < s.Refs+s.Data
}
