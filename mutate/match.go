package mutate

import (
	"slices"

	"dustcart/api"
	"dustcart/heap"
	"dustcart/model"
	"dustcart/roots"
)

// pair is a heap with roots, and a model with as many mutators, which are compared.
type pair struct {
	heap  *heap.Heap
	roots *roots.Roots
	model *model.Model
}

// alike reports whether an address and an identity both are 0, or lead to objects with the same identity.
func (p pair) alike(addr, ident int) bool {
	if addr == 0 || ident == 0 {
		return addr == ident
	}
	found, e := p.heap.Ident(addr)
	return e == api.OK && found == ident
}

// samePlaces reports whether all slots, globals, and elements of the queue are alike.
func (p pair) samePlaces() bool {
	for mutator := range p.roots.Mutators() {
		for i := range api.MaxSlots {
			addr, _ := p.roots.Get(api.Place{Kind: api.PlaceSlot, Mutator: mutator, Index: i})
			ident, _ := p.model.Slot(mutator, i)
			if !p.alike(addr, ident) {
				return false
			}
		}
	}
	for i := range api.MaxGlobals {
		addr, _ := p.roots.Get(api.Place{Kind: api.PlaceGlobal, Index: i})
		ident, _ := p.model.Global(i)
		if !p.alike(addr, ident) {
			return false
		}
	}
	return slices.EqualFunc(p.roots.Queue(), p.model.Queue(), p.alike)
}

// sameObjects reports whether each object that is kept in the model is in the heap, too, and has the same.
func (p pair) sameObjects() bool {
	for _, ident := range p.model.Kept() {
		addr, e := p.heap.At(ident)
		if e != api.OK || !p.sameObject(addr, ident) {
			return false
		}
	}
	return true
}

func (p pair) sameObject(addr, ident int) bool {
	shape, _ := p.heap.Shape(addr)
	if want, _ := p.model.Shape(ident); shape != want {
		return false
	}
	for i := range shape.Refs {
		ref, _ := p.heap.Ref(addr, i)
		to, _ := p.model.Ref(ident, i)
		if !p.alike(ref, to) {
			return false
		}
	}
	for i := range shape.Data {
		word, _ := p.heap.Data(addr, i)
		if want, _ := p.model.Data(ident, i); word != want {
			return false
		}
	}
	return true
}
