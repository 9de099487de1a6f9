package mutate

import (
	"dustcart/alloc"
	"dustcart/api"
	"dustcart/heap"
	"dustcart/roots"
)

// ground is what acts are done on.
type ground struct {
	heap  *heap.Heap
	roots *roots.Roots
	alloc *alloc.Allocator
}

func (g ground) made() bool {
	return isHeap(g.heap) && isRoots(g.roots) && isAllocator(g.alloc)
}

// do does an act of a mutator.
func (g ground) do(mutator int, act api.Act) (api.Effect, api.Errno) {
	d := deed{ground: g, mutator: mutator, act: act}
	if e := d.check(); e != api.OK {
		return api.Effect{}, e
	}
	effect, e := d.done()
	if e != api.OK {
		return api.Effect{}, e
	}
	return effect, api.OK
}

// deed is an act on its ground.
type deed struct {
	ground
	mutator  int
	act      api.Act
	inA, inB int // what the slots A and B are, once they are read; 0, if the act does not use slot B
}

func (d *deed) slot(i int) api.Place {
	return api.Place{Kind: api.PlaceSlot, Mutator: d.mutator, Index: i}
}

func (d *deed) global() api.Place {
	return api.Place{Kind: api.PlaceGlobal, Index: d.act.I}
}

// check looks for what forbids the act before its index is looked at. An act that makes an object uses no other one, so that its shape may be left to the allocator.
func (d *deed) check() api.Errno {
	if e := d.readSlots(); e != api.OK {
		return e
	}
	if d.lacksObject() {
		return api.ErrNil
	}
	if d.meetsBroken() {
		return api.ErrState
	}
	return api.OK
}

// readSlots reads the slots that the act uses. It finds acts of no mutator and of no kind, too.
func (d *deed) readSlots() (e api.Errno) {
	switch d.act.Kind {
	case api.ActLoad, api.ActStore, api.ActCopy, api.ActSame:
		d.inB, e = d.roots.Get(d.slot(d.act.B))
		if e != api.OK {
			return e
		}
		fallthrough
	case api.ActNew, api.ActPut, api.ActGet, api.ActDrop, api.ActIdent, api.ActExport, api.ActImport, api.ActShape:
		d.inA, e = d.roots.Get(d.slot(d.act.A))
		return e
	}
	return api.ErrArg
}

// lacksObject reports whether a slot is empty that must not be.
func (d *deed) lacksObject() bool {
	switch d.act.Kind {
	case api.ActLoad:
		return d.inB == 0
	case api.ActStore, api.ActPut, api.ActGet, api.ActShape:
		return d.inA == 0
	}
	return false
}

// meetsBroken reports whether a slot is broken that must not be.
func (d *deed) meetsBroken() bool {
	switch d.act.Kind {
	case api.ActLoad:
		return d.isBroken(d.inB)
	case api.ActStore:
		if d.isBroken(d.inB) { // no reference is to lead to it
			return true
		}
		fallthrough
	case api.ActPut, api.ActGet, api.ActIdent, api.ActShape:
		return d.isBroken(d.inA)
	}
	return false
}

// isBroken reports whether a slot that is some address is broken.
func (d *deed) isBroken(addr int) bool {
	return addr != 0 && !d.heap.Has(addr)
}

// done does the act, which was checked. Whatever forbids it still is found ahead of the one change that it makes.
func (d *deed) done() (api.Effect, api.Errno) {
	switch a := d.act; a.Kind {
	case api.ActNew:
		return d.create()
	case api.ActLoad:
		return d.load(d.heap.Ref(d.inB, a.I))
	case api.ActStore:
		return d.store()
	case api.ActPut:
		return api.Effect{}, d.heap.SetData(d.inA, a.I, a.N)
	case api.ActGet:
		word, e := d.heap.Data(d.inA, a.I)
		return told(word), e
	case api.ActCopy:
		return d.load(d.inB, api.OK)
	case api.ActDrop:
		return api.Effect{}, d.setA(0)
	case api.ActSame:
		return d.same(), api.OK
	case api.ActIdent:
		return d.ident()
	case api.ActExport:
		return api.Effect{}, d.roots.Set(d.global(), d.inA)
	case api.ActImport:
		return d.load(d.roots.Get(d.global()))
	default: // ActShape: check knows no further kinds
		s, e := d.heap.Shape(d.inA)
		return told(s.Refs, s.Data, s.Kind), e
	}
}

func (d *deed) setA(addr int) api.Errno {
	return d.roots.Set(d.slot(d.act.A), addr)
}

func (d *deed) create() (api.Effect, api.Errno) {
	addr, e := d.alloc.Alloc(d.act.Shape)
	if e != api.OK {
		return api.Effect{}, e
	}
	return api.Effect{Made: addr}, d.setA(addr)
}

// load lets slot A be what was read, unless that is an error.
func (d *deed) load(addr int, e api.Errno) (api.Effect, api.Errno) {
	if e != api.OK {
		return api.Effect{}, e
	}
	if addr < 0 { // a damaged reference; no slot can be that
		return api.Effect{}, api.ErrState
	}
	return api.Effect{Loaded: addr}, d.setA(addr)
}

func (d *deed) store() (api.Effect, api.Errno) {
	old, e := d.heap.Ref(d.inA, d.act.I)
	if e != api.OK {
		return api.Effect{}, e
	}
	effect := api.Effect{Object: d.inA, I: d.act.I, Old: old, New: d.inB}
	return effect, d.heap.SetRef(d.inA, d.act.I, d.inB)
}

func (d *deed) same() api.Effect {
	if d.inA == d.inB {
		return told(1)
	}
	return told(0)
}

func (d *deed) ident() (api.Effect, api.Errno) {
	if d.inA == 0 {
		return told(0), api.OK
	}
	ident, e := d.heap.Ident(d.inA)
	return told(ident), e
}

// told is the effect of an act that only tells something.
func told(numbers ...int) api.Effect {
	return api.Effect{Told: numbers}
}
