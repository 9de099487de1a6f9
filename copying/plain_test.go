package copying_test

import (
	"slices"

	"dustcart/api"
	"dustcart/heap"
)

// thing is an object by identities, as it was before a collection.
type thing struct {
	shape api.Shape
	addr  int
	refs  []int // identities
	fixed bool
}

// plain does what the chapter says, sentence by sentence, by identities, however slowly.
type plain struct {
	world
	order     int
	things    map[int]thing
	evacuated []int // in order
	toScan    []int
	scanned   int
	cleared   int
}

func (p *plain) word(addr int) int {
	v, _ := p.h.Word(addr)
	return v
}

// isSound tells whether all places and all references are 0 or the addresses of objects.
func (p *plain) isSound() bool {
	list := []int{0}
	for _, addr := range p.h.All() {
		for i := range p.word(addr+1) % 16 {
			list = append(list, p.word(addr+2+i))
		}
	}
	for _, place := range p.r.Places() {
		addr, _ := p.r.Get(place)
		list = append(list, addr)
	}
	return !slices.ContainsFunc(list, func(addr int) bool { return addr != 0 && !p.h.Has(addr) })
}

// look notes all objects. (The identity at the address 0 is 0.)
func (p *plain) look() {
	p.things = map[int]thing{}
	for _, addr := range p.h.All() {
		v := p.word(addr + 1)
		x := thing{shape: api.Shape{Refs: v % 16, Data: v / 16 % 256, Kind: v / 4096}, addr: addr}
		for i := range x.shape.Refs {
			x.refs = append(x.refs, p.word(p.word(addr+2+i)))
		}
		x.fixed = heap.Words(x.shape) > 32 || p.h.Pinned(addr)
		p.things[p.word(addr)] = x
	}
}

func (p *plain) isEvacuated(ident int) bool {
	return slices.Contains(p.evacuated, ident)
}

func (p *plain) evacuate(ident int) bool {
	if ident == 0 || p.isEvacuated(ident) {
		return false
	}
	p.evacuated = append(p.evacuated, ident)
	p.toScan = append(p.toScan, ident)
	return true
}

// scan scans the first or the last of those that are to be scanned, until there is none.
func (p *plain) scan() {
	for len(p.toScan) > 0 {
		i := 0
		if p.order == newest {
			i = len(p.toScan) - 1
		}
		x := p.things[p.toScan[i]]
		p.toScan = slices.Delete(p.toScan, i, i+1)
		p.scanned++
		for j, to := range x.refs {
			isKey := j == 0 && (x.shape.Kind == 1 || x.shape.Kind == 2)
			isValue := j == 1 && x.shape.Kind == 2
			if !isKey && !isValue {
				p.evacuate(to)
			}
		}
	}
}

// round evacuates the values of Ephemerons; it tells whether something was.
func (p *plain) round() bool {
	some := false
	then := slices.Clone(p.evacuated)
	for _, ident := range then {
		x := p.things[ident]
		if x.shape.Kind == 2 && slices.Contains(then, x.refs[0]) {
			some = p.evacuate(x.refs[1]) || some
		}
	}
	return some
}

// find finds what is evacuated.
func (p *plain) find() {
	for _, place := range p.r.Places() {
		addr, _ := p.r.Get(place)
		p.evacuate(p.word(addr))
	}
	p.scan()
	for p.round() {
		p.scan()
	}
}

// row is where objects are moved to within one new block.
type row struct {
	idents []int
	words  int
}

func (p *plain) rows() []row {
	var list []row
	for _, ident := range p.evacuated {
		x := p.things[ident]
		if x.fixed {
			continue
		}
		n := heap.Words(x.shape)
		if len(list) == 0 || list[len(list)-1].words+n > 64 {
			list = append(list, row{})
		}
		last := &list[len(list)-1]
		last.idents = append(last.idents, ident)
		last.words += n
	}
	return list
}

// move moves what is in rows to free blocks, in the order of these.
func (p *plain) move(rows []row, space int) []api.Move {
	var moves []api.Move
	for _, row := range rows {
		block := 1
		for p.h.State(block) != 0 {
			block++
		}
		p.ok("Claim", p.h.Claim(block, space))
		to := 64 * block
		for _, ident := range row.idents {
			x := p.things[ident]
			p.ok("Move", p.h.Move(x.addr, to))
			moves = append(moves, api.Move{From: x.addr, To: to})
			to += heap.Words(x.shape)
		}
	}
	return moves
}

// now is the address of the object with an identity (0: there is none).
func (p *plain) now(ident int) int {
	addr, _ := p.h.At(ident)
	return addr
}

// clear empties references that do not keep, and leads all others to where objects are now.
func (p *plain) clear() {
	for _, ident := range p.evacuated {
		x := p.things[ident]
		refs := slices.Clone(x.refs)
		if n := x.shape.Kind; (n == 1 || n == 2) && !p.isEvacuated(refs[0]) {
			clear(refs[:n]) // a Weak has one reference that does not keep, an Ephemeron two
			if !slices.Equal(refs, x.refs) {
				p.cleared++
			}
		}
		for i, to := range refs {
			p.ok("Poke", p.h.Poke(p.now(ident)+2+i, p.now(to)))
		}
	}
}

// plainly is Collect in the plain way; its heap and roots are those of the world, if it is not refused. The last number is what Room returns.
func (w world) plainly(space, order int) (*plain, api.Report, []api.Move, api.Errno, int) {
	p := &plain{world: w.clone(), order: order}
	if !p.isSound() {
		return p, api.Report{}, nil, api.ErrState, 0
	}
	p.look()
	p.find()
	rows := p.rows()
	if len(rows) > p.free() {
		return p, api.Report{}, nil, api.ErrFull, len(rows)
	}
	leads := map[api.Place]int{}
	for _, place := range p.r.Places() {
		addr, _ := p.r.Get(place)
		leads[place] = p.word(addr)
	}
	moves := p.move(rows, space)
	p.clear()
	for place, ident := range leads {
		p.set(place, p.now(ident))
	}
	return p, p.finish(moves), moves, api.OK, len(rows)
}

// finish kills what was not evacuated, and releases blocks: the report.
func (p *plain) finish(moves []api.Move) api.Report {
	x := api.Report{Moved: len(moves), Scanned: p.scanned, Cleared: p.cleared}
	for ident, y := range p.things {
		n := heap.Words(y.shape)
		switch {
		case !p.isEvacuated(ident):
			x.Freed++
			x.FreedWords += n
			p.ok("Kill", p.h.Kill(y.addr))
		case y.fixed:
			x.Kept++
			x.KeptWords += n
		default:
			x.Kept++
			x.KeptWords += n
			x.MovedWords += n
		}
	}
	for block := range p.h.Blocks() {
		if state := p.h.State(block); (state == 1 || state == 2) && len(p.h.Objects(block)) == 0 {
			p.ok("Release", p.h.Release(block))
		}
	}
	return x
}
