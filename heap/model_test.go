package heap_test

import (
	"slices"

	"dustcart/api"
)

// memory is what a heap and its model have in common: acts are done with both, and what they tell is compared.
type memory interface {
	Claim(block, space int) api.Errno
	ClaimLarge(block, blocks, space int) api.Errno
	Release(block int) api.Errno
	Retag(block, space int) api.Errno
	Place(addr int, s api.Shape) (int, api.Errno)
	Kill(addr int) api.Errno
	Move(from, to int) api.Errno
	Forward(addr int) (int, api.Errno)
	Forget() int
	Has(addr int) bool
	Find(addr int) (int, api.Errno)
	At(ident int) (int, api.Errno)
	Ident(addr int) (int, api.Errno)
	Shape(addr int) (api.Shape, api.Errno)
	Ref(addr, i int) (int, api.Errno)
	Data(addr, i int) (int, api.Errno)
	SetRef(addr, i, to int) api.Errno
	SetData(addr, i, v int) api.Errno
	Word(addr int) (int, api.Errno)
	Poke(addr, v int) api.Errno
	Pin(addr int) api.Errno
	Unpin(addr int) api.Errno
	Pinned(addr int) bool
	Objects(block int) []int
	All() []int
	Gaps(block int) []api.Run
	Lines(block int) []bool
	Blocks() int
	State(block int) int
	Space(block int) int
	Births() int
	Used() int
}

// thing is an object of the model; its fields are its references, and then its data words.
type thing struct {
	ident, addr int
	shape       api.Shape
	fields      []int
	pinned      bool
}

func (o *thing) words() int {
	n := 2 + len(o.fields)
	return n + n%2
}

func (o *thing) covers(addr int) bool {
	return o.addr <= addr && addr < o.addr+o.words()
}

// model is a heap as a plain list of objects: where anything is, is looked for each time.
type model struct {
	states, spaces []int
	things         []*thing
	forwards       []api.Move
	births         int
}

func newModel(blocks int) *model {
	return &model{states: make([]int, blocks), spaces: make([]int, blocks)}
}

func (m *model) clone() *model {
	c := &model{states: slices.Clone(m.states), spaces: slices.Clone(m.spaces), forwards: slices.Clone(m.forwards), births: m.births}
	for _, o := range m.things {
		twin := *o
		twin.fields = slices.Clone(o.fields)
		c.things = append(c.things, &twin)
	}
	return c
}

func (m *model) isWord(addr int) bool { return addr >= 0 && addr < 64*len(m.states) }

func (m *model) isBlock(block int) bool { return block >= 1 && block < len(m.states) }

func isSpace(space int) bool { return space >= 0 && space <= 7 }

func (m *model) begins(addr int) *thing {
	for _, o := range m.things {
		if o.addr == addr {
			return o
		}
	}
	return nil
}

func (m *model) owner(addr int) *thing {
	for _, o := range m.things {
		if o.covers(addr) {
			return o
		}
	}
	return nil
}

// tails counts the tails behind a block.
func (m *model) tails(block int) int {
	n := 0
	for block+n+1 < len(m.states) && m.states[block+n+1] == api.BlockTail {
		n++
	}
	return n
}

func (m *model) Claim(block, space int) api.Errno {
	if !m.isBlock(block) || !isSpace(space) {
		return api.ErrArg
	}
	if m.states[block] != api.BlockFree {
		return api.ErrTaken
	}
	m.states[block], m.spaces[block] = api.BlockUsed, space
	return api.OK
}

func (m *model) ClaimLarge(block, blocks, space int) api.Errno {
	if !m.isBlock(block) || blocks < 1 || blocks > 64 || !m.isBlock(block+blocks-1) || !isSpace(space) {
		return api.ErrArg
	}
	for i := range blocks {
		if m.states[block+i] != api.BlockFree {
			return api.ErrTaken
		}
	}
	for i := range blocks {
		m.states[block+i], m.spaces[block+i] = api.BlockTail, space
	}
	m.states[block] = api.BlockHead
	return api.OK
}

func (m *model) Release(block int) api.Errno {
	if !m.isBlock(block) {
		return api.ErrArg
	}
	if m.states[block] != api.BlockUsed && m.states[block] != api.BlockHead {
		return api.ErrState
	}
	for _, o := range m.things {
		if o.addr/64 == block {
			return api.ErrTaken
		}
	}
	for i := m.tails(block); i >= 0; i-- {
		m.states[block+i], m.spaces[block+i] = api.BlockFree, 0
	}
	return api.OK
}

func (m *model) Retag(block, space int) api.Errno {
	if !m.isBlock(block) || !isSpace(space) {
		return api.ErrArg
	}
	if m.states[block] != api.BlockUsed && m.states[block] != api.BlockHead {
		return api.ErrState
	}
	for i := range m.tails(block) + 1 {
		m.spaces[block+i] = space
	}
	return api.OK
}

func isShape(s api.Shape) bool {
	least, ok := map[int]int{api.Plain: 0, api.Weak: 1, api.Ephemeron: 2, api.Special: 0}[s.Kind]
	return ok && s.Refs >= least && s.Refs <= 15 && s.Data >= 0 && s.Data <= 200
}

// obstacle is why an object cannot be at an address, at which it may overlap itself.
func (m *model) obstacle(o *thing, addr int) api.Errno {
	if addr%2 != 0 || !m.isWord(addr) {
		return api.ErrArg
	}
	block, words := addr/64, o.words()
	if words > 32 {
		if addr%64 != 0 || m.states[block] != api.BlockHead || 64*m.tails(block) >= words || 64*(m.tails(block)+1) < words {
			return api.ErrState
		}
	} else if m.states[block] != api.BlockUsed || (addr+words-1)/64 != block {
		return api.ErrState
	}
	for i := range words {
		if other := m.owner(addr + i); other != nil && other != o {
			return api.ErrTaken
		}
	}
	return api.OK
}

func (m *model) Place(addr int, s api.Shape) (int, api.Errno) {
	if !isShape(s) {
		return 0, api.ErrForm
	}
	o := &thing{ident: m.births + 1, addr: addr, shape: s, fields: make([]int, s.Refs+s.Data)}
	if e := m.obstacle(o, addr); e != api.OK {
		return 0, e
	}
	m.births++
	m.things = append(m.things, o)
	return o.ident, api.OK
}

func (m *model) Kill(addr int) api.Errno {
	o := m.begins(addr)
	if o == nil {
		return api.ErrNone
	}
	m.things = slices.DeleteFunc(m.things, func(other *thing) bool { return other == o })
	return api.OK
}

func (m *model) Move(from, to int) api.Errno {
	o := m.begins(from)
	if o == nil {
		return api.ErrNone
	}
	if e := m.obstacle(o, to); e != api.OK {
		return e
	}
	o.addr = to
	m.forwards = slices.DeleteFunc(m.forwards, func(f api.Move) bool { return f.From == from })
	m.forwards = append(m.forwards, api.Move{From: from, To: to})
	return api.OK
}

func (m *model) Forward(addr int) (int, api.Errno) {
	for _, f := range m.forwards {
		if f.From == addr {
			return f.To, api.OK
		}
	}
	return 0, api.ErrNone
}

func (m *model) Forget() int {
	n := len(m.forwards)
	m.forwards = nil
	return n
}

func (m *model) Has(addr int) bool { return m.begins(addr) != nil }

func (m *model) Find(addr int) (int, api.Errno) {
	if o := m.owner(addr); o != nil {
		return o.addr, api.OK
	}
	return 0, api.ErrNone
}

func (m *model) At(ident int) (int, api.Errno) {
	for _, o := range m.things {
		if o.ident == ident {
			return o.addr, api.OK
		}
	}
	return 0, api.ErrNone
}

func (m *model) Ident(addr int) (int, api.Errno) {
	if o := m.begins(addr); o != nil {
		return o.ident, api.OK
	}
	return 0, api.ErrNone
}

func (m *model) Shape(addr int) (api.Shape, api.Errno) {
	if o := m.begins(addr); o != nil {
		return o.shape, api.OK
	}
	return api.Shape{}, api.ErrNone
}

// field returns a reference (or a data word) of an object.
func (m *model) field(addr, i int, data bool) (*int, api.Errno) {
	o := m.begins(addr)
	if o == nil {
		return nil, api.ErrNone
	}
	list := o.fields[:o.shape.Refs]
	if data {
		list = o.fields[o.shape.Refs:]
	}
	if i < 0 || i >= len(list) {
		return nil, api.ErrArg
	}
	return &list[i], api.OK
}

func (m *model) get(addr, i int, data bool) (int, api.Errno) {
	f, e := m.field(addr, i, data)
	if f == nil {
		return 0, e
	}
	return *f, e
}

func (m *model) Ref(addr, i int) (int, api.Errno) { return m.get(addr, i, false) }

func (m *model) Data(addr, i int) (int, api.Errno) { return m.get(addr, i, true) }

func (m *model) SetRef(addr, i, to int) api.Errno {
	f, e := m.field(addr, i, false)
	if f == nil {
		return e
	}
	if to != 0 && !m.Has(to) {
		return api.ErrArg
	}
	*f = to
	return api.OK
}

func (m *model) SetData(addr, i, v int) api.Errno {
	f, e := m.field(addr, i, true)
	if f == nil {
		return e
	}
	*f = v
	return api.OK
}

func (m *model) Word(addr int) (int, api.Errno) {
	if !m.isWord(addr) {
		return 0, api.ErrArg
	}
	o := m.owner(addr)
	if o == nil {
		return 0, api.OK
	}
	words := append([]int{o.ident, o.shape.Refs + 16*o.shape.Data + 4096*o.shape.Kind}, o.fields...)
	return append(words, 0)[addr-o.addr], api.OK
}

func (m *model) Poke(addr, v int) api.Errno {
	if !m.isWord(addr) {
		return api.ErrArg
	}
	o := m.owner(addr)
	if o == nil || addr < o.addr+2 || addr >= o.addr+2+len(o.fields) {
		return api.ErrNone
	}
	o.fields[addr-o.addr-2] = v
	return api.OK
}

func (m *model) setPin(addr int, pinned bool) api.Errno {
	o := m.begins(addr)
	if o == nil {
		return api.ErrNone
	}
	o.pinned = pinned
	return api.OK
}

func (m *model) Pin(addr int) api.Errno { return m.setPin(addr, true) }

func (m *model) Unpin(addr int) api.Errno { return m.setPin(addr, false) }

func (m *model) Pinned(addr int) bool {
	o := m.begins(addr)
	return o != nil && o.pinned
}

func (m *model) Objects(block int) []int {
	var list []int
	for _, addr := range m.All() {
		if addr/64 == block {
			list = append(list, addr)
		}
	}
	return list
}

func (m *model) All() []int {
	var list []int
	for _, o := range m.things {
		list = append(list, o.addr)
	}
	slices.Sort(list)
	return list
}

func (m *model) Gaps(block int) []api.Run {
	if m.State(block) != api.BlockUsed {
		return nil
	}
	var gaps []api.Run
	before := -1 // the last word of a gap
	for addr := 64 * block; addr < 64*block+64; addr++ {
		if m.owner(addr) != nil {
			continue
		}
		if before != addr-1 || len(gaps) == 0 {
			gaps = append(gaps, api.Run{Start: addr})
		}
		gaps[len(gaps)-1].Size++
		before = addr
	}
	return gaps
}

func (m *model) Lines(block int) []bool {
	if m.State(block) != api.BlockUsed {
		return nil
	}
	lines := make([]bool, 8)
	for i := range 64 {
		if m.owner(64*block+i) != nil {
			lines[i/8] = true
		}
	}
	return lines
}

func (m *model) Blocks() int { return len(m.states) }

func (m *model) State(block int) int {
	if block < 0 || block >= len(m.states) {
		return -1
	}
	return m.states[block]
}

func (m *model) Space(block int) int {
	if block < 0 || block >= len(m.states) {
		return -1
	}
	return m.spaces[block]
}

func (m *model) Births() int { return m.births }

func (m *model) Used() int {
	n := 0
	for _, o := range m.things {
		n += o.words()
	}
	return n
}
