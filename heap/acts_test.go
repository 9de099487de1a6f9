package heap_test

import (
	"fmt"
	"strings"
	"testing"

	"dustcart/api"
)

// dice are numbers in a fixed order that looks like none.
type dice uint32

func (d *dice) next(n int) int {
	*d = *d*1664525 + 1013904223
	return int(*d>>12) % n
}

// among returns one of some numbers.
func (d *dice) among(list ...int) int {
	return list[d.next(len(list))]
}

// object returns the address of an object most of the time, and any number near the heap otherwise.
func (d *dice) object(m *model) int {
	if all := m.All(); len(all) > 0 && d.next(8) > 0 {
		return all[d.next(len(all))]
	}
	return d.next(64*m.Blocks()+8) - 4
}

// spot returns an even address most of the time, often one where a block begins or an object does.
func (d *dice) spot(m *model) int {
	switch d.next(8) {
	case 0, 1:
		return 64 * d.claimed(m)
	case 2:
		return d.object(m) + d.among(-4, -2, 0, 2, 4)
	case 3:
		return d.next(64*m.Blocks()+8) - 4
	default:
		return 64*d.claimed(m) + 2*d.next(32)
	}
}

// claimed returns a block, most of the time one that is not free.
func (d *dice) claimed(m *model) int {
	block := d.next(m.Blocks())
	for tries := 0; tries < 4 && m.State(block) == api.BlockFree; tries++ {
		block = d.next(m.Blocks())
	}
	return block
}

func (d *dice) shape() api.Shape {
	s := api.Shape{Refs: d.among(0, 1, 2, 3, 5, 15), Data: d.among(0, 0, 1, 2, 4, 7, 15, 40, 75, 110, 200), Kind: d.next(4)}
	if d.next(3) > 0 {
		s.Data %= 16 // small ones, most of the time
	}
	if d.next(20) == 0 {
		s.Refs = d.among(-1, 16)
	}
	return s
}

// An act does something and returns all that it tells.
type act func(x memory) string

func told(what string, addr, n int, e api.Errno) string {
	return fmt.Sprint(what, " ", addr, ": ", n, ", error ", int(e))
}

// blockAct returns an act on blocks.
func blockAct(d *dice, m *model) act {
	block, blocks, space := d.next(m.Blocks()+1), d.among(0, 1, 1, 2, 2, 3, 4), d.among(0, 1, 2, 7, 7, 3, 8)
	switch d.next(6) {
	case 0, 1:
		return func(x memory) string { return told("Claim", block, space, x.Claim(block, space)) }
	case 2, 3:
		return func(x memory) string { return told("ClaimLarge", block, blocks, x.ClaimLarge(block, blocks, space)) }
	case 4:
		return func(x memory) string { return told("Release", block, 0, x.Release(block)) }
	default:
		return func(x memory) string { return told("Retag", block, space, x.Retag(block, space)) }
	}
}

// objectAct returns an act on objects.
func objectAct(d *dice, m *model) act {
	addr, to, s := d.object(m), d.spot(m), d.shape()
	switch d.next(15) {
	case 0, 1, 2, 3, 4, 5:
		return func(x memory) string {
			ident, e := x.Place(to, s)
			return told("Place", to, ident, e)
		}
	case 6:
		return func(x memory) string { return told("Kill", addr, 0, x.Kill(addr)) }
	case 7, 8, 9, 10, 11:
		return func(x memory) string { return told("Move", addr, to, x.Move(addr, to)) }
	case 12, 13:
		return func(x memory) string { return told("Pin", addr, 0, x.Pin(addr)) }
	default:
		return func(x memory) string { return told("Unpin", addr, 0, x.Unpin(addr)) }
	}
}

// fieldAct returns an act on references and data words.
func fieldAct(d *dice, m *model) act {
	addr, to, i, v := d.object(m), d.object(m), d.next(6)-1, d.next(1<<20)-1<<19
	switch d.next(4) {
	case 0:
		return func(x memory) string { return told("SetRef", addr, to, x.SetRef(addr, i, to)) }
	case 1:
		return func(x memory) string { return told("SetRef", addr, 0, x.SetRef(addr, i, 0)) }
	case 2:
		return func(x memory) string { return told("SetData", addr, v, x.SetData(addr, i, v)) }
	default:
		return func(x memory) string { return told("Poke", addr+i, v, x.Poke(addr+i, v)) }
	}
}

func anyAct(d *dice, m *model) act {
	switch n := d.next(40); {
	case n < 8:
		return blockAct(d, m)
	case n < 30:
		return objectAct(d, m)
	case n < 39:
		return fieldAct(d, m)
	default:
		return func(x memory) string { return told("Forget", 0, x.Forget(), api.OK) }
	}
}

// P2.1 to P2.8: a long run of acts of all kinds, held against the model after each one.
func TestActsAgainstTheModel(t *testing.T) {
	tally := map[string]int{}
	for _, blocks := range []int{2, 3, 5, 9} {
		b, d := newBoth(t, blocks), dice(blocks)
		for range 2500 {
			words := strings.Fields(b.step(&d))
			tally[words[0]+" "+words[len(words)-1]]++
		}
	}
	for _, often := range []string{
		"Claim 0", "Claim 1", "Claim 8", "ClaimLarge 0", "ClaimLarge 1", "ClaimLarge 8", "Release 0", "Release 1", "Release 5", "Release 8", "Retag 0", "Retag 1", "Retag 5",
		"Place 0", "Place 1", "Place 2", "Place 5", "Place 8", "Kill 0", "Kill 4", "Move 0", "Move 1", "Move 4", "Move 5", "Move 8", "Pin 0", "Pin 4", "Unpin 0", "Unpin 4",
		"SetRef 0", "SetRef 1", "SetRef 4", "SetData 0", "SetData 1", "SetData 4", "Poke 0", "Poke 4", "Forget 0",
	} {
		if tally[often] < 10 {
			t.Errorf("the test itself is idle: %s occurred %d times", often, tally[often])
		}
	}
}

func (b both) step(d *dice) string {
	b.t.Helper()
	act := anyAct(d, b.m)
	want := act(b.m)
	if got := act(b.h); got != want {
		b.t.Fatalf("%s; want %s", got, want)
	}
	b.same(want)
	return want
}

// P2.9 and R8: a heap and its clone go on in the same way, whichever changes first, and neither sees the other's acts.
func TestClonesGoOnAlone(t *testing.T) {
	first, d := newBoth(t, 5), dice(77)
	for range 25 {
		for range 40 {
			first.step(&d)
		}
		second := both{t, first.h.Clone(), first.m.clone()}
		second.same("a new clone")
		for range 25 {
			first.step(&d)
		}
		second.same("a clone, after acts on the heap")
		for range 25 {
			second.step(&d)
		}
		first.same("the heap, after acts on its clone")
		if d.next(2) == 0 {
			first = second
		}
	}
}
