package compact_test

import (
	"testing"

	"dustcart/api"
)

// Objects of all four kinds: which of their references keep, which are cleared, and that all others lead to where objects are then.
func TestKinds(t *testing.T) {
	w := newWorld(t, 8, 1)
	w.put(64, words4)
	dead, live := w.put(68, words2), w.put(70, words2)
	weakDead := w.node(72, api.Weak, dead, live, 0, live)
	weakLive := w.node(78, api.Weak, live, live, 0, 0)
	weakNone := w.node(84, api.Weak, 0, live, 0, 0)
	keyDead := w.node(90, api.Ephemeron, dead, live, live, weakDead)
	keyNone := w.node(96, api.Ephemeron, 0, live, weakLive, 0)
	value := w.put(102, words4)
	keyLive := w.node(106, api.Ephemeron, live, value, 0, 0)
	empty := w.node(112, api.Ephemeron, 0, 0, weakDead, 0)
	plain := w.node(118, api.Plain, live, weakDead, weakLive, weakNone)
	special := w.node(128, api.Special, keyDead, keyNone, keyLive, empty)
	w.node(136, api.Weak, dead, plain) // not kept
	w.also(plain)
	w.also(special)
	w.collects(everywhere, api.Report{Kept: 11, KeptWords: 60, Freed: 3, FreedWords: 10, Moved: 11, MovedWords: 60, Scanned: 11, Cleared: 3},
		moves(live, 64, weakDead, 66, weakLive, 72, weakNone, 78, keyDead, 84, keyNone, 90, value, 96, keyLive, 100, empty, 106, plain, 112, special, 118)...)
	w.at(4, 66, 0, 64, 0, 64)
	w.at(5, 72, 64, 64, 0, 0)
	w.at(6, 78, 0, 64, 0, 0)
	w.at(7, 84, 0, 0, 64, 66)
	w.at(8, 90, 0, 0, 72, 0)
	w.at(10, 100, 64, 96, 0, 0)
	w.at(11, 106, 0, 0, 66, 0)
	w.at(12, 112, 64, 66, 72, 78)
	w.at(13, 118, 84, 90, 100, 106)
}

// The references 0 and 1 of Weak and Ephemeron objects that lead to what is before them, behind them, in another space, large, pinned, and themselves, whether they are moved themselves or not.
func TestLooseReferences(t *testing.T) {
	w := newWorld(t, 8, 2)
	w.put(64, words2)
	before := w.put(66, words4)
	w.put(80, api.Shape{Refs: 1, Kind: api.Weak})
	w.put(84, api.Shape{Refs: 2, Kind: api.Ephemeron})
	w.put(88, api.Shape{Refs: 1, Kind: api.Weak})
	w.put(92, api.Shape{Refs: 2, Kind: api.Ephemeron})
	behind := w.put(100, words2)
	w.claim(2, 3)
	other := w.put(200, words6)
	w.put(256, api.Shape{Refs: 1, Data: 40, Kind: api.Weak})
	w.put(320, api.Shape{Refs: 2, Data: 40, Kind: api.Ephemeron})
	w.pin(88, 92)
	for i, addr := range []int{before, behind, other, 80, 84, 88, 92, 256, 320} {
		w.set(slot(1, i), addr)
	}
	ends := []struct{ from, to int }{{before, 64}, {behind, 76}, {other, 192}, {80, 68}, {84, 72}, {88, 88}, {92, 92}, {256, 256}, {320, 320}}
	for i, x := range ends {
		y := ends[(i+4)%len(ends)]
		c := w.clone()
		for _, weak := range []int{80, 88, 256} {
			c.refs(weak, x.from)
		}
		for _, pair := range []int{84, 92, 320} {
			c.refs(pair, x.from, y.from)
		}
		c.collects(everywhere, api.Report{Kept: 9, KeptWords: 116, Freed: 1, FreedWords: 2, Moved: 5, MovedWords: 20, Scanned: 9},
			moves(other, 192, before, 64, 80, 68, 84, 72, behind, 76)...)
		for _, weak := range []int{68, 88, 256} {
			ident := c.ident(weak)
			c.at(ident, weak, x.to)
		}
		for _, pair := range []int{72, 92, 320} {
			ident := c.ident(pair)
			c.at(ident, pair, x.to, y.to)
		}
	}
}

// Keys that are not kept: both references are cleared, whatever keeps the value; an Ephemeron that is not kept keeps no value, and is not cleared.
func TestKeyNever(t *testing.T) {
	w := newWorld(t, 4, 1)
	dead, deadValue, live := w.put(64, words2), w.put(66, words2), w.put(68, words2)
	for _, addr := range []int{
		w.node(72, api.Ephemeron, dead, deadValue),
		w.node(76, api.Ephemeron, dead, live),
		w.node(80, api.Ephemeron, 0, live),
		w.node(84, api.Ephemeron, 0, 0),
		w.node(88, api.Ephemeron, dead, 0),
		w.node(92, api.Ephemeron, live, 0),
	} {
		w.also(addr)
	}
	w.node(96, api.Ephemeron, live, deadValue) // not kept
	w.node(100, api.Ephemeron, dead, live)     // neither
	w.also(live)
	w.collects(everywhere, api.Report{Kept: 7, KeptWords: 26, Freed: 4, FreedWords: 12, Moved: 7, MovedWords: 26, Scanned: 7, Cleared: 4},
		moves(68, 64, 72, 66, 76, 70, 80, 74, 84, 78, 88, 82, 92, 86)...)
	for i, addr := range []int{66, 70, 74, 78, 82} {
		w.at(4+i, addr, 0, 0)
	}
	w.at(9, 86, 64, 0)
}

// Chains of Ephemerons whose values are keys, against the order of the addresses; and such that keep themselves only.
func TestChains(t *testing.T) {
	w := newWorld(t, 6, 1)
	w.put(64, words20)
	var keys []int
	for i := range 6 {
		keys = append(keys, w.put(90+4*i, words2))
	}
	for i := range 5 {
		w.also(w.node(128+6*i, api.Ephemeron, keys[4-i], keys[5-i]))
	}
	loop := w.put(192, api.Shape{Refs: 2, Kind: api.Ephemeron})
	w.refs(loop, loop, loop)
	alone := w.clone()
	w.also(keys[0])
	w.collects(everywhere, api.Report{Kept: 11, KeptWords: 32, Freed: 2, FreedWords: 24, Moved: 11, MovedWords: 32, Scanned: 11},
		moves(90, 64, 94, 66, 98, 68, 102, 70, 106, 72, 110, 74, 128, 76, 134, 80, 140, 84, 146, 88, 152, 92)...)
	for i := range 5 {
		w.at(8+i, 76+4*i, 72-2*i, 74-2*i)
	}
	alone.also(keys[5]) // which keeps none of the others
	alone.collects(everywhere, api.Report{Kept: 6, KeptWords: 22, Freed: 7, FreedWords: 34, Moved: 6, MovedWords: 22, Scanned: 6, Cleared: 5},
		moves(110, 64, 128, 66, 134, 70, 140, 74, 146, 78, 152, 82)...)
	alone.at(8, 66, 0, 0)
}

// Kinds that slide in one space only: what is cleared is cleared everywhere, and references to the moved ones are changed everywhere.
func TestKindsOfOneSpace(t *testing.T) {
	w := newWorld(t, 8, 1)
	dead := w.put(64, words2)
	live := w.put(66, words2)
	w.node(70, api.Weak, dead, live)
	w.claim(1, 2)
	w.node(130, api.Weak, live, live)
	w.node(136, api.Weak, dead, live)
	w.node(142, api.Ephemeron, dead, live)
	w.node(148, api.Ephemeron, live, 130)
	for _, addr := range []int{live, 70, 130, 136, 142, 148} {
		w.also(addr)
	}
	x := api.Report{Kept: 6, KeptWords: 22, Freed: 1, FreedWords: 2, Scanned: 6, Cleared: 3}
	first, second, third := w.clone(), w.clone(), w.clone()
	x.Moved, x.MovedWords = 2, 6
	first.collects(home, x, moves(66, 64, 70, 66)...)
	first.at(3, 66, 0, 64)
	first.at(4, 130, 64, 64)
	first.at(5, 136, 0, 64)
	first.at(6, 142, 0, 0)
	first.at(7, 148, 64, 130)
	x.Moved, x.MovedWords = 4, 16
	second.collects(1, x, moves(130, 128, 136, 132, 142, 136, 148, 140)...)
	second.at(3, 70, 0, 66)
	second.at(4, 128, 66, 66)
	second.at(5, 132, 0, 66)
	second.at(6, 136, 0, 0)
	second.at(7, 140, 66, 128)
	x.Moved, x.MovedWords = 0, 0
	third.collects(0, x)
	third.at(7, 148, 66, 130)
	third.has(66, 70, 130, 136, 142, 148)
}
