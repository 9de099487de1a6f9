package copying_test

import (
	"testing"

	"dustcart/api"
)

// Objects of all four kinds: which of their references keep, and which are cleared.
func TestKinds(t *testing.T) {
	w := newWorld(t, 12, 1)
	dead, live := w.put(448, words2), w.put(450, words2)
	weakDead := w.node(64, api.Weak, dead, live, 0, live)
	weakLive := w.node(70, api.Weak, live, live, 0, 0)
	weakNone := w.node(128, api.Weak, 0, live, 0, 0)
	keyDead := w.node(134, api.Ephemeron, dead, live, live, weakDead)
	keyNone := w.node(192, api.Ephemeron, 0, live, weakLive, 0)
	value := w.put(256, words4)
	keyLive := w.node(198, api.Ephemeron, live, value, 0, 0)
	empty := w.node(204, api.Ephemeron, 0, 0, weakDead, 0)
	plain := w.node(320, api.Plain, live, weakDead, weakLive, weakNone)
	special := w.node(326, api.Special, keyDead, keyNone, keyLive, empty)
	w.node(384, api.Weak, dead, plain) // not kept
	w.lead(plain, special)
	w.collects(1, oldest, api.Report{Kept: 11, KeptWords: 60, Freed: 2, FreedWords: 6, Moved: 11, MovedWords: 60, Scanned: 11, Cleared: 3},
		api.Move{From: plain, To: 512}, api.Move{From: special, To: 518}, api.Move{From: live, To: 524},
		api.Move{From: weakDead, To: 526}, api.Move{From: weakLive, To: 532}, api.Move{From: weakNone, To: 538},
		api.Move{From: keyDead, To: 544}, api.Move{From: keyNone, To: 550}, api.Move{From: keyLive, To: 556}, api.Move{From: empty, To: 562}, api.Move{From: value, To: 568})
	w.at(3, 526, 0, 524, 0, 524)
	w.at(4, 532, 524, 524, 0, 0)
	w.at(5, 538, 0, 524, 0, 0)
	w.at(6, 544, 0, 0, 524, 526)
	w.at(7, 550, 0, 0, 532, 0)
	w.at(9, 556, 524, 568, 0, 0)
	w.at(10, 562, 0, 0, 526, 0)
	w.at(11, 512, 524, 526, 532, 538)
	w.at(12, 518, 544, 550, 556, 562)
	w.again(1)
}

// A Weak object whose target is evacuated before it, after it, in a round, not moved, itself, or not kept.
func TestWeak(t *testing.T) {
	w := newWorld(t, 8, 1)
	before, after, fixed, inRound, dead := w.put(64, words2), w.put(66, words2), w.put(68, words2), w.put(70, words2), w.put(72, words2)
	w.pin(fixed)
	weaks := []int{
		w.node(128, api.Weak, before), w.node(132, api.Weak, after), w.node(136, api.Weak, fixed), w.node(140, api.Weak, inRound),
		w.node(144, api.Weak, dead), w.put(148, api.Shape{Refs: 1, Kind: api.Weak}),
	}
	w.refs(148, 148)
	pair := w.node(152, api.Ephemeron, before, inRound)
	w.lead(append(append([]int{before}, weaks...), after, fixed, pair)...)
	w.collects(2, newest, api.Report{Kept: 11, KeptWords: 36, Freed: 1, FreedWords: 2, Moved: 10, MovedWords: 34, Scanned: 11, Cleared: 1},
		api.Move{From: 64, To: 192}, api.Move{From: 128, To: 194}, api.Move{From: 132, To: 198}, api.Move{From: 136, To: 202}, api.Move{From: 140, To: 206},
		api.Move{From: 144, To: 210}, api.Move{From: 148, To: 214}, api.Move{From: 66, To: 218}, api.Move{From: 152, To: 220}, api.Move{From: 70, To: 224})
	w.at(6, 194, 192)
	w.at(7, 198, 218)
	w.at(8, 202, 68)
	w.at(9, 206, 224)
	w.at(10, 210, 0)
	w.at(11, 214, 214)
	w.at(12, 220, 192, 224)
	w.again(2)
}

// An Ephemeron whose key is evacuated before it, and after it.
func TestKeyIsEvacuated(t *testing.T) {
	for _, order := range []int{oldest, newest} {
		w := newWorld(t, 4, 1)
		key, next, inner := w.put(64, words4), w.put(68, words2), w.put(70, words2)
		value := w.node(72, api.Plain, inner)
		pair := w.node(76, api.Ephemeron, key, value, next)
		after := w.clone()
		w.lead(key, pair)
		after.lead(pair, key)
		x := api.Report{Kept: 5, KeptWords: 18, Moved: 5, MovedWords: 18, Scanned: 5}
		rest := []api.Move{{From: next, To: 138}, {From: value, To: 140}, {From: inner, To: 144}}
		w.collects(0, order, x, append([]api.Move{{From: key, To: 128}, {From: pair, To: 132}}, rest...)...)
		after.collects(0, order, x, append([]api.Move{{From: pair, To: 128}, {From: key, To: 134}}, rest...)...)
		w.at(5, 132, 128, 140, 138)
		after.at(5, 128, 134, 140, 138)
		w.again(0)
	}
}

// A key that is evacuated in the same round, as the value of an Ephemeron before, counts in the next round only: what the first value leads to is evacuated before.
func TestKeyInTheSameRound(t *testing.T) {
	w := newWorld(t, 4, 1)
	key, last := w.put(64, words2), w.put(66, words2)
	inner, second := w.put(68, words2), w.put(70, words2)
	first := w.node(72, api.Plain, inner)
	pair := w.node(76, api.Ephemeron, key, first)
	chained := w.node(80, api.Ephemeron, first, second)
	third := w.node(84, api.Ephemeron, second, last)
	w.lead(key, third, pair, chained)
	for order := range 2 {
		c := w.clone()
		c.collects(0, order, api.Report{Kept: 8, KeptWords: 24, Moved: 8, MovedWords: 24, Scanned: 8},
			api.Move{From: key, To: 128}, api.Move{From: third, To: 130}, api.Move{From: pair, To: 134}, api.Move{From: chained, To: 138},
			api.Move{From: first, To: 142}, api.Move{From: inner, To: 146}, api.Move{From: second, To: 148}, api.Move{From: last, To: 150})
		c.again(0)
	}
}

// A key that is evacuated in a later round, when what the first value leads to is scanned; its Ephemeron is evacuated then, too.
func TestKeyInALaterRound(t *testing.T) {
	w := newWorld(t, 4, 1)
	key, other, end := w.put(64, words2), w.put(66, words2), w.put(68, words2)
	late := w.node(70, api.Ephemeron, other, end)
	value := w.node(74, api.Plain, late, other)
	pair := w.node(78, api.Ephemeron, key, value)
	waits := w.node(82, api.Ephemeron, end, key)
	w.lead(waits, pair, key)
	w.collects(0, oldest, api.Report{Kept: 7, KeptWords: 22, Moved: 7, MovedWords: 22, Scanned: 7},
		api.Move{From: waits, To: 128}, api.Move{From: pair, To: 132}, api.Move{From: key, To: 136}, api.Move{From: value, To: 138},
		api.Move{From: late, To: 142}, api.Move{From: other, To: 146}, api.Move{From: end, To: 148})
	w.again(0)
}

// Rounds look at Ephemerons in the order in which they were evacuated, whatever their addresses; all values of a round come before what they lead to.
func TestRoundsInOrder(t *testing.T) {
	for order, rest := range [][]api.Move{
		{{From: 66, To: 150}, {From: 68, To: 152}},
		{{From: 68, To: 150}, {From: 66, To: 152}},
	} {
		w := newWorld(t, 4, 1)
		key, x, y := w.put(64, words2), w.put(66, words2), w.put(68, words2)
		first, second := w.node(72, api.Plain, x), w.node(76, api.Plain, y)
		pair2, pair1 := w.node(92, api.Ephemeron, key, second), w.node(96, api.Ephemeron, key, first)
		top := w.node(100, api.Plain, pair1, pair2)
		w.lead(top, key)
		w.collects(0, order, api.Report{Kept: 8, KeptWords: 26, Moved: 8, MovedWords: 26, Scanned: 8}, append([]api.Move{
			{From: top, To: 128}, {From: key, To: 132}, {From: pair1, To: 134}, {From: pair2, To: 138}, {From: first, To: 142}, {From: second, To: 146}}, rest...)...)
		w.again(0)
	}
}

// Keys that are never evacuated: both references are cleared, whatever keeps the value; an Ephemeron that is not kept keeps no value.
func TestKeyNever(t *testing.T) {
	w := newWorld(t, 4, 1)
	dead, deadValue, live := w.put(64, words2), w.put(66, words2), w.put(68, words2)
	w.node(72, api.Ephemeron, dead, deadValue)
	w.node(76, api.Ephemeron, dead, live)
	w.node(80, api.Ephemeron, 0, live)
	w.node(84, api.Ephemeron, 0, 0)
	w.node(88, api.Ephemeron, dead, 0)
	w.node(92, api.Ephemeron, live, 0)
	w.node(96, api.Ephemeron, live, deadValue) // not kept
	w.lead(72, 76, 80, 84, 88, 92, live)
	w.collects(0, oldest, api.Report{Kept: 7, KeptWords: 26, Freed: 3, FreedWords: 8, Moved: 7, MovedWords: 26, Scanned: 7, Cleared: 4},
		api.Move{From: 72, To: 128}, api.Move{From: 76, To: 132}, api.Move{From: 80, To: 136}, api.Move{From: 84, To: 140},
		api.Move{From: 88, To: 144}, api.Move{From: 92, To: 148}, api.Move{From: live, To: 152})
	for i, addr := range []int{128, 132, 136, 140, 144} {
		w.at(4+i, addr, 0, 0)
	}
	w.at(9, 148, 152, 0)
	w.again(0)
}

// Ephemerons that are their own key, their own value, or both.
func TestEphemeronsOfThemselves(t *testing.T) {
	w := newWorld(t, 4, 1)
	value, dead := w.put(64, words2), w.put(66, words2)
	w.put(68, api.Shape{Refs: 2, Kind: api.Ephemeron})
	w.refs(68, 68, value)
	w.put(72, api.Shape{Refs: 3, Kind: api.Ephemeron})
	w.refs(72, 72, 72, 72)
	w.put(78, api.Shape{Refs: 2, Kind: api.Ephemeron})
	w.refs(78, dead, 78)
	w.put(82, api.Shape{Refs: 3, Kind: api.Ephemeron}) // not kept, whatever it keeps itself by
	w.refs(82, 82, 82, 82)
	w.lead(78, 72, 68)
	w.collects(0, oldest, api.Report{Kept: 4, KeptWords: 16, Freed: 2, FreedWords: 8, Moved: 4, MovedWords: 16, Scanned: 4, Cleared: 1},
		api.Move{From: 78, To: 128}, api.Move{From: 72, To: 132}, api.Move{From: 68, To: 138}, api.Move{From: value, To: 142})
	w.at(3, 138, 138, 142)
	w.at(4, 132, 132, 132, 132)
	w.at(5, 128, 0, 0)
	w.again(0)
}

// Ephemerons that lead to one another, as keys and as values.
func TestEphemeronsOfOneAnother(t *testing.T) {
	w := newWorld(t, 4, 1)
	x, y, key := w.put(64, words2), w.put(66, words2), w.put(68, words2)
	a, b := w.put(70, api.Shape{Refs: 2, Kind: api.Ephemeron}), w.put(74, api.Shape{Refs: 2, Kind: api.Ephemeron})
	w.refs(a, b, x)
	w.refs(b, a, y)
	one, both, chain, loop := w.clone(), w.clone(), w.clone(), w.clone()
	w.collects(0, oldest, api.Report{Freed: 5, FreedWords: 14})
	one.lead(a)
	one.collects(0, oldest, api.Report{Kept: 1, KeptWords: 4, Freed: 4, FreedWords: 10, Moved: 1, MovedWords: 4, Scanned: 1, Cleared: 1}, api.Move{From: a, To: 128})
	one.at(4, 128, 0, 0)
	both.lead(b, a)
	both.collects(0, oldest, api.Report{Kept: 4, KeptWords: 12, Freed: 1, FreedWords: 2, Moved: 4, MovedWords: 12, Scanned: 4},
		api.Move{From: b, To: 128}, api.Move{From: a, To: 132}, api.Move{From: y, To: 136}, api.Move{From: x, To: 138})
	both.at(4, 132, 128, 138)
	both.at(5, 128, 132, 136)
	chain.refs(a, key, b) // then b, and then y
	chain.lead(a, key)
	chain.collects(0, oldest, api.Report{Kept: 4, KeptWords: 12, Freed: 1, FreedWords: 2, Moved: 4, MovedWords: 12, Scanned: 4},
		api.Move{From: a, To: 128}, api.Move{From: key, To: 132}, api.Move{From: b, To: 134}, api.Move{From: y, To: 138})
	loop.refs(a, key, b) // b is kept only if it is kept already
	loop.refs(b, b, key)
	loop.lead(a)
	loop.collects(0, oldest, api.Report{Kept: 1, KeptWords: 4, Freed: 4, FreedWords: 10, Moved: 1, MovedWords: 4, Scanned: 1, Cleared: 1}, api.Move{From: a, To: 128})
}

// A value that leads to its own key keeps neither; a key that is fixed counts like any other.
func TestValueLeadsToItsKey(t *testing.T) {
	w := newWorld(t, 5, 1)
	pair, key := w.put(64, api.Shape{Refs: 2, Kind: api.Ephemeron}), w.put(70, words2)
	value := w.node(128, api.Plain, key)
	w.refs(pair, key, value)
	w.lead(pair)
	w.pin(key)
	kept := w.clone()
	w.collects(0, oldest, api.Report{Kept: 1, KeptWords: 4, Freed: 2, FreedWords: 6, Moved: 1, MovedWords: 4, Scanned: 1, Cleared: 1}, api.Move{From: pair, To: 192})
	w.has(192)
	kept.set(global(4), key)
	kept.collects(0, oldest, api.Report{Kept: 3, KeptWords: 10, Moved: 2, MovedWords: 8, Scanned: 3}, api.Move{From: pair, To: 192}, api.Move{From: value, To: 196})
	kept.at(1, 192, key, 196)
	kept.at(3, 196, key)
	kept.leads(global(4), key)
}

// Ephemerons, Weak objects and values that are fixed.
func TestFixedKinds(t *testing.T) {
	w := newWorld(t, 8, 1)
	key, value, dead := w.put(64, words2), w.put(66, words4), w.put(70, words2)
	pinned := w.node(72, api.Ephemeron, key, value)
	large := w.put(128, api.Shape{Refs: 2, Data: 40, Kind: api.Ephemeron})
	w.refs(large, value, pinned)
	weak := w.put(192, api.Shape{Refs: 1, Data: 40, Kind: api.Weak})
	w.refs(weak, dead)
	w.pin(pinned, value)
	w.lead(weak, large, key, pinned)
	w.collects(0, newest, api.Report{Kept: 5, KeptWords: 98, Freed: 1, FreedWords: 2, Moved: 1, MovedWords: 2, Scanned: 5, Cleared: 1}, api.Move{From: key, To: 256})
	w.has(66, 72, 128, 192, 256)
	w.at(4, 72, 256, 66)
	w.at(5, 128, 66, 72)
	w.at(6, 192, 0)
	w.again(0)
}
