package copying_test

import (
	"testing"

	"dustcart/api"
	"dustcart/copying"
	"dustcart/heap"
	"dustcart/roots"
)

// refusesBoth checks that Collect and Room return an error, and change nothing.
func (w world) refusesBoth(what string, want api.Errno) {
	w.t.Helper()
	before := w.state()
	for _, order := range []int{oldest, newest} {
		if x, moves, e := copying.Collect(w.h, w.r, 1, order); x != (api.Report{}) || len(moves) != 0 || e != want {
			w.t.Errorf("%s: Collect: %+v, %v, error %d, want error %d", what, x, moves, e, want)
		}
		if n, e := copying.Room(w.h, w.r, order); n != 0 || e != want {
			w.t.Errorf("%s: Room: %d, error %d, want error %d", what, n, e, want)
		}
	}
	w.unchanged(what, before)
}

// fourKinds makes two objects of each kind, of which one is kept, each with references to itself: the addresses.
func fourKinds(t *testing.T) (world, []int) {
	t.Helper()
	w := newWorld(t, 5, 2)
	var all []int
	for i := range 8 {
		addr := w.put(64+64*(i/4)+6*(i%4), api.Shape{Refs: 3, Data: 1, Kind: i % 4})
		w.refs(addr, addr, addr, addr)
		all = append(all, addr)
	}
	w.lead(all[:4]...)
	return w, all
}

// noObjects are numbers that are neither 0 nor the address of an object of fourKinds.
func noObjects() []int {
	return append([]int{1, 2, 62, 63, 65, 66, 67, 126, 127, 192, 254, 256, 300, 4096, -1, -2, -64}, beyond...)
}

// Numbers that are no spaces, and no orders.
func TestNoSpaceNoOrder(t *testing.T) {
	w, all := fourKinds(t)
	broken, full := w.clone(), w.clone()
	broken.ok("Poke", broken.h.Poke(all[0]+2, 1000))
	full.fill(1)
	for _, c := range []world{w, broken, full} {
		before := c.state()
		for _, n := range append([]int{-1, -2, -8, api.MaxSpaces, api.MaxSpaces + 1, 64}, beyond...) {
			for _, order := range []int{0, 1, 2, -1, n} {
				c.refuses(n, order, api.ErrArg)
			}
			for space := range api.MaxSpaces {
				c.refuses(space, n, api.ErrArg)
			}
		}
		for _, order := range append([]int{2, 3, -1, -2, 7}, beyond...) {
			for space := range api.MaxSpaces {
				c.refuses(space, order, api.ErrArg)
			}
			if n, e := copying.Room(c.h, c.r, order); n != 0 || e != api.ErrArg {
				t.Errorf("Room(%d): %d, error %d", order, n, e)
			}
		}
		c.unchanged("after Room and Collect that were refused", before)
	}
}

// All spaces and both orders are allowed.
func TestAllSpacesAndOrders(t *testing.T) {
	w, _ := fourKinds(t)
	for space := range api.MaxSpaces {
		for _, order := range []int{oldest, newest} {
			c := w.clone()
			if x, _ := c.collect(space, order); x.Kept != 4 || x.Freed != 4 || x.Moved != 4 {
				t.Errorf("Collect(%d, %d): %+v", space, order, x)
			}
		}
	}
}

// Heaps and roots that no function returned, ahead of what is not sound, and of too little room.
func TestNoHeapNoRoots(t *testing.T) {
	w, all := fourKinds(t)
	broken, full := w.clone(), w.clone()
	broken.ok("Poke", broken.h.Poke(all[0]+2, 1000))
	full.fill(1)
	for _, c := range []world{w, broken, full} {
		before := c.state()
		for _, r := range []*roots.Roots{c.r, nil, {}} {
			for _, h := range []*heap.Heap{c.h, nil, {}} {
				if r == c.r && h == c.h {
					continue
				}
				for _, order := range []int{oldest, newest, 2} {
					if x, moves, e := copying.Collect(h, r, 0, order); x != (api.Report{}) || len(moves) != 0 || e != api.ErrArg {
						t.Errorf("Collect: %+v, %v, error %d", x, moves, e)
					}
					if n, e := copying.Room(h, r, order); n != 0 || e != api.ErrArg {
						t.Errorf("Room: %d, error %d", n, e)
					}
				}
			}
		}
		c.unchanged("after Room and Collect of none", before)
	}
}

// Heaps that are not sound: any reference of any object, kept or not, of any kind, also such as do not keep.
func TestBrokenReferences(t *testing.T) {
	w, all := fourKinds(t)
	for _, addr := range all {
		for ref := range 3 {
			for _, v := range noObjects() {
				c := w.clone()
				c.ok("Poke", c.h.Poke(addr+2+ref, v))
				c.refusesBoth(line("reference ", ref, " of ", addr, " being ", v), api.ErrState)
			}
			for _, v := range []int{0, all[7]} {
				c := w.clone()
				c.ok("Poke", c.h.Poke(addr+2+ref, v))
				c.collect(0, ref%2)
			}
		}
		c := w.clone()
		c.ok("Poke", c.h.Poke(addr+5, 65)) // a data word may be anything
		c.collect(0, oldest)
	}
}

// Places that lead to no object.
func TestBrokenPlaces(t *testing.T) {
	w, all := fourKinds(t)
	for _, p := range []api.Place{slot(0, 0), slot(0, 5), slot(1, 15), global(0), global(15)} {
		for _, v := range noObjects() {
			if v < 0 {
				continue
			}
			c := w.clone()
			c.set(p, v)
			c.refusesBoth(line("place ", p, " being ", v), api.ErrState)
		}
		c := w.clone()
		c.set(p, all[5])
		c.collect(0, oldest)
	}
	w.push(all[4])
	w.clone().collect(0, oldest)
	w.push(all[4] + 2)
	w.refusesBoth("an element of the queue", api.ErrState)
}

// A reference to an object that was killed, or moved: forwards do not make it sound.
func TestLostObjects(t *testing.T) {
	w := newWorld(t, 5, 1)
	a, b := w.put(64, api.Shape{Refs: 15}), w.put(128, words4)
	w.ok("SetRef", w.h.SetRef(a, 14, b))
	killed, moved, led := w.clone(), w.clone(), w.clone()
	killed.ok("Kill", killed.h.Kill(b))
	killed.refusesBoth("after Kill", api.ErrState)
	moved.ok("Move", moved.h.Move(b, 130))
	moved.refusesBoth("after Move", api.ErrState)
	moved.ok("SetRef", moved.h.SetRef(a, 14, 130))
	moved.collects(0, oldest, api.Report{Freed: 2, FreedWords: 22})
	led.lead(b)
	led.collects(0, oldest, api.Report{Kept: 1, KeptWords: 4, Freed: 1, FreedWords: 18, Moved: 1, MovedWords: 4, Scanned: 1}, api.Move{From: b, To: 192})
	led.lead(b)
	led.refusesBoth("a place that leads to where an object was", api.ErrState)
}

// ErrState ahead of ErrFull.
func TestStateAheadOfFull(t *testing.T) {
	w, all := fourKinds(t)
	w.fill(1)
	w.room(oldest, 1)
	w.refuses(0, oldest, api.ErrFull)
	for _, addr := range all {
		c := w.clone()
		c.ok("Poke", c.h.Poke(addr+4, addr+2))
		c.refusesBoth("without room", api.ErrState)
	}
}
