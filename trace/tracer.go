package trace

import "dustcart/api"

// tracer marks with one list of a bounded length.
type tracer struct {
	marks
	order, limit int
	list         queue[int]
	overflowed   bool // since the last rescan began
	done         api.Traced
}

// trace marks what is kept because of the addresses that places hold.
func (t *tracer) trace(leads []int) {
	t.reach(leads)
	t.finish()
	for t.round() {
		t.finish()
	}
}

// reach reaches addresses; it tells whether something was marked by this.
func (t *tracer) reach(addrs []int) bool {
	marked := false
	for _, addr := range addrs {
		if t.add(addr) {
			marked = true
			t.enlist(addr)
		}
	}
	return marked
}

// enlist adds an object that was marked to the list, if there is room.
func (t *tracer) enlist(addr int) {
	if len(t.list) >= t.limit {
		t.overflowed = true
		t.done.Overflows++
		return
	}
	t.list.add(addr)
	t.done.Deepest = max(t.done.Deepest, len(t.list))
}

func (t *tracer) scan(addr int) {
	t.done.Scanned++
	t.reach(strong(t.heap, addr))
}

// drain scans objects of the list until it is empty.
func (t *tracer) drain() {
	for len(t.list) > 0 {
		t.scan(t.list.remove(t.order))
	}
}

// finish scans until everything that strong references of marked objects lead to is marked: objects that found no room in the list are found by rescans.
func (t *tracer) finish() {
	t.drain()
	for t.overflowed {
		t.overflowed = false
		t.done.Rescans++
		for _, addr := range t.all() {
			t.scan(addr)
			t.drain()
		}
	}
}

// round reaches the values of Ephemerons; it tells whether something was marked by this.
func (t *tracer) round() bool {
	t.done.Rounds++
	return t.reach(t.values())
}
