package trace_test

import (
	"slices"

	"dustcart/api"
)

// plain does what the chapter says, sentence by sentence, by the words of a heap, however slowly.
type plain struct {
	world
	shapes map[int]api.Shape // of all objects, by their addresses
	held   []int             // what the places hold, in their order
	marked map[int]bool
}

func (w world) plain() *plain {
	p := &plain{world: w, shapes: map[int]api.Shape{}, marked: map[int]bool{}}
	for _, addr := range w.h.All() {
		v := p.word(addr + 1)
		p.shapes[addr] = api.Shape{Refs: v % 16, Data: v / 16 % 256, Kind: v / 4096}
	}
	for _, place := range w.r.Places() {
		addr, _ := w.r.Get(place)
		p.held = append(p.held, addr)
	}
	return p
}

func (p *plain) word(addr int) int {
	v, _ := p.h.Word(addr)
	return v
}

func (p *plain) isObject(addr int) bool {
	_, is := p.shapes[addr]
	return is
}

func (p *plain) strong(addr int) []int {
	s := p.shapes[addr]
	var list []int
	for i := range s.Refs {
		isKey := i == 0 && (s.Kind == 1 || s.Kind == 2)
		isValue := i == 1 && s.Kind == 2
		if !isKey && !isValue {
			list = append(list, p.word(addr+2+i))
		}
	}
	return list
}

// mark marks an address; it tells whether something was marked by this.
func (p *plain) mark(addr int) bool {
	if !p.isObject(addr) || p.marked[addr] {
		return false
	}
	p.marked[addr] = true
	return true
}

// all are the marked objects, by their addresses.
func (p *plain) all() []int {
	var list []int
	for addr := range p.marked {
		list = append(list, addr)
	}
	slices.Sort(list)
	return list
}

// kept is the least set that DOC.md describes: objects are added as long as one is missing.
func (p *plain) kept() []int {
	p.marked = map[int]bool{}
	for missing := true; missing; {
		missing = false
		for _, addr := range p.held {
			missing = p.mark(addr) || missing
		}
		for _, addr := range p.all() {
			for _, to := range p.strong(addr) {
				missing = p.mark(to) || missing
			}
			if p.shapes[addr].Kind == 2 && p.marked[p.word(addr+2)] {
				missing = p.mark(p.word(addr+3)) || missing
			}
		}
	}
	return p.all()
}

// round is what a round reaches, in its order.
func (p *plain) round() []int {
	before := p.all()
	var values []int
	for _, addr := range before {
		if p.shapes[addr].Kind == 2 && slices.Contains(before, p.word(addr+2)) {
			values = append(values, p.word(addr+3))
		}
	}
	return values
}

// marking is Mark in the plain way.
type marking struct {
	*plain
	order, limit int
	list         []int
	overflows    int // since the last rescan
	api.Traced
}

func (m *marking) reach(addr int) bool {
	if !m.mark(addr) {
		return false
	}
	if len(m.list) == m.limit {
		m.overflows++
		m.Overflows++
		return true
	}
	m.list = append(m.list, addr)
	if len(m.list) > m.Deepest {
		m.Deepest = len(m.list)
	}
	return true
}

func (m *marking) scan(addr int) {
	m.Scanned++
	for _, to := range m.strong(addr) {
		m.reach(to)
	}
}

func (m *marking) step2() {
	for len(m.list) > 0 {
		at := 0
		if m.order == Newest {
			at = len(m.list) - 1
		}
		addr := m.list[at]
		m.list = slices.Delete(m.list, at, at+1)
		m.scan(addr)
	}
}

func (m *marking) step3() {
	if m.overflows == 0 {
		return
	}
	m.overflows = 0
	m.Rescans++
	for _, addr := range m.all() {
		m.scan(addr)
		m.step2()
	}
	m.step3()
}

func (m *marking) step4() bool {
	m.Rounds++
	something := false
	for _, value := range m.round() {
		if m.reach(value) {
			something = true
		}
	}
	return something
}

// traced is what Mark returns: the marked objects, and what was done.
func (p *plain) traced(order, limit int) (list []int, done api.Traced) {
	p.marked = map[int]bool{}
	m := marking{plain: p, order: order, limit: limit}
	for _, addr := range p.held {
		m.reach(addr)
	}
	for {
		m.step2()
		m.step3()
		if !m.step4() {
			return p.all(), m.Traced
		}
	}
}

// share is Share in the plain way.
func (p *plain) share(workers int) (list, counts []int, stolen int) {
	p.marked = map[int]bool{}
	lists := make([][]int, workers)
	counts = make([]int, workers)
	deal := func(addrs []int) bool {
		dealt := 0
		for _, addr := range addrs {
			if p.mark(addr) {
				lists[dealt] = append(lists[dealt], addr)
				dealt = (dealt + 1) % workers
			}
		}
		return slices.ContainsFunc(lists, func(l []int) bool { return len(l) > 0 })
	}
	deal(p.held)
	for {
		for turn := 0; slices.ContainsFunc(lists, func(l []int) bool { return len(l) > 0 }); turn++ {
			w := turn % workers
			if n := len(lists[w]); n > 0 {
				addr := lists[w][n-1]
				lists[w] = slices.Clone(lists[w][:n-1])
				counts[w]++
				for _, to := range p.strong(addr) {
					if p.mark(to) {
						lists[w] = append(lists[w], to)
					}
				}
				continue
			}
			longest := 0
			for i := workers - 1; i >= 0; i-- {
				if len(lists[i]) >= len(lists[longest]) {
					longest = i
				}
			}
			if len(lists[longest]) >= 2 {
				lists[w] = []int{lists[longest][0]}
				lists[longest] = lists[longest][1:]
				stolen++
			}
		}
		if !deal(p.round()) {
			return p.all(), counts, stolen
		}
	}
}

// clear is Clear in the plain way, of marks of some addresses.
func (p *plain) clear(marked []int) int {
	changed := 0
	isMarked := func(addr int) bool { return p.isObject(addr) && slices.Contains(marked, addr) }
	for addr, s := range p.shapes {
		if s.Kind != 1 && s.Kind != 2 || !isMarked(addr) || isMarked(p.word(addr+2)) {
			continue
		}
		if p.word(addr+2) != 0 || s.Kind == 2 && p.word(addr+3) != 0 {
			changed++
		}
		p.h.Poke(addr+2, 0)
		if s.Kind == 2 {
			p.h.Poke(addr+3, 0)
		}
	}
	return changed
}

// distances tells for each object how many strong references lead from it to one of them, at least, if any do.
func (p *plain) distances(to int) map[int]int {
	far := map[int]int{to: 0}
	for n := 0; ; n++ {
		var next []int
		for addr := range p.shapes {
			if _, known := far[addr]; known {
				continue
			}
			if slices.ContainsFunc(p.strong(addr), func(ref int) bool { d, known := far[ref]; return known && d == n }) {
				next = append(next, addr)
			}
		}
		if len(next) == 0 {
			return far
		}
		for _, addr := range next {
			far[addr] = n + 1
		}
	}
}

// shortest is Shortest in the plain way: the least object of those that are nearest, again and again.
func (p *plain) shortest(to int) []int {
	if !p.isObject(to) {
		return nil
	}
	far := p.distances(to)
	nearest := func(among []int) int {
		best := -1
		for _, addr := range among {
			d, known := far[addr]
			if known && (best < 0 || d < far[best] || d == far[best] && addr < best) {
				best = addr
			}
		}
		return best
	}
	at := nearest(p.held)
	if at < 0 {
		return nil
	}
	list := []int{at}
	for at != to {
		at = nearest(p.strong(at))
		list = append(list, at)
	}
	return list
}
