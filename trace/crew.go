package trace

const leastStolenFrom = 2 // a list of one element is left to its own worker

// crew is workers that mark together, turn by turn.
type crew struct {
	marks
	lists   []queue[int] // of the workers, by their numbers
	scanned []int        // how many objects each of them scanned
	stolen  int
}

// trace marks what is kept because of the addresses that places hold.
func (c *crew) trace(leads []int) {
	c.deal(leads)
	c.work()
	for c.deal(c.values()) {
		c.work()
	}
}

// deal marks the objects with some addresses and adds them to the lists of the workers, in turn; it tells whether there was one that was not marked before.
func (c *crew) deal(addrs []int) bool {
	dealt := 0
	for _, addr := range addrs {
		if c.add(addr) {
			c.lists[dealt%len(c.lists)].add(addr)
			dealt++
		}
	}
	return dealt > 0
}

// work lets the workers have their turns until all lists are empty.
func (c *crew) work() {
turns:
	for {
		for worker := range c.lists {
			if len(c.lists[c.longest()]) == 0 {
				break turns
			}
			c.turn(worker)
		}
	}
}

func (c *crew) turn(worker int) {
	list := &c.lists[worker]
	if len(*list) == 0 {
		c.steal(list)
		return
	}
	c.scanned[worker]++
	for _, addr := range strong(c.heap, list.remove(newestFirst)) {
		if c.add(addr) {
			list.add(addr)
		}
	}
}

// steal adds the oldest element of the longest list to a list, if that leaves something.
func (c *crew) steal(list *queue[int]) {
	longest := &c.lists[c.longest()]
	if len(*longest) < leastStolenFrom {
		return
	}
	c.stolen++
	list.add(longest.remove(oldestFirst))
}

// longest returns the worker with the longest list; of several the one with the least number.
func (c *crew) longest() int {
	most := 0
	for worker, list := range c.lists {
		if len(list) > len(c.lists[most]) {
			most = worker
		}
	}
	return most
}
