package roots_test

import (
	"slices"
	"testing"

	"dustcart/api"
)

// P3.2: what is pushed is popped in the same order, whatever the length.
func TestQueueOrder(t *testing.T) {
	for length := range api.MaxQueue + 1 {
		b := newBoth(t, 1)
		for i := range length {
			b.push(100 - i)
		}
		b.same("after pushes")
		for i := range length {
			b.pop(100 - i)
			b.same("after Pop")
		}
		n, e := b.r.Pop()
		b.refused("Pop of an emptied queue", alone(n, e), api.ErrNone)
	}
}

func TestQueueFull(t *testing.T) {
	b := newBoth(t, 4)
	for i := range api.MaxQueue {
		b.push(i + 1)
	}
	for _, addr := range []int{1, 64, 65, beyond[len(beyond)-1]} {
		b.refused("Push on a full queue", b.r.Push(addr), api.ErrFull)
	}
	b.refused("Push of 0 on a full queue", b.r.Push(0), api.ErrArg)
	b.refused("Push of -1 on a full queue", b.r.Push(-1), api.ErrArg)
	b.pop(1)
	b.push(65)
	b.same("after room was made")
	b.refused("Push on a queue that is full again", b.r.Push(66), api.ErrFull)
}

// Elements go through queues of any length, so that these turn around many times.
func TestQueueTurns(t *testing.T) {
	for _, length := range []int{0, 1, 2, 31, 62, 63} {
		b := newBoth(t, 1)
		for i := range length {
			b.push(i + 1)
		}
		for i := range 500 {
			b.push(length + i + 1)
			if i%7 == 0 {
				b.set(queued(length), length+i+1)
			}
			if got := b.r.Queue(); len(got) != length+1 || got[0] != i+1 || got[length] != length+i+1 {
				t.Fatalf("turn %d: Queue = %v", i, got)
			}
			b.pop(i + 1)
		}
		b.same("after many turns")
	}
}

// The queue grows and shrinks to its limits, over and over.
func TestQueueFillsAndEmpties(t *testing.T) {
	b := newBoth(t, 2)
	next, oldest := 1, 1
	for round := range 20 {
		for len(b.m.queue) < 64 {
			b.push(next)
			next++
		}
		b.same("a full queue")
		for range 64 - round%3 {
			b.pop(oldest)
			oldest++
		}
		b.same("an emptied queue")
	}
}

// What Set changed is popped changed; the index of an element is counted from the oldest one at any time.
func TestSetOfElements(t *testing.T) {
	b := newBoth(t, 1)
	b.push(10, 20, 30, 40)
	b.set(queued(0), 11)
	b.set(queued(3), 41)
	b.pop(11)
	b.set(queued(1), 31)
	b.push(50)
	b.set(queued(3), 51)
	b.same("after Set of elements")
	b.pop(20)
	b.pop(31)
	b.pop(41)
	b.pop(51)
	b.same("after all were popped")
	for _, index := range []int{0, 1, 3} {
		b.refused("Set of an element that is gone", b.r.Set(queued(index), 5), api.ErrArg)
	}
}

// The other places have nothing to do with the queue.
func TestQueueAlone(t *testing.T) {
	b := newBoth(t, 2)
	b.set(slot(1, 4), 10)
	b.set(global(3), 20)
	b.push(30, 10, 20)
	if got := b.r.Queue(); !slices.Equal(got, []int{30, 10, 20}) {
		t.Errorf("Queue = %v", got)
	}
	b.set(slot(1, 4), 0)
	b.set(global(3), 0)
	b.same("after slots and globals were emptied")
	if got := b.r.Queue(); !slices.Equal(got, []int{30, 10, 20}) {
		t.Errorf("Queue = %v", got)
	}
	b.pop(30)
	b.pop(10)
	b.pop(20)
}
