package trace

// The orders in which the elements of a queue are removed.
const (
	newestFirst = 0
	oldestFirst = 1
)

func isOrder(order int) bool {
	return order == newestFirst || order == oldestFirst
}

// queue is elements that wait; the oldest one comes first.
type queue[T any] []T

func (q *queue[T]) add(item T) {
	*q = append(*q, item)
}

// remove removes the first element in an order. The queue must not be empty.
func (q *queue[T]) remove(order int) T {
	items := *q
	last := len(items) - 1
	if order == oldestFirst {
		*q = items[1:]
		return items[0]
	}
	*q = items[:last]
	return items[last]
}
