package prio

// queue is what package container/heap keeps in order, the item that goes first of all in front; and at which place each ID is, as it may be any one that is taken out.
type queue struct {
	items  []Item
	places map[uint32]int
}

// Len answers how many items there are.
func (q *queue) Len() int { return len(q.items) }

// Less tells whether the item at the place i goes ahead of that at j.
func (q *queue) Less(i, j int) bool { return First(q.items[i], q.items[j]) }

// Swap has two items change places.
func (q *queue) Swap(i, j int) {
	q.items[i], q.items[j] = q.items[j], q.items[i]
	q.places[q.items[i].ID] = i
	q.places[q.items[j].ID] = j
}

// Push adds an item behind all.
func (q *queue) Push(x any) {
	item := x.(Item)
	q.places[item.ID] = len(q.items)
	q.items = append(q.items, item)
}

// Pop takes the last item out.
func (q *queue) Pop() any {
	last := len(q.items) - 1
	item := q.items[last]
	q.items = q.items[:last]
	delete(q.places, item.ID)
	return item
}
