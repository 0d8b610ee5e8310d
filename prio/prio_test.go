package prio_test

import (
	"math"
	"slices"
	"testing"

	"quadrille/api"
	"quadrille/prio"
)

// pushed answers a heap with those items.
func pushed(t *testing.T, items ...prio.Item) *prio.Heap {
	t.Helper()
	h := prio.New()
	for _, x := range items {
		answers(t, "Push", h.Push(x), api.OK)
	}
	return h
}

// answers fails the test unless the error is the one that is wanted.
func answers(t *testing.T, what string, got, want api.Errno) {
	t.Helper()
	if got != want {
		t.Fatalf("%s: error %d, want %d", what, got, want)
	}
}

// holds fails the test unless the heap's items are these, in the order in which they go.
func holds(t *testing.T, h *prio.Heap, want ...prio.Item) {
	t.Helper()
	if got := h.List(); !slices.Equal(got, want) {
		t.Fatalf("List: %v, want %v", got, want)
	}
	if n := h.Len(); n != len(want) {
		t.Fatalf("Len: %d, want %d", n, len(want))
	}
	if len(want) == 0 {
		want = append(want, prio.Item{})
		if got, ok := h.Peek(); ok || got != want[0] {
			t.Fatalf("Peek: %v, %v; want none", got, ok)
		}
		return
	}
	if got, ok := h.Peek(); !ok || got != want[0] {
		t.Fatalf("Peek: %v, %v; want %v", got, ok, want[0])
	}
	for _, x := range want {
		if !h.Has(x.ID) {
			t.Fatalf("Has(%d): false", x.ID)
		}
	}
}

// pops fails the test unless these items are popped, in that order, and none is there then.
func pops(t *testing.T, h *prio.Heap, want ...prio.Item) {
	t.Helper()
	for i, x := range want {
		if got, ok := h.Pop(); !ok || got != x {
			t.Fatalf("Pop %d: %v, %v; want %v", i, got, ok, x)
		}
		if h.Has(x.ID) {
			t.Fatalf("Has(%d) behind its Pop", x.ID)
		}
		if n := h.Len(); n != len(want)-i-1 {
			t.Fatalf("Len behind Pop %d: %d, want %d", i, n, len(want)-i-1)
		}
	}
	if got, ok := h.Pop(); ok || got != (prio.Item{}) {
		t.Fatalf("Pop of none: %v, %v", got, ok)
	}
}

func TestExample(t *testing.T) {
	one, two, three := prio.Item{ID: 1}, prio.Item{ID: 2, Tier: 3}, prio.Item{ID: 3, Tier: 3}
	pops(t, pushed(t, one, two, three), two, three, one)
}

func TestFirst(t *testing.T) {
	const most = math.MaxUint32
	// Of each two of these the one that stands ahead goes first.
	order := []prio.Item{
		{ID: most, Tier: 255, Since: most},
		{ID: 9, Tier: 3, Since: 0},
		{ID: 0, Tier: 3, Since: 1},
		{ID: 1, Tier: 3, Since: 1},
		{ID: most, Tier: 3, Since: 1},
		{ID: 0, Tier: 3, Since: 1 << 31},
		{ID: 0, Tier: 3, Since: most},
		{ID: 8, Tier: 2, Since: 0},
		{ID: 5, Tier: 0, Since: 4},
		{ID: 1 << 31, Tier: 0, Since: 4},
		{ID: 0, Tier: 0, Since: 5},
	}
	for i, a := range order {
		for j, b := range order {
			if got := prio.First(a, b); got != (i < j) {
				t.Errorf("First(%v, %v) = %v", a, b, got)
			}
		}
	}
}

func TestNewIsEmpty(t *testing.T) {
	h := prio.New()
	if h == nil {
		t.Fatal("New answers nil")
	}
	holds(t, h)
	if h.Has(0) {
		t.Fatal("Has(0) of an empty heap")
	}
	pops(t, h)
}

func TestHeapsAreApart(t *testing.T) {
	a, b := prio.New(), prio.New()
	answers(t, "Push", a.Push(prio.Item{ID: 1}), api.OK)
	holds(t, b)
	answers(t, "Remove", b.Remove(1), api.ErrNone)
	holds(t, a, prio.Item{ID: 1})
}

func TestPushTwice(t *testing.T) {
	x := prio.Item{ID: 7, Tier: 1, Since: 5}
	h := pushed(t, x)
	answers(t, "Push of the same", h.Push(x), api.ErrTwice)
	answers(t, "Push of a greater tier", h.Push(prio.Item{ID: 7, Tier: 2}), api.ErrTwice)
	holds(t, h, x)
	answers(t, "Push of another", h.Push(prio.Item{ID: 8, Tier: 1, Since: 5}), api.OK)
	pops(t, h, x, prio.Item{ID: 8, Tier: 1, Since: 5})
}

func TestPushAgainBehindPopAndRemove(t *testing.T) {
	x := prio.Item{ID: 7}
	h := pushed(t, x)
	pops(t, h, x)
	answers(t, "Push behind Pop", h.Push(x), api.OK)
	answers(t, "Remove", h.Remove(7), api.OK)
	holds(t, h)
	answers(t, "Push behind Remove", h.Push(prio.Item{ID: 7, Tier: 1}), api.OK)
	holds(t, h, prio.Item{ID: 7, Tier: 1})
}

// TestEveryNumber: no ID, Tier or Since is refused.
func TestEveryNumber(t *testing.T) {
	none, most := prio.Item{}, prio.Item{ID: math.MaxUint32, Tier: 255, Since: math.MaxUint32}
	h := pushed(t, none, most)
	holds(t, h, most, none)
	answers(t, "Change", h.Change(prio.Item{ID: 0, Tier: 255}), api.OK)
	pops(t, h, prio.Item{ID: 0, Tier: 255}, most)
}

func TestRemoveEach(t *testing.T) {
	items := ranked(20)
	for out := range items {
		h := pushed(t, turned(items, out*7)...)
		answers(t, "Remove", h.Remove(items[out].ID), api.OK)
		if h.Has(items[out].ID) {
			t.Fatalf("Has(%d) behind its Remove", items[out].ID)
		}
		answers(t, "Remove again", h.Remove(items[out].ID), api.ErrNone)
		rest := slices.Delete(slices.Clone(items), out, out+1)
		holds(t, h, rest...)
		pops(t, h, rest...)
	}
}

func TestRemoveNone(t *testing.T) {
	answers(t, "Remove of an empty heap", prio.New().Remove(0), api.ErrNone)
	h := pushed(t, prio.Item{ID: 1}, prio.Item{ID: 3})
	answers(t, "Remove", h.Remove(2), api.ErrNone)
	holds(t, h, prio.Item{ID: 1}, prio.Item{ID: 3})
}

// TestChangeEach has each of some items go to each place among them.
func TestChangeEach(t *testing.T) {
	items := ranked(12)
	for from := range items {
		for to := range len(items) {
			h := pushed(t, turned(items, from*5+to)...)
			rest := slices.Delete(slices.Clone(items), from, from+1)
			x := prio.Item{ID: items[from].ID, Tier: 1, Since: math.MaxUint32}
			if to < len(rest) {
				x.Tier, x.Since = rest[to].Tier, rest[to].Since-1
			}
			answers(t, "Change", h.Change(x), api.OK)
			want := slices.Insert(rest, to, x)
			holds(t, h, want...)
			pops(t, h, want...)
		}
	}
}

// TestChangeOfSince: it is the whole item that is another one, where the order stays, too.
func TestChangeOfSince(t *testing.T) {
	h := pushed(t, prio.Item{ID: 1, Since: 5}, prio.Item{ID: 2, Since: 9})
	answers(t, "Change", h.Change(prio.Item{ID: 1, Since: 6}), api.OK)
	holds(t, h, prio.Item{ID: 1, Since: 6}, prio.Item{ID: 2, Since: 9})
	answers(t, "Change to the same", h.Change(prio.Item{ID: 1, Since: 6}), api.OK)
	holds(t, h, prio.Item{ID: 1, Since: 6}, prio.Item{ID: 2, Since: 9})
}

func TestChangeNone(t *testing.T) {
	answers(t, "Change in an empty heap", prio.New().Change(prio.Item{}), api.ErrNone)
	h := pushed(t, prio.Item{ID: 1}, prio.Item{ID: 3})
	answers(t, "Change", h.Change(prio.Item{ID: 2, Tier: 3}), api.ErrNone)
	holds(t, h, prio.Item{ID: 1}, prio.Item{ID: 3})
}

func TestPeekStays(t *testing.T) {
	x, y := prio.Item{ID: 1}, prio.Item{ID: 2, Tier: 1}
	h := pushed(t, x, y)
	for range 3 {
		if got, ok := h.Peek(); !ok || got != y {
			t.Fatalf("Peek: %v, %v; want %v", got, ok, y)
		}
	}
	pops(t, h, y, x)
}

// TestListIsApart: who writes over a list, its spare room too, does nothing to the heap, nor to another list.
func TestListIsApart(t *testing.T) {
	items := ranked(9)
	h := pushed(t, turned(items, 4)...)
	l, other := h.List(), h.List()
	for _, list := range [][]prio.Item{l, l[:cap(l)]} {
		for i := range list {
			list[i] = prio.Item{ID: 99, Tier: 200}
		}
	}
	if !slices.Equal(other, items) {
		t.Fatalf("another list became %v", other)
	}
	holds(t, h, items...)
	pops(t, h, items...)
	if !slices.Equal(other, items) {
		t.Fatalf("the list became %v behind the Pops", other)
	}
}

func TestNil(t *testing.T) {
	var h *prio.Heap
	answers(t, "Push", h.Push(prio.Item{ID: 1}), api.ErrNone)
	answers(t, "Remove", h.Remove(1), api.ErrNone)
	answers(t, "Change", h.Change(prio.Item{ID: 1}), api.ErrNone)
	holds(t, h)
	pops(t, h)
	if h.Has(0) || h.Has(1) {
		t.Fatal("Has of a nil heap")
	}
}

// TestMany: so many items that looking through all of them at each call would take hours.
func TestMany(t *testing.T) {
	const n = 300000
	h := prio.New()
	for i := range uint32(n) {
		answers(t, "Push", h.Push(prio.Item{ID: i, Since: i * 7919 % n}), api.OK)
	}
	for i := range uint32(n) {
		answers(t, "Change", h.Change(prio.Item{ID: i, Since: i * 6007 % n}), api.OK)
	}
	for i := uint32(0); i < n; i += 3 {
		answers(t, "Remove", h.Remove(i), api.OK)
	}
	want := h.List()
	if !slices.IsSortedFunc(want, naive) {
		t.Fatal("List isn't in order")
	}
	pops(t, h, want...)
}

// ranked answers n items of two tiers, in the order in which they go, with room between each two.
func ranked(n int) []prio.Item {
	var l []prio.Item
	for i := range n {
		x := prio.Item{ID: uint32(1 + i*11%31), Tier: 2, Since: uint32(10 * (i + 1))}
		if i >= n/2 {
			x.Tier = 1
		}
		l = append(l, x)
	}
	return l
}

// turned answers the items in another order, with the n-th first.
func turned(items []prio.Item, n int) []prio.Item {
	var l []prio.Item
	for i := range items {
		l = append(l, items[(n+i)%len(items)])
	}
	if n%2 == 1 {
		slices.Reverse(l)
	}
	return l
}
