package prio_test

import (
	"math/rand"
	"slices"
	"testing"

	"quadrille/api"
	"quadrille/prio"
)

// naive is the order of the chapter's words: below 0, if a goes first.
func naive(a, b prio.Item) int {
	switch {
	case a == b:
		return 0
	case a.Tier > b.Tier,
		a.Tier == b.Tier && a.Since < b.Since,
		a.Tier == b.Tier && a.Since == b.Since && a.ID < b.ID:
		return -1
	}
	return 1
}

// model is a heap as a plain list, always in order.
type model struct {
	items []prio.Item
}

// place answers at which place the item of that ID stands, or -1.
func (m *model) place(id uint32) int {
	return slices.IndexFunc(m.items, func(x prio.Item) bool { return x.ID == id })
}

func (m *model) push(x prio.Item) api.Errno {
	if m.place(x.ID) >= 0 {
		return api.ErrTwice
	}
	m.items = append(m.items, x)
	slices.SortFunc(m.items, naive)
	return api.OK
}

func (m *model) remove(id uint32) api.Errno {
	i := m.place(id)
	if i < 0 {
		return api.ErrNone
	}
	m.items = slices.Delete(m.items, i, i+1)
	return api.OK
}

func (m *model) change(x prio.Item) api.Errno {
	if e := m.remove(x.ID); e != api.OK {
		return e
	}
	return m.push(x)
}

func (m *model) pop() (prio.Item, bool) {
	if len(m.items) == 0 {
		return prio.Item{}, false
	}
	x := m.items[0]
	m.items = m.items[1:]
	return x, true
}

// TestAgainstModel holds what a heap answers, call by call, against a plain list.
func TestAgainstModel(t *testing.T) {
	for seed := range int64(200) {
		r := rand.New(rand.NewSource(seed))
		h, m := prio.New(), &model{}
		ids := 1 + r.Intn(40)
		for range 400 {
			step(t, r, h, m, ids)
			holds(t, h, m.items...)
		}
	}
}

// step does one call to both, and fails the test unless they answer the same.
func step(t *testing.T, r *rand.Rand, h *prio.Heap, m *model, ids int) {
	t.Helper()
	x := prio.Item{ID: uint32(r.Intn(ids)), Tier: byte(r.Intn(4)), Since: uint32(r.Intn(5))}
	switch r.Intn(7) {
	case 0, 1, 2:
		answers(t, "Push", h.Push(x), m.push(x))
	case 3:
		answers(t, "Remove", h.Remove(x.ID), m.remove(x.ID))
	case 4:
		answers(t, "Change", h.Change(x), m.change(x))
	case 5:
		if got, want := h.Has(x.ID), m.place(x.ID) >= 0; got != want {
			t.Fatalf("Has(%d): %v", x.ID, got)
		}
	case 6:
		want, there := m.pop()
		if got, ok := h.Pop(); got != want || ok != there {
			t.Fatalf("Pop: %v, %v; want %v, %v", got, ok, want, there)
		}
	}
}
