package lease_test

import (
	"math"
	"math/rand"
	"slices"
	"testing"

	"quadrille/api"
	"quadrille/hand"
	"quadrille/lease"
	"quadrille/note"
)

// model is a book as what was told of each node.
type model []struct {
	state byte
	lives []uint32 // that were fresh
	heard []int    // ticks
	until []int    // all that it was granted
}

// latest answers the last tick that a node may go on to, if it was told one now.
func latest(now int) int { return min(now+8, math.MaxUint32) }

func (m model) hear(node, now int, life uint32) (fresh, lost bool) {
	if node < 0 || node >= len(m) {
		return false, false
	}
	x := &m[node]
	switch known := slices.Max(append([]uint32{0}, x.lives...)); {
	case life > known:
		lost = x.state > 0
		x.state = lease.Up
		x.lives = append(x.lives, life)
		x.heard = append(x.heard, now)
		x.until = append(x.until, latest(now))
		return true, lost
	case life == known && x.state > 0:
		x.heard = append(x.heard, now)
	}
	return false, false
}

func (m model) tick(now int) ([]lease.Grant, []int) {
	var grants []lease.Grant
	var away []int
	for node := range m {
		x := &m[node]
		if x.state == lease.Up && now-x.heard[len(x.heard)-1] >= 4 {
			x.state = lease.Doubt
		}
		if x.state == lease.Up {
			x.until = append(x.until, latest(now))
			grants = append(grants, lease.Grant{Node: node, Until: uint32(slices.Max(x.until))})
		}
		if x.state == lease.Doubt && slices.Max(x.until) < now {
			x.state = lease.Away
			away = append(away, node)
		}
	}
	return grants, away
}

// agree fails the test unless a book is as the model.
func agree(t *testing.T, b *lease.Book, m model) {
	t.Helper()
	for node, x := range m {
		stands(t, b, node, x.state, slices.Max(append([]uint32{0}, x.lives...)), uint32(slices.Max(append([]int{0}, x.until...))))
	}
}

// TestAgainstModel holds a book, call by call, against all that it was told; ticks rise mostly, and at the end of some runs there are no more.
func TestAgainstModel(t *testing.T) {
	for seed := range int64(600) {
		r := rand.New(rand.NewSource(seed))
		nodes := 1 + r.Intn(api.MaxNodes)
		b, m := made(t, nodes), make(model, nodes)
		now := r.Intn(2) * (math.MaxUint32 - r.Intn(100))
		often := 1 + r.Intn(3*nodes)
		for range 400 {
			if r.Intn(20) == 0 {
				now = max(0, now-r.Intn(8))
			}
			if r.Intn(often) > 0 {
				node, life := r.Intn(nodes+2)-1, uint32(r.Intn(3))
				if node >= 0 && node < nodes {
					life += m.life(node)
				}
				fresh, lost := m.hear(node, now, life-1)
				hears(t, b, node, uint32(now), life-1, fresh, lost)
			} else {
				now = min(now+r.Intn(4), math.MaxUint32)
				grants, away := m.tick(now)
				ticks(t, b, uint32(now), grants, away...)
			}
			agree(t, b, m)
		}
	}
}

// life answers the life of a node that is known, and at least 1.
func (m model) life(node int) uint32 { return slices.Max(append([]uint32{1}, m[node].lives...)) }

// flight is something under way between a controller and a hand.
type flight struct {
	k    api.Packet
	down bool // to the hand
}

// cell is a node's hand, and what is in the air between it and the book.
type cell struct {
	h   *hand.Hand
	air []flight
}

// beat answers the packet of a Grant.
func beat(t *testing.T, g lease.Grant) api.Packet {
	t.Helper()
	p, e := note.Note(api.Note{Kind: api.Beat, Epoch: 1, Tick: g.Until})
	if e != api.OK {
		t.Fatalf("note: error %d", e)
	}
	return api.Packet{Node: byte(g.Node), Epoch: 1, Plain: true, Data: p}
}

// gone fails the test unless the hands of all nodes that are Away are of another life than the one that is known.
func gone(t *testing.T, b *lease.Book, cells []cell, away []int, now uint32) {
	t.Helper()
	for _, node := range away {
		if cells[node].h.Life() == b.Life(node) {
			t.Fatalf("tick %d: node %d is Away, but goes on in life %d, up to %d", now, node, b.Life(node), cells[node].h.Bound())
		}
	}
}

// TestWhoIsAwayGoesOnNoMore: whatever of the Hellos and of the Grants is lost, late, or comes twice.
func TestWhoIsAwayGoesOnNoMore(t *testing.T) {
	ended := 0
	for seed := range int64(300) {
		r := rand.New(rand.NewSource(seed))
		b, cells := made(t, 4), make([]cell, 4)
		for node := range cells {
			cells[node].h, _ = hand.New(byte(node))
			cells[node].h.Hear(beat(t, lease.Grant{Node: node})) // the epoch, and no lease beyond its own
		}
		loss, late := r.Intn(10), 1+r.Intn(6)
		for now := uint32(1); now < 300; now++ {
			for node := range cells {
				for _, k := range cells[node].h.Tick(now) {
					cells[node].air = append(cells[node].air, flight{k, false})
				}
			}
			blow(r, b, cells, now, loss, late)
			grants, away := b.Tick(now)
			gone(t, b, cells, away, now)
			ended += len(away)
			for _, g := range grants {
				cells[g.Node].air = append(cells[g.Node].air, flight{beat(t, g), true})
			}
			blow(r, b, cells, now, loss, late)
			for node := range cells {
				if b.State(node) == lease.Away {
					gone(t, b, cells, []int{node}, now)
				}
			}
			if n := r.Intn(400); n < len(cells) {
				cells[n].h.Restart()
			}
		}
	}
	if ended < 1000 {
		t.Fatalf("just %d times a node was Away", ended)
	}
}

// blow has some of what is in the air come, some be lost, and some stay there.
func blow(r *rand.Rand, b *lease.Book, cells []cell, now uint32, loss, late int) {
	for node := range cells {
		x := &cells[node]
		l := x.air
		x.air = nil
		for _, f := range l {
			if r.Intn(late) > 0 || r.Intn(9) == 0 { // it comes later, or again
				x.air = append(x.air, f)
			}
			if r.Intn(10) < loss || r.Intn(late) > 0 {
				continue
			}
			if f.down {
				x.h.Hear(f.k)
			} else if f.k.Epoch == 1 {
				b.Hear(node, now, f.k.Life)
			}
		}
	}
}
