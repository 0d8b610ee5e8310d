package lease_test

import (
	"math"
	"slices"
	"testing"

	"quadrille/api"
	"quadrille/lease"
)

func made(t *testing.T, nodes int) *lease.Book {
	t.Helper()
	b, e := lease.New(nodes)
	if e != api.OK {
		t.Fatalf("New(%d): error %d", nodes, e)
	}
	return b
}

// stands fails the test unless a node is so.
func stands(t *testing.T, b *lease.Book, node int, state byte, life, until uint32) {
	t.Helper()
	if b.State(node) != state || b.Life(node) != life || b.Until(node) != until {
		t.Fatalf("node %d: state %d, life %d, until %d; want %d, %d, %d", node, b.State(node), b.Life(node), b.Until(node), state, life, until)
	}
}

// hears has a Hello come, and fails the test unless that is answered.
func hears(t *testing.T, b *lease.Book, node int, now, life uint32, fresh, lost bool) {
	t.Helper()
	if f, l := b.Hear(node, now, life); f != fresh || l != lost {
		t.Fatalf("Hear(%d, %d, %d): %v, %v; want %v, %v", node, now, life, f, l, fresh, lost)
	}
}

// ticks has a tick pass, and fails the test unless just these nodes have Grants, and just these are Away.
func ticks(t *testing.T, b *lease.Book, now uint32, grants []lease.Grant, away ...int) {
	t.Helper()
	g, a := b.Tick(now)
	if !slices.Equal(g, grants) || !slices.Equal(a, away) {
		t.Fatalf("Tick(%d): %v, %v; want %v, %v", now, g, a, grants, away)
	}
}

// grant answers one Grant.
func grant(node int, until uint32) []lease.Grant { return []lease.Grant{{Node: node, Until: until}} }

func TestExample(t *testing.T) {
	b := made(t, 2)
	hears(t, b, 0, 5, 2, true, false)
	ticks(t, b, 6, grant(0, 14))
	ticks(t, b, 9, nil)
	stands(t, b, 0, lease.Doubt, 2, 14)
	ticks(t, b, 14, nil)
	ticks(t, b, 15, nil, 0)
	stands(t, b, 0, lease.Away, 2, 14)
	hears(t, b, 0, 16, 2, false, false)
	stands(t, b, 0, lease.Away, 2, 14)
	hears(t, b, 0, 16, 3, true, false)
	stands(t, b, 0, lease.Up, 3, 24)
	stands(t, b, 1, lease.Away, 0, 0)
}

func TestStates(t *testing.T) {
	if lease.Away != 0 || lease.Up != 1 || lease.Doubt != 2 {
		t.Error(lease.Away, lease.Up, lease.Doubt)
	}
}

func TestNew(t *testing.T) {
	for _, nodes := range []int{math.MinInt, -1, 0, api.MaxNodes + 1, math.MaxInt} {
		if b, e := lease.New(nodes); b != nil || e != api.ErrArg {
			t.Errorf("New(%d): %v, error %d", nodes, b, e)
		}
	}
	for nodes := 1; nodes <= api.MaxNodes; nodes++ {
		b := made(t, nodes)
		for node := -1; node <= nodes; node++ {
			stands(t, b, node, lease.Away, 0, 0)
		}
		ticks(t, b, 5, nil)
		hears(t, b, nodes-1, 5, 1, true, false)
		stands(t, b, nodes-1, lease.Up, 1, 13)
		hears(t, b, nodes, 5, 1, false, false)
		hears(t, b, -1, 5, 1, false, false)
	}
}

// TestNoSuchNode: nothing happens.
func TestNoSuchNode(t *testing.T) {
	b := made(t, 2)
	for _, node := range []int{math.MinInt, -1, 2, 16, 256, math.MaxInt} {
		hears(t, b, node, 5, 9, false, false)
		stands(t, b, node, 0, 0, 0)
	}
	ticks(t, b, 6, nil)
}

// TestLifeOfNought: at first the life 0 is known, so a Hello of it isn't above.
func TestLifeOfNought(t *testing.T) {
	b := made(t, 1)
	hears(t, b, 0, 5, 0, false, false)
	stands(t, b, 0, lease.Away, 0, 0)
	ticks(t, b, 6, nil)
}

// TestNewLife: who was Up or in Doubt is lost by it, who was Away isn't.
func TestNewLife(t *testing.T) {
	b := made(t, 1)
	hears(t, b, 0, 5, 2, true, false)
	hears(t, b, 0, 6, 7, true, true)
	stands(t, b, 0, lease.Up, 7, 14)
	hears(t, b, 0, 7, 2, false, false) // an older one
	hears(t, b, 0, 7, 6, false, false)
	stands(t, b, 0, lease.Up, 7, 14)
	ticks(t, b, 10, nil)
	stands(t, b, 0, lease.Doubt, 7, 14)
	hears(t, b, 0, 10, 6, false, false)
	stands(t, b, 0, lease.Doubt, 7, 14)
	hears(t, b, 0, 11, 8, true, true)
	stands(t, b, 0, lease.Up, 8, 19)
	ticks(t, b, 19, nil) // in doubt
	ticks(t, b, 20, nil, 0)
	hears(t, b, 0, 21, 7, false, false)
	hears(t, b, 0, 21, math.MaxUint32, true, false)
	stands(t, b, 0, lease.Up, math.MaxUint32, 29)
	hears(t, b, 0, 22, 0, false, false)
}

// TestNothingIsTakenBack: Until doesn't become less by a Hello, or by a Tick, of an earlier tick.
func TestNothingIsTakenBack(t *testing.T) {
	b := made(t, 1)
	hears(t, b, 0, 50, 2, true, false)
	hears(t, b, 0, 40, 3, true, true)
	stands(t, b, 0, lease.Up, 3, 58)
	ticks(t, b, 41, grant(0, 58))
	hears(t, b, 0, 50, 3, false, false)
	stands(t, b, 0, lease.Up, 3, 58) // a Hello of the life that is known doesn't make it later
	ticks(t, b, 50, grant(0, 58))
	ticks(t, b, 51, grant(0, 59))
	ticks(t, b, 50, grant(0, 59))
	ticks(t, b, 54, nil)
	ticks(t, b, 60, nil, 0)
	hears(t, b, 0, 10, 4, true, false)
	stands(t, b, 0, lease.Up, 4, 59)
}

// TestQuiet: who wasn't heard Quiet ticks ago, or more, is in doubt, and has no more Grants.
func TestQuiet(t *testing.T) {
	b := made(t, 1)
	hears(t, b, 0, 5, 1, true, false)
	ticks(t, b, 5, grant(0, 13))
	ticks(t, b, 8, grant(0, 16))
	stands(t, b, 0, lease.Up, 1, 16)
	hears(t, b, 0, 8, 1, false, false)
	ticks(t, b, 11, grant(0, 19))
	hears(t, b, 0, 11, 1, false, false)
	ticks(t, b, 15, nil)
	stands(t, b, 0, lease.Doubt, 1, 19)
	for now := uint32(15); now < 20; now++ { // it was heard, but stays in doubt
		hears(t, b, 0, now, 1, false, false)
		ticks(t, b, now, nil)
		stands(t, b, 0, lease.Doubt, 1, 19)
	}
	hears(t, b, 0, 20, 1, false, false)
	ticks(t, b, 20, nil, 0)
	ticks(t, b, 21, nil) // told once
	stands(t, b, 0, lease.Away, 1, 19)
	hears(t, b, 0, 21, 1, false, false)
	ticks(t, b, 22, nil)
	stands(t, b, 0, lease.Away, 1, 19)
}

// TestHeardLater: who was heard later than now isn't quiet; the last time counts, though it be an earlier tick.
func TestHeardLater(t *testing.T) {
	b := made(t, 1)
	hears(t, b, 0, 20, 1, true, false)
	for _, now := range []uint32{0, 15, 16, 19} {
		ticks(t, b, now, grant(0, 28))
	}
	hears(t, b, 0, 10, 1, false, false)
	ticks(t, b, 13, grant(0, 28))
	ticks(t, b, 14, nil)
	stands(t, b, 0, lease.Doubt, 1, 28)
	ticks(t, b, 3, nil)
	stands(t, b, 0, lease.Doubt, 1, 28)
}

// TestAtOnce: who is in doubt at a tick at which its lease is over is Away at that tick.
func TestAtOnce(t *testing.T) {
	b := made(t, 3)
	hears(t, b, 0, 5, 1, true, false)
	hears(t, b, 1, 6, 1, true, false)
	hears(t, b, 2, 11, 1, true, false)
	ticks(t, b, 14, []lease.Grant{{Node: 2, Until: 22}}, 0)
	stands(t, b, 0, lease.Away, 1, 13)
	stands(t, b, 1, lease.Doubt, 1, 14)
	stands(t, b, 2, lease.Up, 1, 22)
}

// TestMany: Grants and who is Away are told by rising nodes.
func TestMany(t *testing.T) {
	b := made(t, api.MaxNodes)
	var grants []lease.Grant
	var away []int
	for node := api.MaxNodes - 1; node >= 0; node-- {
		hears(t, b, node, uint32(100+node%2*20), uint32(node+1), true, false)
		if node%2 == 1 {
			grants = append(grants, lease.Grant{Node: node, Until: 129})
		} else {
			away = append(away, node)
		}
	}
	slices.Reverse(grants)
	slices.Reverse(away)
	ticks(t, b, 121, grants, away...)
	for node := range api.MaxNodes {
		if node%2 == 1 {
			stands(t, b, node, lease.Up, uint32(node+1), 129)
		} else {
			stands(t, b, node, lease.Away, uint32(node+1), 108)
		}
	}
}

// TestLastTick: Until isn't above the last tick there is, at which nobody is Away.
func TestLastTick(t *testing.T) {
	b := made(t, 2)
	hears(t, b, 0, math.MaxUint32-8, 1, true, false)
	stands(t, b, 0, lease.Up, 1, math.MaxUint32)
	hears(t, b, 1, math.MaxUint32-9, 1, true, false)
	stands(t, b, 1, lease.Up, 1, math.MaxUint32-1)
	ticks(t, b, math.MaxUint32, nil, 1)
	stands(t, b, 0, lease.Doubt, 1, math.MaxUint32)
	hears(t, b, 1, math.MaxUint32, 2, true, false)
	ticks(t, b, math.MaxUint32, grant(1, math.MaxUint32))
}

func TestListsAreApart(t *testing.T) {
	b := made(t, 3)
	for node := range 3 {
		hears(t, b, node, 5, 1, true, false)
	}
	one, _ := b.Tick(6)
	two, _ := b.Tick(6)
	one = one[:cap(one)]
	for i := range one {
		one[i] = lease.Grant{Node: 9, Until: 9}
	}
	if want := []lease.Grant{{Node: 0, Until: 14}, {Node: 1, Until: 14}, {Node: 2, Until: 14}}; !slices.Equal(two, want) {
		t.Fatalf("Grants %v, want %v", two, want)
	}
	ticks(t, b, 14, nil)
	_, away := b.Tick(15)
	away = away[:cap(away)]
	for i := range away {
		away[i] = 9
	}
	for node := range 3 {
		stands(t, b, node, lease.Away, 1, 14)
	}
}

func TestNil(t *testing.T) {
	var b *lease.Book
	for _, node := range []int{-1, 0, 1} {
		hears(t, b, node, 5, 9, false, false)
		stands(t, b, node, 0, 0, 0)
	}
	ticks(t, b, 6, nil)
}
