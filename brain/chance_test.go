package brain_test

import (
	"math/rand"
	"slices"
	"testing"

	"quadrille/api"
	"quadrille/brain"
)

// chance is a world to which anything may happen.
type chance struct {
	*world
	r      *rand.Rand
	next   uint32 // the number of the last job
	jobs   int    // how many there are at the most
	fast   int    // how much of what is under way comes between two ticks
	falls  int    // once in so many steps a node is lost
	refuse int    // one of so many images isn't published
	wide   int    // one of so many jobs may need all nodes
}

func chances(t *testing.T, seed int64) *chance {
	t.Helper()
	r := rand.New(rand.NewSource(seed))
	c := brain.Config{Nodes: 1 + r.Intn(6), Rows: 1 + r.Intn(4), Quantum: 1 + r.Intn(9), Grace: 1 + r.Intn(9)}
	if r.Intn(10) == 0 {
		c.Nodes, c.Rows = 1+r.Intn(api.MaxNodes), 1+r.Intn(api.MaxRows)
	}
	return &chance{
		world: made(t, c, uint32(r.Intn(12))), r: r,
		jobs: 1 + r.Intn(16), fast: r.Intn(60), falls: 20 + r.Intn(400), refuse: 2 + r.Intn(20), wide: 1 + r.Intn(4),
	}
}

// job adds a job of any kind.
func (c *chance) job() {
	c.t.Helper()
	c.next += 1 + uint32(c.r.Intn(3))
	j := api.Job{ID: c.next, Tier: byte(c.r.Intn(api.MaxTier + 1)), K: 1 + c.r.Intn(c.c.Nodes), W: 1 + c.r.Intn(1+c.r.Intn(60))}
	if c.r.Intn(c.wide) > 0 {
		j.K = 1 + c.r.Intn((c.c.Nodes+1)/2)
	}
	if c.r.Intn(4) == 0 {
		j.Credit = c.r.Intn(j.W + 1)
	}
	c.add(j, uint32(c.r.Intn(3)))
}

// step has anything happen.
func (c *chance) step() {
	c.t.Helper()
	switch n := c.r.Intn(100); {
	case n < c.fast:
		node := c.r.Intn(c.c.Nodes)
		if c.r.Intn(2) == 0 {
			c.deliver(node)
		} else {
			c.hear(node)
		}
	case n < 70:
		c.between()
	case n < 85:
		c.tick()
	case n < 90 && len(c.b.Jobs()) < c.jobs:
		c.job()
	case n < 92 && c.r.Intn(4) == 0 && c.next > 0:
		c.cancel(1 + uint32(c.r.Intn(int(c.next))))
	case n < 96:
		c.fall()
	}
}

// between has some of what is under way come.
func (c *chance) between() {
	c.t.Helper()
	for range c.r.Intn(1 + c.fast) {
		c.deliver(c.r.Intn(c.c.Nodes))
		c.hear(c.r.Intn(c.c.Nodes))
	}
	if c.r.Intn(3) > 0 {
		c.tell()
		c.publish(c.r.Intn(c.refuse) > 0)
	}
}

// fall has a node that is up be lost, or one that is lost be up.
func (c *chance) fall() {
	c.t.Helper()
	node := c.r.Intn(c.c.Nodes)
	if !c.nodes[node].up {
		c.up(node)
	} else if c.r.Intn(c.falls) < 10 {
		c.lost(node)
		if c.r.Intn(3) == 0 {
			c.up(node)
		}
	}
}

// run has anything happen for a while.
func (c *chance) run() {
	c.t.Helper()
	for range 50 + c.r.Intn(600) {
		c.step()
	}
}

// TestChance holds P19.1 to P19.5 whatever happens; then all is calm, and P19.6 holds.
func TestChance(t *testing.T) {
	var moved, warned, lame, refused, done int
	for seed := range int64(1200) {
		c := chances(t, seed)
		c.run()
		for c.now <= c.hold {
			c.tick()
		}
		c.comesToItsEnd()
		n := c.count
		moved, warned, lame, refused, done = moved+n.moved, warned+n.warned, lame+n.lame, refused+n.refused, done+len(c.done)
	}
	if moved < 1000 || warned < 500 || lame < 500 || refused < 500 || done < 5000 {
		t.Fatalf("just %d moved, %d warned, %d lost a node, %d images refused, %d Done", moved, warned, lame, refused, done)
	}
}

// TestSameAgain: of two brains that are told the same both order the same.
func TestSameAgain(t *testing.T) {
	for seed := range int64(150) {
		var all [2][]brain.Order
		var last [2]string
		for i := range 2 {
			c := chances(t, seed)
			c.run()
			all[i], last[i] = c.orders, told(c.b)
		}
		if !slices.EqualFunc(all[0], all[1], func(x, y brain.Order) bool { return x.To == y.To && same(x.Note, y.Note) }) || last[0] != last[1] {
			t.Fatalf("seed %d: %d orders, %d orders; %s, %s", seed, len(all[0]), len(all[1]), last[0], last[1])
		}
	}
}

// anything calls anything, with whatever numbers; what nodes say is mostly about what there is.
func anything(r *rand.Rand, b *brain.Brain, now *uint32) {
	node, job := r.Intn(7)-1, uint32(r.Intn(8))
	switch r.Intn(12) {
	case 0:
		b.Add(api.Job{ID: job, Tier: byte(r.Intn(5)), K: r.Intn(6), W: r.Intn(12), Credit: r.Intn(6) - 1}, r.Uint32()>>r.Intn(32))
	case 1:
		if r.Intn(6) == 0 {
			b.Cancel(job)
		}
	case 2:
		b.Up(node)
	case 3:
		if r.Intn(6) == 0 {
			b.Lost(node)
		}
	case 4:
		b.Tick(*now)
		*now += uint32(r.Intn(3))
	case 5:
		for _, x := range b.Images() {
			b.Published(x.Job, x.Ver, r.Intn(3) > 0)
		}
	case 6:
		b.Published(job, uint32(r.Intn(4)), r.Intn(2) == 0)
	default:
		n := api.Note{Kind: byte(r.Intn(14)), Job: job, Gen: b.Gen() - uint32(r.Intn(2)), Ver: uint32(r.Intn(4)), Rank: byte(r.Intn(5))}
		n.From, n.To = r.Uint32()>>r.Intn(32), r.Uint32()>>r.Intn(32)
		b.Hear(node, n)
	}
}

// TestAnything: whatever nodes say, be they hands or not, nothing panics, and who stands is known, doesn't wait, and stands at as many nodes as it needs.
func TestAnything(t *testing.T) {
	for seed := range int64(400) {
		r := rand.New(rand.NewSource(seed))
		b, e := brain.New(brain.Config{Nodes: 5, Rows: 1 + r.Intn(3), Quantum: 1 + r.Intn(4), Grace: 1 + r.Intn(4)}, uint32(r.Intn(5)))
		if e != api.OK {
			t.Fatalf("New: error %d", e)
		}
		now := uint32(r.Intn(3)) * (api.MaxTick/2 - 100)
		for range 800 {
			anything(r, b, &now)
			m := b.Matrix()
			for _, id := range m.Jobs() {
				_, nodes, _ := m.Of(id)
				if j, ok := b.Job(id); !ok || j.State == api.Queued || j.K != len(nodes) || j.Credit > j.W || j.Credit < 0 {
					t.Fatalf("seed %d: %+v, known: %v, stands at %v", seed, j, ok, nodes)
				}
			}
		}
	}
}
