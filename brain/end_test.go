package brain_test

import (
	"math/rand"
	"slices"
	"testing"

	"quadrille/api"
	"quadrille/brain"
)

// bound answers within how many ticks all is Done that can be, as P19.6 has it.
func (w *world) bound() int {
	l := w.b.Jobs()
	turns := 4 * len(l)
	for _, id := range l {
		j, _ := w.b.Job(id)
		turns += (j.W - j.Credit + w.c.Quantum - 1) / w.c.Quantum
	}
	return 2*w.c.Rows*(w.c.Quantum+4)*turns + (w.c.Grace+8)*len(l) + 20
}

// fitting answers the jobs that are known, and that need no more nodes than are up.
func (w *world) fitting() []uint32 {
	up := 0
	for _, d := range w.nodes {
		if d.up {
			up++
		}
	}
	return slices.DeleteFunc(w.b.Jobs(), func(id uint32) bool {
		j, _ := w.b.Job(id)
		return j.K > up
	})
}

// comesToItsEnd fails the test unless all that can be Done is so within the bound, all being calm.
func (w *world) comesToItsEnd() {
	w.t.Helper()
	w.calm()
	l, known := w.fitting(), len(w.b.Jobs())
	l = slices.DeleteFunc(l, func(id uint32) bool { return w.jobs[id].end })
	bound := w.bound()
	for ticks := 0; !w.isDone(l...)() || len(w.fitting()) > 0; ticks++ {
		if ticks == bound {
			w.fail("not Done", w.fitting(), "of", known, "within", bound)
		}
		w.tick()
		w.calm()
	}
}

// TestOneJob: the least that there is to be done is done within the least bound, by each number.
func TestOneJob(t *testing.T) {
	for _, c := range []brain.Config{
		{Nodes: 1, Rows: 1, Quantum: 1, Grace: 1}, {Nodes: 16, Rows: 8, Quantum: 1, Grace: 1},
		{Nodes: 1, Rows: 1, Quantum: 1000, Grace: 1000}, {Nodes: 16, Rows: 8, Quantum: 1000, Grace: 1000},
	} {
		for _, k := range []int{1, c.Nodes} {
			for _, ticks := range []int{1, 2, 999, 2001} {
				w := made(t, c, 3)
				for range 3 {
					w.tick()
				}
				w.add(api.Job{ID: 1, K: k, W: ticks}, 0)
				w.comesToItsEnd()
				if w.jobs[1].job.Credit != ticks {
					t.Fatalf("%+v: credit %d, want %d", c, w.jobs[1].job.Credit, ticks)
				}
			}
		}
	}
}

// TestManyJobs: as many as there can be, of all tiers, come to their end.
func TestManyJobs(t *testing.T) {
	for seed := range int64(8) {
		r := rand.New(rand.NewSource(seed))
		c := brain.Config{Nodes: 1 + r.Intn(8), Rows: 1 + int(seed)%4, Quantum: 1 + r.Intn(8), Grace: 1 + r.Intn(8)}
		w := made(t, c, 0)
		for id := range uint32(api.MaxJobs) {
			w.add(api.Job{ID: 1 + id, Tier: byte(r.Intn(4)), K: 1 + r.Intn(c.Nodes), W: 1 + r.Intn(40)}, 0)
			if r.Intn(3) == 0 {
				w.tick()
				w.calm()
			}
		}
		w.comesToItsEnd()
	}
}

// TestTiersComing: while ever greater tiers send others away all come to their end yet.
func TestTiersComing(t *testing.T) {
	for seed := range int64(16) {
		r := rand.New(rand.NewSource(seed))
		c := brain.Config{Nodes: 4, Rows: 1 + int(seed)%2, Quantum: 1 + r.Intn(30), Grace: 1 + r.Intn(3)}
		w := made(t, c, 0)
		for id := range uint32(40) {
			w.add(api.Job{ID: 1 + id, Tier: byte(id / 10), K: 1 + r.Intn(4), W: 1 + r.Intn(60)}, 0)
			for range r.Intn(4) {
				w.tick()
				w.calm()
			}
		}
		w.comesToItsEnd()
		if w.count.warned == 0 {
			t.Fatalf("seed %d: nobody was sent away", seed)
		}
	}
}

// TestTooWide: who needs more nodes than are up keeps nobody from coming to his end, and comes to his own once they are up.
func TestTooWide(t *testing.T) {
	for rowCount := 1; rowCount <= 3; rowCount++ {
		for seed := range int64(20) {
			r := rand.New(rand.NewSource(seed))
			w := made(t, brain.Config{Nodes: 4, Rows: rowCount, Quantum: 1 + r.Intn(5), Grace: 1 + r.Intn(5)}, 0)
			w.lost(1)
			wide := 1 + uint32(r.Intn(6))
			for id := range uint32(6) {
				j := api.Job{ID: 1 + id, Tier: byte(r.Intn(4)), K: 1 + r.Intn(3), W: 1 + r.Intn(9)}
				if j.ID == wide {
					j.K, j.Tier = 4, 3
				}
				w.add(j, 0)
			}
			w.comesToItsEnd()
			if !slices.Equal(w.b.Jobs(), []uint32{wide}) {
				t.Fatalf("known %v", w.b.Jobs())
			}
			w.up(1)
			w.comesToItsEnd()
		}
	}
}
