package yard_test

import (
	"math/rand"
	"slices"
	"testing"

	"quadrille/api"
	"quadrille/brain"
	"quadrille/desk"
	"quadrille/yard"
)

// roomy answers a Config with room for all that may come.
func roomy(b brain.Config) yard.Config {
	return yard.Config{Desk: desk.Config{Brain: b, Size: 100, Images: 1000}, Air: api.MaxAir}
}

// anyBrain answers any numbers.
func anyBrain(r *rand.Rand) brain.Config {
	b := brain.Config{Nodes: 1 + r.Intn(16), Rows: 1 + r.Intn(8), Quantum: 1 + r.Intn(12), Grace: 1 + r.Intn(30)}
	switch r.Intn(6) {
	case 0:
		b.Quantum = 1 + r.Intn(1000)
	case 1:
		b.Grace = 1 + r.Intn(1000)
	case 2, 3:
		b.Nodes, b.Rows = 1+r.Intn(4), 1+r.Intn(2)
	}
	return b
}

// turns answers how many Quanta so many ticks are, rounded up.
func (w *world) turns(ticks int) int {
	quantum := w.c.Desk.Brain.Quantum
	return (ticks + quantum - 1) / quantum
}

// within has ticks of a Calm pass till something holds; it fails the test if it doesn't within so many.
func (w *world) within(what string, ticks int, holds func() bool) {
	w.t.Helper()
	w.blind = true
	for range ticks {
		if holds() {
			return
		}
		w.is(yard.Step{Kind: yard.Calm, N: 1}, api.OK)
		w.follow()
	}
	if !holds() {
		w.fail(what+": not within", ticks, w.y.Desk().Table().Active(), w.c)
	}
}

// done tells whether a job is.
func (w *world) done(job uint32) func() bool {
	return func() bool {
		j := w.job(job)
		return j.State == api.Done && j.Credit == j.W
	}
}

// gone tells whether nobody has anything of a job any more.
func (w *world) gone(job uint32) func() bool {
	return func() bool {
		_, known := w.y.Desk().Brain().Job(job)
		return !known && w.job(job).State == api.Cancelled && w.ranks(job) == 0
	}
}

// over tells whether all jobs are Done.
func (w *world) over() bool { return len(w.y.Desk().Table().Active()) == 0 }

// bound answers within how many ticks of calm all jobs are Done, as P21.6 has it.
func (w *world) bound() int {
	b := w.c.Desk.Brain
	l := w.y.Desk().Table().Active()
	turns := 4 * len(l)
	for _, j := range l {
		turns += w.turns(j.W - j.Credit)
	}
	return 2*b.Rows*(b.Quantum+4)*turns + (b.Grace+8)*len(l) + 20 + 3*(api.Lease+api.Quiet) + 10
}

// topBound answers within how many ticks of calm one is Done who is of a tier above all others', as P21.7 has it.
func (w *world) topBound(ticks int) int {
	b := w.c.Desk.Brain
	return max(400, b.Grace+(b.Quantum+3)*b.Rows*(w.turns(ticks)+3)+4*b.Quantum+20)
}

// TestAlone: a job alone on a new yard is Done soon, by each number.
func TestAlone(t *testing.T) {
	for _, b := range []brain.Config{
		{Nodes: 1, Rows: 1, Quantum: 1, Grace: 1}, {Nodes: 16, Rows: 8, Quantum: 1, Grace: 1},
		{Nodes: 1, Rows: 1, Quantum: 1000, Grace: 1000}, {Nodes: 16, Rows: 8, Quantum: 1000, Grace: 1000},
		plain().Desk.Brain,
	} {
		for _, k := range []int{1, b.Nodes} {
			for _, ticks := range []int{1, 2, 7, 30, 1001} {
				w := made(t, roomy(b))
				job := w.submit(byte(ticks%4), k, ticks)
				w.within("alone", api.Lease+12+2*ticks, w.done(job))
			}
		}
	}
}

// TestAloneForLong: however long it is.
func TestAloneForLong(t *testing.T) {
	c := roomy(brain.Config{Nodes: 2, Rows: 1, Quantum: 1, Grace: 1})
	c.Desk.Images = 6
	w := made(t, c)
	job := w.submit(0, 2, api.MaxWall)
	w.within("alone", api.Lease+12+2*api.MaxWall, w.done(job))
}

// TestSix: up to six short jobs are Done soon.
func TestSix(t *testing.T) {
	for seed := range int64(300) {
		r := rand.New(rand.NewSource(seed))
		w := made(t, plain())
		w.blind = true
		for range 1 + r.Intn(6) {
			w.submit(byte(r.Intn(4)), 1+r.Intn(4), 1+r.Intn(12))
			w.is(yard.Step{Kind: yard.Calm, N: r.Intn(2) * r.Intn(20)}, api.OK)
			w.follow()
		}
		w.within("six", 600, w.over)
	}
	w := made(t, plain())
	for range 6 {
		w.submit(1, 4, 12)
	}
	w.within("six that are as long and wide as they may be", 600, w.over)
}

// TestTopTier: who is of a tier above all others' is Done soon, however many these are.
func TestTopTier(t *testing.T) {
	for seed := range int64(60) {
		r := rand.New(rand.NewSource(seed))
		b := anyBrain(r)
		w := made(t, roomy(b))
		w.blind = true
		others := func(n int) {
			for range n {
				w.submit(byte(r.Intn(3)), 1+r.Intn(b.Nodes), 1+r.Intn(100))
				w.is(yard.Step{Kind: yard.Calm, N: r.Intn(2) * r.Intn(10)}, api.OK)
				w.follow()
			}
		}
		others(r.Intn(50))
		ticks := 1 + r.Intn(60)
		job := w.submit(3, 1+r.Intn(b.Nodes), ticks)
		w.within("top", w.topBound(ticks), w.done(job))
		others(r.Intn(10))
		ticks = 1 + r.Intn(60)
		job = w.submit(3, 1+r.Intn(b.Nodes), ticks)
		w.is(yard.Step{Kind: yard.Crash}, api.OK)
		w.within("top, behind a crash", w.topBound(ticks), w.done(job))
	}
}

// TestTopTierAmongHogs: nor however long they are.
func TestTopTierAmongHogs(t *testing.T) {
	for rows := 1; rows <= 4; rows++ {
		for _, k := range []int{1, 3, 4} {
			c := plain()
			c.Desk.Brain.Rows, c.Desk.Images = rows, 1000
			w := made(t, c)
			w.blind = true
			for i := range 20 {
				w.submit(byte(i%3), 1+i%4, api.MaxWall)
			}
			w.is(yard.Step{Kind: yard.Calm, N: 50}, api.OK)
			job := w.submit(3, k, 22)
			w.submit(2, 4, api.MaxWall)
			w.within("top", w.topBound(22), w.done(job))
		}
	}
}

// TestSoonBehindAStorm: who is cancelled is gone soon, who is of the top tier is Done soon, and all come to their end, whatever was ahead.
func TestSoonBehindAStorm(t *testing.T) {
	for seed := range int64(90) {
		r := rand.New(rand.NewSource(seed))
		w := stormy(t, r, roomy(anyBrain(r)))
		w.rage(r.Intn(500))
		w.abate()
		if seed%3 == 0 {
			w.within("all", w.bound(), w.over)
			continue
		}
		for _, j := range w.y.Desk().Table().Active() {
			if j.Tier == api.MaxTier || r.Intn(4) == 0 {
				w.next(api.Request{Client: 7, Kind: api.Cancel, Job: j.ID})
			}
		}
		over := w.y.Desk().Table().Over()
		if seed%3 == 1 {
			w.within("cancelled", 60, func() bool {
				return !slices.ContainsFunc(over, func(j api.Job) bool { return j.State == api.Cancelled && !w.gone(j.ID)() })
			})
			continue
		}
		ticks := 1 + r.Intn(60)
		job := w.next(api.Request{Client: 7, Kind: api.Submit, Tier: api.MaxTier, K: 1 + r.Intn(w.nodes()), W: ticks})
		w.within("top", w.topBound(ticks), w.done(job))
	}
}

// TestCancelled: wherever a job has come to, it is gone soon once it is cancelled, and the others come to their end.
func TestCancelled(t *testing.T) {
	for ticks := range 45 {
		for _, cut := range []bool{false, true} { // from the controller
			w := made(t, plain())
			w.submit(0, 3, 40)
			w.submit(0, 2, 9)
			w.submit(1, 4, 3)
			w.calm(ticks)
			if cut {
				w.deafen(1, true)
				w.calm(ticks % 12)
				w.deafen(1, false)
			}
			if w.job(1).State == api.Done {
				w.fail("Done", w.job(1))
			}
			w.cancel(1)
			for n := 0; !w.gone(1)(); n++ {
				if n == 60 {
					w.fail("isn't gone", w.ranks(1))
				}
				w.calm(1)
			}
			w.within("the others", w.bound(), w.over)
			if j := w.job(1); j.State != api.Cancelled {
				w.fail("cancelled", j)
			}
		}
	}
}

// TestTightDisk: with just as much room on the disk as is asked for all jobs come to their end.
func TestTightDisk(t *testing.T) {
	for seed := range int64(25) {
		r := rand.New(rand.NewSource(seed))
		b := brain.Config{Nodes: 1 + r.Intn(6), Rows: 1 + r.Intn(3), Quantum: 1 + r.Intn(6), Grace: 1 + r.Intn(8)}
		widest, sum := 0, 0
		var widths []int
		for range 1 + r.Intn(15) {
			k := 1 + r.Intn(b.Nodes)
			widths = append(widths, k)
			widest, sum = max(widest, k+1), sum+k+1
		}
		c := yard.Config{Desk: desk.Config{Brain: b, Size: 3 + (112+20*len(widths))/api.Payload, Images: sum + widest}, Air: 300}
		w := stormy(t, r, c)
		w.mute = true
		for _, k := range widths {
			w.submitAtLast(api.Request{Kind: api.Submit, Tier: byte(r.Intn(4)), K: k, W: 1 + r.Intn(30)})
			w.rage(r.Intn(30))
		}
		w.abate()
		w.within("all", w.bound(), w.over)
	}
}

// submitAtLast submits a job, once, whatever the power does.
func (w *storm) submitAtLast(q api.Request) {
	w.t.Helper()
	q.Client, q.Seq = 7, w.seqs[7]+1
	for w.seqs[7] < q.Seq {
		if r, ok := w.ask(q); ok && r.E != api.OK {
			w.fail("submitted", q, r)
		} else if !ok {
			w.fall()
		}
	}
}
