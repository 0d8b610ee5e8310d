package desk_test

import (
	"bytes"
	"math/rand"
	"slices"
	"strconv"
	"testing"

	"quadrille/api"
	"quadrille/brain"
	"quadrille/desk"
	"quadrille/jobs"
)

// storm is a world in which anything happens, and what was seen of it.
type storm struct {
	*world
	r        *rand.Rand
	deaf     []bool
	slack    int            // how many datagrams stay in the air
	together map[uint32]int // the ticks in which all ranks of a job ran
	cut      int            // how often the power has gone under way
}

// look fails the test unless all that run are of one generation, and nobody is credited what did not run.
func (w *storm) look() {
	w.t.Helper()
	gens := map[[2]uint32]bool{}
	for node, h := range w.hands {
		running := 0
		for _, r := range h.Ranks() {
			if !r.Run {
				continue
			}
			running++
			gens[[2]uint32{h.Epoch(), r.Gen}] = true
			if h.Epoch() == w.d.Epoch() && w.d.Up() && (r.Gen != w.d.Brain().Gen() || !slices.Contains(w.d.Brain().Members(), r.Job)) {
				w.t.Fatalf("tick %d: node %d runs %+v, the brain has %d: %v", w.now, node, r, w.d.Brain().Gen(), w.d.Brain().Members())
			}
		}
		if running > 1 {
			w.t.Fatalf("tick %d: node %d runs %+v", w.now, node, h.Ranks())
		}
	}
	if len(gens) > 1 {
		w.t.Fatalf("tick %d: generations %v", w.now, gens)
	}
	for _, j := range append(w.d.Table().Active(), w.d.Table().Over()...) {
		if j.Credit > w.together[j.ID] || j.State == api.Done && j.Credit != j.W {
			w.t.Fatalf("tick %d: %+v, all its ranks ran for %d", w.now, j, w.together[j.ID])
		}
	}
}

// pass has a tick pass.
func (w *storm) pass() {
	w.t.Helper()
	w.now++
	ran := map[[3]uint32]int{}
	for node, h := range w.hands {
		l := h.Tick(w.now)
		if !w.deaf[node] {
			w.fly(l)
		}
		for _, r := range h.Ranks() {
			if r.Run && r.To == w.now {
				ran[[3]uint32{r.Job, h.Epoch(), r.Gen}]++
			}
		}
	}
	for x, n := range ran {
		if n == w.job(x[0]).K {
			w.together[x[0]]++
		}
	}
	w.d.Tick(w.now)
	w.sent()
}

// sent has all fly that the desk sends, but to those who are deaf.
func (w *storm) sent() {
	for _, o := range w.d.Out() {
		if !w.deaf[o.To] {
			w.air = append(w.air, o)
		}
	}
}

// come has the i-th datagram come.
func (w *storm) come(i int) {
	w.t.Helper()
	if o := w.air[i]; o.To >= 0 && w.deaf[o.To] {
		w.air = slices.Delete(w.air, i, i+1)
		return
	}
	if w.air[i].To < 0 {
		w.d.Land(w.air[i].Data)
		w.air = slices.Delete(w.air, i, i+1)
		w.sent()
		return
	}
	w.land(i)
}

// request asks for anything, and answers what the table would be if that is done.
func (w *storm) request() *jobs.Table {
	w.t.Helper()
	q := chance(w.r, w.seqs, int(w.d.Table().Next()))
	if q.W > 12 { // so that a calm isn't long
		q.W = 12
	}
	would := w.d.Table()
	want, done := would.Do(q)
	r, e := w.ask(q)
	if e != api.OK {
		return would
	}
	if r != want && r.E != api.ErrState {
		w.t.Fatalf("tick %d: %+v: %+v, want %+v", w.now, q, r, want)
	}
	if done && r.E == api.OK {
		w.seqs[q.Client] = q.Seq
	}
	w.sent()
	return nil
}

// step has anything happen; the answer is what may be there behind a crash.
func (w *storm) step() []*jobs.Table {
	w.t.Helper()
	was := w.d.Table()
	switch n := w.r.Intn(60); {
	case n < 50:
		w.pass()
		w.look()
		for len(w.air) > w.slack && w.d.Up() {
			w.blow()
			w.look()
		}
	case n < 56:
		if would := w.request(); would != nil {
			return []*jobs.Table{was, would}
		}
	case n == 56 && w.r.Intn(4) == 0:
		w.hands[w.r.Intn(len(w.hands))].Restart()
	case n == 57 && w.r.Intn(8) == 0:
		node := w.r.Intn(len(w.hands))
		w.deaf[node] = !w.deaf[node]
	case n == 58:
		w.s.Arm(1 + w.r.Intn(12))
	}
	return orDone(w.d.Table())
}

// blow has a datagram come, one of the oldest; or it gets lost, or comes twice.
func (w *storm) blow() {
	w.t.Helper()
	i := w.r.Intn(min(len(w.air), 4))
	switch w.r.Intn(30) {
	case 0:
		w.air = slices.Delete(w.air, i, i+1)
	case 1:
		w.air = append(w.air, w.air[i])
		w.come(i)
	default:
		w.come(i)
	}
}

// fall has the power go, and a desk be opened.
func (w *storm) fall(l []*jobs.Table) {
	w.t.Helper()
	var fates []byte
	for range 8 {
		fates = append(fates, byte(w.r.Intn(4)))
	}
	if !w.d.Up() {
		w.cut++
	}
	crashed(w.world, "tick "+strconv.Itoa(int(w.now)), fates, w.r.Intn(api.Sector), l...)
	for client := range byte(api.MaxClients) { // what was under way may have been done
		for {
			q := api.Request{Client: client, Seq: w.seqs[client] + 1, Kind: api.Cancel, Job: 1 << 30}
			if r, _ := w.ask(q); r.E != api.ErrStale && r.E != api.OK {
				break
			}
			w.seqs[client]++
		}
	}
}

// TestAnything: whatever is asked, lost, doubled, late or begun anew, and whenever the power goes, those who run run together, nobody is credited what did not run, and what is acknowledged lasts; once it is calm all jobs come to their end.
func TestAnything(t *testing.T) {
	var done, cancelled, cut int
	for seed := range int64(40) {
		r := rand.New(rand.NewSource(seed))
		c := desk.Config{
			Brain: brain.Config{Nodes: 4, Rows: 1 + r.Intn(3), Quantum: 1 + r.Intn(5), Grace: 1 + r.Intn(6)},
			Size:  25 + r.Intn(30), Images: 150,
		}
		w := &storm{world: made(t, c), r: r, deaf: make([]bool, c.Brain.Nodes), slack: r.Intn(12), together: map[uint32]int{}}
		for range 800 {
			l := w.step()
			w.look()
			if !w.d.Up() || r.Intn(200) == 0 {
				w.fall(l)
				w.look()
			}
		}
		cut += w.cut
		for _, j := range w.d.Table().Over() {
			if j.State == api.Done {
				done++
			} else {
				cancelled++
			}
		}
		w.s.Arm(0)
		clear(w.deaf)
		for len(w.d.Table().Active()) > 0 {
			w.pass()
			for len(w.air) > 0 {
				w.come(0)
				w.look()
			}
			if w.now > 20000 {
				t.Fatalf("seed %d: %+v", seed, w.d.Table().Active())
			}
		}
		was := w.d.Table().Bytes()
		w.reopen()
		if !bytes.Equal(w.d.Table().Bytes(), was) {
			t.Fatalf("seed %d: opened again it is another", seed)
		}
	}
	if done < 100 || cancelled < 100 || cut < 100 {
		t.Errorf("%d Done, %d cancelled, %d cut", done, cancelled, cut)
	}
}
