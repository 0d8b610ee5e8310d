package yard_test

import (
	"math/rand"
	"strconv"
	"testing"

	"quadrille/api"
	"quadrille/brain"
	"quadrille/desk"
	"quadrille/yard"
)

// storm is a world in which anything happens.
type storm struct {
	*world
	r      *rand.Rand
	slack  int  // how many datagrams stay in the air
	late   int  // one of so many comes next
	rarely int  // of so many times that a node may become deaf, or hear again, it does once
	most   int  // for how many ticks a job asks, at the most
	mute   bool // nobody asks for anything
}

// stormy answers a storm upon a yard of this Config.
func stormy(t *testing.T, r *rand.Rand, c yard.Config) *storm {
	t.Helper()
	w := &storm{world: made(t, c), r: r, slack: r.Intn(12), late: 4, rarely: 1 + r.Intn(8), most: 1 + r.Intn(12)}
	if r.Intn(3) == 0 { // what flies may come when it isn't awaited any more
		w.slack, w.late = r.Intn(100), 1+r.Intn(200)
	}
	return w
}

// anyConfig answers a Config, with room on the disk and in the air, or not.
func anyConfig(r *rand.Rand) yard.Config {
	c := yard.Config{
		Desk: desk.Config{
			Brain: brain.Config{Nodes: 1 + r.Intn(6), Rows: 1 + r.Intn(4), Quantum: 1 + r.Intn(6), Grace: 1 + r.Intn(8)},
			Size:  8 + r.Intn(60), Images: 20 + r.Intn(300),
		},
		Air: 20 + r.Intn(400),
	}
	if r.Intn(4) == 0 {
		c.Desk.Size = 1 + r.Intn(4)
	}
	return c
}

// request answers any request, most often one that is done.
func (w *storm) request() api.Request {
	client := byte(w.r.Intn(3))
	q := api.Request{Client: client, Seq: w.seqs[client] + 1}
	if w.r.Intn(8) == 0 {
		q.Seq = uint32(w.r.Intn(int(q.Seq) + 2))
	}
	switch w.r.Intn(6) {
	case 0:
		q.Kind, q.Job = api.Cancel, uint32(w.r.Intn(int(w.table.Next())+2))
	case 1:
		q.Kind, q.Job = api.Query, uint32(w.r.Intn(int(w.table.Next())+2))
	case 2:
		q.Kind, q.Tier, q.K, q.W = api.Submit, byte(w.r.Intn(6)), w.r.Intn(20), w.r.Intn(2)*(api.MaxWall+1)+w.r.Intn(2)
	default:
		q.Kind, q.Tier, q.K, q.W = api.Submit, byte(w.r.Intn(4)), 1+w.r.Intn(w.nodes()), 1+w.r.Intn(w.most)
	}
	return q
}

// step has anything happen.
func (w *storm) step() {
	w.t.Helper()
	switch n := w.r.Intn(60); {
	case n < 48:
		w.pass()
		for w.y.Air().Len() > w.slack {
			w.blow()
		}
	case n < 54:
		if !w.mute {
			w.ask(w.request())
		}
	case n == 54 && w.r.Intn(4) == 0:
		w.do(yard.Step{Kind: yard.Restart, N: w.r.Intn(w.nodes())})
	case n < 58 && w.r.Intn(w.rarely) == 0:
		w.deafen(w.r.Intn(w.nodes()), w.r.Intn(2) == 0)
	case n == 58:
		w.do(yard.Step{Kind: yard.Arm, N: 1 + w.r.Intn(12)})
	}
}

// blow has a datagram come; or it gets lost, or comes twice.
func (w *storm) blow() {
	w.t.Helper()
	n := w.r.Intn(min(w.y.Air().Len(), w.late))
	switch w.r.Intn(30) {
	case 0:
		w.do(yard.Step{Kind: yard.Lose, N: n})
	case 1:
		w.do(yard.Step{Kind: yard.Echo, N: n})
		w.do(yard.Step{Kind: yard.Land, N: n})
	default:
		w.do(yard.Step{Kind: yard.Land, N: n})
	}
}

// fall has the power go, by any fates.
func (w *storm) fall() {
	w.t.Helper()
	var fates []byte
	for range 8 {
		fates = append(fates, byte(w.r.Intn(256)))
	}
	w.crash(fates, w.r.Intn(api.Sector+20)-10)
}

// rage has anything happen for so many steps.
func (w *storm) rage(steps int) {
	w.t.Helper()
	for range steps {
		w.step()
		if !w.up() && w.r.Intn(4) == 0 || w.r.Intn(300) == 0 {
			w.fall()
		}
	}
}

// abate has the storm be over: the desk is up, the power isn't armed, and nobody is deaf.
func (w *storm) abate() {
	w.t.Helper()
	if !w.up() {
		w.fall()
	}
	w.is(yard.Step{Kind: yard.Arm}, api.OK)
	for node := range w.nodes() {
		w.deafen(node, false)
	}
}

// TestStorms: whatever is asked, lost, doubled, late or begun anew, and whenever the power goes, those who run run together, nobody is credited what did not run, clients are told what the table tells, and that lasts.
func TestStorms(t *testing.T) {
	var n counts
	for seed := range int64(50) {
		r := rand.New(rand.NewSource(seed))
		w := stormy(t, r, anyConfig(r))
		w.rage(700)
		n.add(w.count)
	}
	if n.cut < 150 || n.cancelled < 100 || n.done < 150 || n.ran < 1500 || n.refused < 50 || n.under < 30 {
		t.Errorf("hardly anything happened: %+v", n)
	}
}

// TestEachCut: wherever the power goes in a script, what was told is there behind the crash, and the rest comes to its end.
func TestEachCut(t *testing.T) {
	cuts := 0
	for n := 1; ; n++ {
		c := plain()
		c.Desk.Brain.Rows, c.Desk.Size = 1, 3 // so that one has to make room, and snapshots are written
		w := made(t, c)
		w.is(yard.Step{Kind: yard.Arm, N: n}, api.OK)
		if w.scene() {
			break
		}
		cuts++
		w.crash([]byte{byte(n), byte(n / 4), byte(n / 16), byte(n / 3)}, n%api.Sector)
		for len(w.y.Desk().Table().Active()) > 0 {
			if w.calm(1); w.y.Now() > 1000 {
				w.fail("not Done behind the cut at", strconv.Itoa(n), w.y.Desk().Table().Active())
			}
		}
	}
	if cuts < 60 {
		t.Error("the power went only at", cuts)

	}
}

// scene has jobs come, run, be sent away, be cancelled and be Done; false: the power has gone.
func (w *world) scene() bool {
	w.t.Helper()
	script := map[int]api.Request{
		0:  {Kind: api.Submit, K: 1, W: 2},
		1:  {Kind: api.Submit, K: 2, W: 7},
		2:  {Kind: api.Submit, K: 1, W: 30},
		22: {Kind: api.Submit, Tier: 2, K: 4, W: 4},
		40: {Kind: api.Cancel, Job: 3},
		45: {Kind: api.Submit, K: 1, W: 2},
	}
	for i := range 60 {
		if q, ok := script[i]; ok {
			q.Seq = w.seqs[0] + 1
			if _, ok := w.ask(q); !ok {
				return false
			}
		}
		if w.calm(1); !w.up() {
			return false
		}
	}
	return true
}
