package desk_test

import (
	"testing"

	"quadrille/api"
	"quadrille/brain"
	"quadrille/desk"
	"quadrille/hand"
	"quadrille/image"
	"quadrille/note"
	"quadrille/slab"
)

// world is a desk, the hands of its nodes, and what flies between them.
type world struct {
	t     *testing.T
	c     desk.Config
	s     *slab.Slab
	d     *desk.Desk
	now   uint32
	hands []*hand.Hand
	air   []api.Out // To -1: to the desk
	seqs  [api.MaxClients]uint32
}

// plain answers a Config of so many nodes, with room for much.
func plain(nodes int) desk.Config {
	return desk.Config{Brain: brain.Config{Nodes: nodes, Rows: 2, Quantum: 3, Grace: 4}, Size: 30, Images: 60}
}

// sectors answers how many sectors a desk stands on.
func sectors(c desk.Config) int { return 2 + 2*c.Size + c.Images }

// blank answers a slab for such a desk.
func blank(t *testing.T, c desk.Config) *slab.Slab {
	t.Helper()
	s, e := slab.New(sectors(c))
	if e != api.OK {
		t.Fatal("slab.New: error", e)
	}
	return s
}

// formatted answers a slab with a desk that has no jobs.
func formatted(t *testing.T, c desk.Config) *slab.Slab {
	t.Helper()
	s := blank(t, c)
	if e := desk.Format(s, c); e != api.OK {
		t.Fatal("Format: error", e)
	}
	return s
}

// opened answers the desk of a slab.
func opened(t *testing.T, s *slab.Slab, c desk.Config, now uint32) *desk.Desk {
	t.Helper()
	d, e := desk.Open(s, c, now)
	if e != api.OK || d == nil || !d.Up() {
		t.Fatal("Open: error", e)
	}
	return d
}

// made answers a world in which nothing has happened.
func made(t *testing.T, c desk.Config) *world {
	t.Helper()
	s := formatted(t, c)
	w := &world{t: t, c: c, s: s, d: opened(t, s, c, 0)}
	for node := range c.Brain.Nodes {
		h, e := hand.New(byte(node))
		if e != api.OK {
			t.Fatal("hand.New: error", e)
		}
		w.hands = append(w.hands, h)
	}
	return w
}

// ask answers the reply to q, and the error beside it.
func (w *world) ask(q api.Request) (api.Reply, api.Errno) {
	w.t.Helper()
	return asked(w.t, w.d, q)
}

// asked answers a desk's reply to q, and the error beside it.
func asked(t *testing.T, d *desk.Desk, q api.Request) (api.Reply, api.Errno) {
	t.Helper()
	p, e := note.Request(q)
	if e != api.OK {
		t.Fatalf("%+v: error %d", q, e)
	}
	b, e := d.Ask(p)
	if e != api.OK {
		if len(b) > 0 {
			t.Fatalf("%+v: error %d, and a reply", q, e)
		}
		return api.Reply{}, e
	}
	r, e := note.ReadReply(b)
	if e != api.OK {
		t.Fatalf("%+v: the reply %x: error %d", q, b, e)
	}
	return r, api.OK
}

// must asks for q as the next of client 0's, and answers the job.
func (w *world) must(q api.Request) uint32 {
	w.t.Helper()
	q.Seq = w.seqs[0] + 1
	r, e := w.ask(q)
	if e != api.OK || r.E != api.OK {
		w.t.Fatalf("tick %d: %+v: error %d, reply %+v", w.now, q, e, r)
	}
	w.seqs[0]++
	w.send()
	return r.Job
}

func (w *world) submit(tier byte, k, ticks int) uint32 {
	w.t.Helper()
	return w.must(api.Request{Kind: api.Submit, Tier: tier, K: k, W: ticks})
}

func (w *world) cancel(job uint32) {
	w.t.Helper()
	w.must(api.Request{Kind: api.Cancel, Job: job})
}

// job answers a job that the table is to know.
func (w *world) job(job uint32) api.Job {
	w.t.Helper()
	j, ok := w.d.Table().Job(job)
	if !ok {
		w.t.Fatalf("tick %d: job %d isn't known", w.now, job)
	}
	return j
}

// send has all fly that the desk sends.
func (w *world) send() { w.air = append(w.air, w.d.Out()...) }

// fly has all fly that a hand sends.
func (w *world) fly(l []api.Packet) {
	w.t.Helper()
	for _, k := range l {
		p, e := note.Packet(k)
		if e != api.OK {
			w.t.Fatalf("%+v: error %d", k, e)
		}
		w.air = append(w.air, api.Out{To: -1, Data: p})
	}
}

// tick has a tick pass at the hands, and then at the desk.
func (w *world) tick() {
	w.t.Helper()
	w.now++
	for _, h := range w.hands {
		w.fly(h.Tick(w.now))
	}
	up := w.d.Up()
	if e := w.d.Tick(w.now); e != api.OK && up {
		w.t.Fatalf("tick %d: error %d", w.now, e)
	}
	w.send()
}

// land has the i-th datagram come.
func (w *world) land(i int) {
	w.t.Helper()
	o := w.air[i]
	w.air = append(w.air[:i:i], w.air[i+1:]...)
	if o.To >= 0 {
		k, e := note.ReadPacket(o.Data)
		if e != api.OK || int(k.Node) != o.To {
			w.t.Fatalf("to %d: %x: error %d", o.To, o.Data, e)
		}
		w.fly(w.hands[o.To].Hear(k))
		return
	}
	up := w.d.Up()
	if e := w.d.Land(o.Data); e != api.OK && up {
		w.t.Fatalf("tick %d: Land: error %d", w.now, e)
	}
	w.send()
}

// calm has ticks pass, behind each of which all comes.
func (w *world) calm(ticks int) {
	w.t.Helper()
	for range ticks {
		w.tick()
		for len(w.air) > 0 {
			w.land(0)
		}
	}
}

// until has calm ticks pass till something holds.
func (w *world) until(what string, holds func() bool) {
	w.t.Helper()
	for range 400 {
		if holds() {
			return
		}
		w.calm(1)
	}
	w.t.Fatalf("tick %d: not %s", w.now, what)
}

// credited has calm ticks pass till a job has so many ticks to its credit.
func (w *world) credited(job uint32, least int) {
	w.t.Helper()
	w.until("credited", func() bool { return w.job(job).Credit >= least })
}

// reopen has the power go and come back, and a desk be opened.
func (w *world) reopen() {
	w.t.Helper()
	w.crash(nil, 0)
}

// crash has the power go and come back, by these fates, and a desk be opened.
func (w *world) crash(fates []byte, cut int) {
	w.t.Helper()
	w.s.Crash(fates, cut)
	w.d = opened(w.t, w.s, w.c, w.now)
}

// store answers the images as they stand on the slab.
func (w *world) store() *image.Store {
	w.t.Helper()
	return storeOf(w.t, w.s, w.c)
}

// storeOf answers the images on the slab of a desk.
func storeOf(t *testing.T, s *slab.Slab, c desk.Config) *image.Store {
	t.Helper()
	l, e := image.Open(s, 2+2*c.Size, sectors(c), 1<<30)
	if e != api.OK {
		t.Fatal("image.Open: error", e)
	}
	return l
}
