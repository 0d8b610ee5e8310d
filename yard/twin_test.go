package yard_test

import (
	"bytes"
	"fmt"
	"math/rand"
	"slices"
	"testing"

	"quadrille/api"
	"quadrille/desk"
	"quadrille/hand"
	"quadrille/note"
	"quadrille/slab"
	"quadrille/yard"
)

// twin is what a yard is to be, laid out plainly.
type twin struct {
	c       yard.Config
	now     uint32
	s       *slab.Slab
	d       *desk.Desk
	hands   []*hand.Hand
	deaf    map[int]bool
	flies   []api.Out
	replies [][]byte
}

func newTwin(t *testing.T, c yard.Config) *twin {
	t.Helper()
	s, e := slab.New(2 + 2*c.Desk.Size + c.Desk.Images)
	if e != api.OK || desk.Format(s, c.Desk) != api.OK {
		t.Fatal("no slab")
	}
	w := &twin{c: c, s: s, deaf: map[int]bool{}}
	if w.d, e = desk.Open(s, c.Desk, 0); e != api.OK {
		t.Fatal("no desk")
	}
	for node := range c.Desk.Brain.Nodes {
		h, _ := hand.New(byte(node))
		w.hands = append(w.hands, h)
	}
	return w
}

// fly has these fly, as long as there is room.
func (w *twin) fly(l ...api.Out) {
	for _, o := range l {
		if len(w.flies) < w.c.Air {
			w.flies = append(w.flies, o)
		}
	}
}

// say has what a node sends fly.
func (w *twin) say(node int, l []api.Packet) {
	for _, k := range l {
		if p, _ := note.Packet(k); !w.deaf[node] {
			w.fly(api.Out{To: -1, Data: p})
		}
	}
}

func (w *twin) tick() {
	w.now++
	for node, h := range w.hands {
		w.say(node, h.Tick(w.now))
	}
	w.d.Tick(w.now)
	w.fly(w.d.Out()...)
}

func (w *twin) land(n int) api.Errno {
	if n < 0 || n >= len(w.flies) {
		return api.ErrNone
	}
	o := w.flies[n]
	w.flies = slices.Delete(slices.Clone(w.flies), n, n+1)
	if o.To == -1 {
		e := w.d.Land(o.Data)
		w.fly(w.d.Out()...)
		return e
	}
	if k, e := note.ReadPacket(o.Data); e == api.OK && !w.deaf[o.To] {
		w.say(o.To, w.hands[o.To].Hear(k))
	}
	return api.OK
}

// do has a step happen.
func (w *twin) do(s yard.Step) api.Errno {
	flies, isNode := s.N >= 0 && s.N < len(w.flies), s.N >= 0 && s.N < len(w.hands)
	switch {
	case s.Kind == yard.Ask:
		r, e := w.d.Ask(s.Data)
		if e == api.OK {
			w.replies = append(w.replies, r)
		}
		w.fly(w.d.Out()...)
		return e
	case s.Kind == yard.Tick:
		w.tick()
	case s.Kind == yard.Land:
		return w.land(s.N)
	case s.Kind == yard.Echo && flies && len(w.flies) == w.c.Air:
		return api.ErrFull
	case s.Kind == yard.Echo && flies:
		w.fly(w.flies[s.N])
	case s.Kind == yard.Lose && flies:
		w.flies = slices.Delete(slices.Clone(w.flies), s.N, s.N+1)
	case s.Kind == yard.Echo || s.Kind == yard.Lose:
		return api.ErrNone
	case s.Kind == yard.Restart && isNode:
		w.hands[s.N].Restart()
	case s.Kind == yard.Arm:
		return w.s.Arm(s.N)
	case s.Kind == yard.Crash:
		w.s.Crash(s.Data, s.Cut)
		d, e := desk.Open(w.s, w.c.Desk, w.now)
		w.d = d
		return e
	case s.Kind == yard.Calm && s.N >= 0 && s.N <= 400:
		for range s.N {
			for w.tick(); len(w.flies) > 0; {
				w.land(0)
			}
		}
	case s.Kind == yard.Deaf && isNode:
		w.deaf[s.N] = s.On
	default:
		return api.ErrArg
	}
	return api.OK
}

// tale answers all that is to be seen of these.
func tale(now uint32, s *slab.Slab, d *desk.Desk, l []*hand.Hand, flies int, replies [][]byte) string {
	var p bytes.Buffer
	fmt.Fprintln(&p, now, flies, replies, s.Len(), s.On(), s.Steps(), s.Way())
	for i := range s.Len() {
		x, e := s.Read(i)
		p.Write(x)
		fmt.Fprintln(&p, e)
	}
	for _, h := range l {
		fmt.Fprintln(&p, h.Life(), h.Epoch(), h.Now(), h.Bound(), h.Ranks())
	}
	fmt.Fprintln(&p, d == nil, d.Up(), d.Epoch(), d.Table().Bytes(), d.Table().Active(), d.Table().Over())
	b := d.Brain()
	fmt.Fprintln(&p, b.Gen(), b.Members(), b.Resting(), b.Matrix().Jobs(), b.Jobs())
	for node := range l {
		fmt.Fprintln(&p, d.Book().State(node), d.Book().Life(node), d.Book().Until(node))
	}
	return p.String()
}

// tale answers all that is to be seen of it.
func (w *twin) tale() string {
	return tale(w.now, w.s, w.d, w.hands, len(w.flies), w.replies)
}

// taleOf answers all that is to be seen of a yard.
func taleOf(y *yard.Yard) string {
	var l []*hand.Hand
	for node := 0; y.Hand(node) != nil; node++ {
		l = append(l, y.Hand(node))
	}
	return tale(y.Now(), y.Slab(), y.Desk(), l, y.Air().Len(), y.Replies())
}

// anyStep answers any step for a yard of so many nodes, in which so many fly.
func anyStep(t *testing.T, r *rand.Rand, nodes, flies int) yard.Step {
	t.Helper()
	s := yard.Step{N: r.Intn(flies+3) - 1}
	switch n := r.Intn(100); {
	case n < 50:
		s.Kind = yard.Land
	case n < 68:
		s.Kind = yard.Tick
	case n < 80:
		s.Kind = yard.Ask
		q := api.Request{Client: byte(r.Intn(2)), Seq: uint32(r.Intn(30)), Kind: api.Submit, Tier: byte(r.Intn(4)), K: 1 + r.Intn(nodes), W: 1 + r.Intn(9)}
		if r.Intn(4) == 0 {
			q.Kind, q.Tier, q.K, q.W, q.Job = api.Cancel, 0, 0, 0, uint32(r.Intn(9))
		}
		s.Data = bytesOf(t, q)
		if r.Intn(8) == 0 {
			s.Data = s.Data[:r.Intn(len(s.Data))]
		}
	case n < 83:
		s.Kind, s.N = yard.Calm, r.Intn(9)-1
	case n < 90:
		s = yard.Step{Kind: yard.Deaf, N: r.Intn(nodes+2) - 1, On: r.Intn(3) == 0}
	case n < 93:
		s = yard.Step{Kind: yard.Restart, N: r.Intn(nodes+2) - 1}
	case n < 95:
		s = yard.Step{Kind: yard.Arm, N: r.Intn(12) - 1}
	case n < 97:
		s = yard.Step{Kind: yard.Crash, Data: []byte{byte(r.Intn(4)), byte(r.Intn(4))}, Cut: r.Intn(api.Sector)}
	case n == 97:
		s.Kind = yard.Lose
	default:
		s.Kind = yard.Echo
	}
	if r.Intn(200) == 0 {
		s.Kind = byte(r.Intn(256))
		s.N = min(s.N, 20) // so that a calm isn't long
	}
	return s
}

// TestTwin: whatever happens, it is as its parts are that are told the same one by one.
func TestTwin(t *testing.T) {
	errors := map[api.Errno]int{}
	for seed := range int64(40) {
		r := rand.New(rand.NewSource(seed))
		c := anyConfig(r)
		if r.Intn(2) == 0 {
			c.Air = 1 + r.Intn(30)
		}
		y, w := made(t, c).y, newTwin(t, c)
		for i := range 300 {
			s := anyStep(t, r, c.Desk.Brain.Nodes, len(w.flies))
			got, want := y.Do(s), w.do(s)
			errors[want]++
			if got != want {
				t.Fatalf("seed %d, step %d: %+v: error %d, want %d", seed, i, s, got, want)
			}
			if got, want := taleOf(y), w.tale(); got != want {
				t.Fatalf("seed %d, step %d: %+v:\n%q\nwant\n%q", seed, i, s, got, want)
			}
		}
	}
	for _, e := range []api.Errno{api.OK, api.ErrArg, api.ErrShort, api.ErrNone, api.ErrFull, api.ErrDown} {
		if errors[e] < 5 {
			t.Errorf("error %d came %d times", e, errors[e])
		}
	}
}

// TestTheSameAgain: two yards that are told the same are the same.
func TestTheSameAgain(t *testing.T) {
	r := rand.New(rand.NewSource(1))
	a, b := made(t, plain()).y, made(t, plain()).y
	for range 2000 {
		s := anyStep(t, r, 4, a.Air().Len())
		if a.Do(s) != b.Do(s) {
			t.Fatalf("%+v", s)
		}
	}
	if taleOf(a) != taleOf(b) {
		t.Fatal("they are not")
	}
}
