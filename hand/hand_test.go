package hand_test

import (
	"bytes"
	"math"
	"slices"
	"testing"

	"quadrille/api"
	"quadrille/hand"
	"quadrille/note"
	"quadrille/talk"
)

// theNode is the node of all hands that tests have.
const theNode = 3

func made(t *testing.T) *hand.Hand {
	t.Helper()
	h, e := hand.New(theNode)
	if e != api.OK {
		t.Fatalf("New: error %d", e)
	}
	return h
}

// bytesOf answers the bytes of a note that is right.
func bytesOf(t *testing.T, n api.Note) []byte {
	t.Helper()
	p, e := note.Note(n)
	if e != api.OK {
		t.Fatalf("note %+v: error %d", n, e)
	}
	return p
}

// plain answers the packet of an epoch with a note by itself.
func plain(t *testing.T, epoch uint32, n api.Note) api.Packet {
	t.Helper()
	return api.Packet{Node: theNode, Epoch: epoch, Plain: true, Data: bytesOf(t, n)}
}

// beat answers the packet of a Beat.
func beat(t *testing.T, epoch, lease uint32) api.Packet {
	t.Helper()
	return plain(t, epoch, api.Note{Kind: api.Beat, Epoch: epoch, Tick: lease})
}

func samePacket(a, b api.Packet) bool {
	return bytes.Equal(a.Data, b.Data) && a.Node == b.Node && a.Epoch == b.Epoch && a.Life == b.Life && a.Seq == b.Seq && a.Ack == b.Ack && a.Plain == b.Plain
}

// packets fails the test unless just these are sent.
func packets(t *testing.T, what string, got []api.Packet, want ...api.Packet) {
	t.Helper()
	if !slices.EqualFunc(got, want, samePacket) {
		t.Fatalf("%s: %+v, want %+v", what, got, want)
	}
}

// stands fails the test unless the hand is so.
func stands(t *testing.T, h *hand.Hand, life, epoch, now, bound uint32) {
	t.Helper()
	if h.Life() != life || h.Epoch() != epoch || h.Now() != now || h.Bound() != bound {
		t.Fatalf("life %d, epoch %d, now %d, bound %d; want %d, %d, %d, %d", h.Life(), h.Epoch(), h.Now(), h.Bound(), life, epoch, now, bound)
	}
}

// has fails the test unless the hand has just these ranks.
func has(t *testing.T, h *hand.Hand, want ...api.Rank) {
	t.Helper()
	if got := h.Ranks(); !slices.Equal(got, want) {
		t.Fatalf("ranks %+v, want %+v", got, want)
	}
}

// side is the controller's side of a hand.
type side struct {
	*hand.Hand
	t   *testing.T
	end *talk.Talk
}

// joined answers a hand that was told a lease in the epoch 1, and is in its life 2, with the talk of these.
func joined(t *testing.T, lease uint32) side {
	t.Helper()
	h := made(t)
	packets(t, "Beat", h.Hear(beat(t, 1, lease)))
	return met(t, h)
}

// met answers the controller's side of a hand, with a new talk.
func met(t *testing.T, h *hand.Hand) side {
	return side{h, t, talk.New(theNode, h.Epoch(), h.Life())}
}

// send has the hand told p, and answers what it sends: an answer, and what it says.
func (s side) send(p []byte) []api.Packet {
	s.t.Helper()
	k, e := s.end.Say(p)
	if e != api.OK {
		s.t.Fatalf("Say: error %d", e)
	}
	l := s.Hear(k)
	if len(l) == 0 || l[0].Seq != 0 || l[0].Ack != k.Seq || len(l[0].Data) != 0 || !s.end.Mine(l[0]) {
		s.t.Fatalf("%+v isn't answered: %+v", k, l)
	}
	return l
}

// tell has the hand told n, and fails the test unless it says just these, which are answered.
func (s side) tell(n api.Note, want ...api.Note) {
	s.t.Helper()
	l := s.send(bytesOf(s.t, n))[1:]
	if len(l) != len(want) {
		s.t.Fatalf("%+v: %d notes are said, want %+v", n, len(l), want)
	}
	for i, k := range l {
		p, told, answer, _ := s.end.Hear(k)
		if !told || !bytes.Equal(p, bytesOf(s.t, want[i])) {
			got, _ := note.ReadNote(p)
			s.t.Fatalf("%+v: %+v is said, want %+v", n, got, want[i])
		}
		packets(s.t, "an answer", s.Hear(answer))
	}
}

// load has the hand have a rank of these jobs, of version 0, rank 0, credit 0.
func (s side) load(jobs ...uint32) {
	s.t.Helper()
	for _, job := range jobs {
		s.tell(api.Note{Kind: api.Load, Job: job}, api.Note{Kind: api.Loaded, Job: job})
	}
}

// run has the hand told Go.
func (s side) run(gen, job uint32) {
	s.t.Helper()
	s.tell(api.Note{Kind: api.Go, Gen: gen, Job: job})
}

// halt has the hand told Stop, and fails the test unless it says that this job ran, in these ticks.
func (s side) halt(gen, job, from, to uint32) {
	s.t.Helper()
	s.tell(api.Note{Kind: api.Stop, Gen: gen}, api.Note{Kind: api.Stopped, Gen: gen, Job: job, From: from, To: to})
}

// pass has ticks pass, up to now.
func (s side) pass(now uint32) {
	for i := s.Now() + 1; i <= now; i++ {
		s.Tick(i)
	}
}

func TestExample(t *testing.T) {
	h := made(t)
	packets(t, "Beat", h.Hear(beat(t, 1, 20)))
	stands(t, h, 2, 1, 0, 20)
	s := met(t, h)
	s.load(5)
	s.run(1, 5)
	h.Tick(3)
	h.Tick(4)
	s.halt(1, 5, 3, 4)
	h.Tick(20)
	stands(t, h, 2, 1, 20, 20)
	h.Tick(21)
	stands(t, h, 3, 1, 21, 29)
	has(t, h)
}

func TestNew(t *testing.T) {
	for node := range 256 {
		h, e := hand.New(byte(node))
		if node >= api.MaxNodes {
			if h != nil || e != api.ErrArg {
				t.Fatalf("New(%d): %v, error %d", node, h, e)
			}
			continue
		}
		if e != api.OK {
			t.Fatalf("New(%d): error %d", node, e)
		}
		stands(t, h, 1, 0, 0, api.Lease)
		has(t, h)
		hello := api.Packet{Node: byte(node), Life: 1, Plain: true, Data: bytesOf(t, api.Note{Kind: api.Hello, Node: byte(node), Life: 1, Tick: 7})}
		packets(t, "Tick", h.Tick(7), hello)
	}
}

// hello answers the packet that tells of a hand's life.
func hello(t *testing.T, h *hand.Hand) api.Packet {
	t.Helper()
	n := api.Note{Kind: api.Hello, Node: theNode, Epoch: h.Epoch(), Life: h.Life(), Tick: h.Now()}
	return api.Packet{Node: theNode, Epoch: h.Epoch(), Life: h.Life(), Plain: true, Data: bytesOf(t, n)}
}

// TestTickTellsAgain: the Hello goes first, then what isn't answered, at each second Tick.
func TestTickTellsAgain(t *testing.T) {
	s := joined(t, 90)
	var said []api.Packet
	for _, job := range []uint32{4, 9} {
		said = append(said, s.send(bytesOf(t, api.Note{Kind: api.Load, Job: job}))[1])
	}
	said[0].Ack = 2 // so many came since
	packets(t, "Tick(1)", s.Tick(1), hello(t, s.Hand))
	packets(t, "Tick(2)", s.Tick(2), append([]api.Packet{hello(t, s.Hand)}, said...)...)
	packets(t, "Tick(5)", s.Tick(5), hello(t, s.Hand))
	s.end.Hear(said[0])
	_, _, answer, _ := s.end.Hear(said[1])
	s.Hear(answer)
	packets(t, "Tick(6)", s.Tick(6), hello(t, s.Hand))
	packets(t, "Tick(7)", s.Tick(7), hello(t, s.Hand))
}

// TestTickThatIsNotAbove: nothing happens at a tick that is past, and nobody runs then.
func TestTickThatIsNotAbove(t *testing.T) {
	s := joined(t, 20)
	s.load(5)
	s.run(1, 5)
	packets(t, "Tick(0)", s.Tick(0))
	has(t, s.Hand, api.Rank{Job: 5, Run: true, Gen: 1})
	s.Tick(6)
	for _, now := range []uint32{6, 5, 1, 0} {
		packets(t, "a tick that is past", s.Tick(now))
		stands(t, s.Hand, 2, 1, 6, 20)
		has(t, s.Hand, api.Rank{Job: 5, Run: true, Gen: 1, From: 6, To: 6})
	}
	s.Tick(9)
	has(t, s.Hand, api.Rank{Job: 5, Run: true, Gen: 1, From: 6, To: 9})
}

// TestNoEpochNoBound: a life of the epoch 0 doesn't end by itself.
func TestNoEpochNoBound(t *testing.T) {
	h := made(t)
	for _, now := range []uint32{8, 9, 1000, math.MaxUint32} {
		packets(t, "Tick", h.Tick(now), api.Packet{Node: theNode, Life: 1, Plain: true, Data: bytesOf(t, api.Note{Kind: api.Hello, Node: theNode, Life: 1, Tick: now})})
		stands(t, h, 1, 0, now, 8)
	}
}

// TestBound: up to its bound a hand goes on; above it a life begins, of Lease ticks without a word.
func TestBound(t *testing.T) {
	h := made(t)
	h.Tick(5)
	h.Hear(beat(t, 4, 0))
	stands(t, h, 2, 4, 5, 13)
	h.Hear(beat(t, 4, 12)) // no later than what it has by itself
	stands(t, h, 2, 4, 5, 13)
	h.Hear(beat(t, 4, 15))
	h.Hear(beat(t, 4, 14)) // the greatest one counts
	stands(t, h, 2, 4, 5, 15)
	h.Tick(15)
	stands(t, h, 2, 4, 15, 15)
	packets(t, "Tick(16)", h.Tick(16), api.Packet{Node: theNode, Epoch: 4, Life: 3, Plain: true, Data: bytesOf(t, api.Note{Kind: api.Hello, Node: theNode, Epoch: 4, Life: 3, Tick: 16})})
	stands(t, h, 3, 4, 16, 24)
	h.Tick(24)
	stands(t, h, 3, 4, 24, 24)
	h.Tick(100)
	stands(t, h, 4, 4, 100, 108)
	h.Hear(beat(t, 4, 107)) // of a life ago, and of no use
	stands(t, h, 4, 4, 100, 108)
	h.Hear(beat(t, 4, math.MaxUint32))
	stands(t, h, 4, 4, 100, math.MaxUint32)
	h.Tick(math.MaxUint32)
	stands(t, h, 4, 4, math.MaxUint32, math.MaxUint32)
}

// TestLastTick: a bound isn't above the last tick there is.
func TestLastTick(t *testing.T) {
	h := made(t)
	h.Hear(beat(t, 1, 0))
	h.Tick(math.MaxUint32 - 18)
	stands(t, h, 3, 1, math.MaxUint32-18, math.MaxUint32-10)
	h.Tick(math.MaxUint32 - 9)
	stands(t, h, 4, 1, math.MaxUint32-9, math.MaxUint32-1)
	h.Tick(math.MaxUint32)
	stands(t, h, 5, 1, math.MaxUint32, math.MaxUint32)
	h.Restart()
	stands(t, h, 6, 1, math.MaxUint32, math.MaxUint32)
}

// anew fails the test unless a hand has begun a life in which nothing is left of s: ranks, generation, lease, talk.
func anew(t *testing.T, s side, life, epoch uint32) {
	t.Helper()
	stands(t, s.Hand, life, epoch, s.Now(), s.Now()+api.Lease)
	has(t, s.Hand)
	for _, k := range s.Tick(s.Now() + 1) {
		if !k.Plain {
			t.Fatalf("%+v is said again", k)
		}
	}
	k, _ := s.end.Say(bytesOf(t, api.Note{Kind: api.Load, Job: 5}))
	packets(t, "a note to an older life", s.Hear(k))
	s = met(t, s.Hand)
	s.load(5)
	s.run(3, 5)
	has(t, s.Hand, api.Rank{Job: 5})
	s.Hear(beat(t, epoch, 0))
	s.run(2, 5)
	has(t, s.Hand, api.Rank{Job: 5}) // a Go of 3 was told, though nothing came of it
	s.run(3, 5)
	has(t, s.Hand, api.Rank{Job: 5, Run: true, Gen: 3})
}

// busy answers a hand that was told much, with something that isn't answered.
func busy(t *testing.T) side {
	t.Helper()
	s := joined(t, 40)
	s.load(5, 6)
	s.run(9, 5)
	s.send(bytesOf(t, api.Note{Kind: api.Load, Job: 7}))
	s.pass(11)
	return s
}

func TestLifeBegins(t *testing.T) {
	s := busy(t)
	s.Restart()
	anew(t, s, 3, 1)
	s = busy(t)
	s.Tick(41)
	anew(t, s, 3, 1)
	s = busy(t)
	s.Hear(api.Packet{Node: theNode, Epoch: 7})
	anew(t, s, 3, 7)
	s = busy(t)
	s.Hear(api.Packet{Node: theNode, Epoch: math.MaxUint32, Plain: true, Data: []byte("no note")})
	anew(t, s, 3, math.MaxUint32)
}

// TestRestart: also where no epoch was heard of; the tick stays.
func TestRestart(t *testing.T) {
	h := made(t)
	h.Tick(30)
	h.Restart()
	stands(t, h, 2, 0, 30, 38)
	h.Restart()
	stands(t, h, 3, 0, 30, 38)
	packets(t, "Tick(30)", h.Tick(30))
	packets(t, "Tick(31)", h.Tick(31), api.Packet{Node: theNode, Life: 3, Plain: true, Data: bytesOf(t, api.Note{Kind: api.Hello, Node: theNode, Life: 3, Tick: 31})})
}

// TestNobodyRunsInANewLife: nobody is credited the tick that ends a life.
func TestNobodyRunsInANewLife(t *testing.T) {
	s := joined(t, 9)
	s.load(5)
	s.run(1, 5)
	s.pass(9)
	has(t, s.Hand, api.Rank{Job: 5, Run: true, Gen: 1, From: 1, To: 9})
	s.Tick(10)
	has(t, s.Hand)
	s = met(t, s.Hand)
	s.halt(1, 0, 0, 0)
}
