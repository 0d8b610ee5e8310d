package brain_test

import (
	"testing"

	"quadrille/api"
	"quadrille/brain"
	"quadrille/hand"
	"quadrille/note"
	"quadrille/talk"
)

// line is a hand and the controller's end of its talk.
type line struct {
	*hand.Hand
	end *talk.Talk
}

// dial answers the hand of a node, in the epoch 1 and with a lease for long, and the talk with it.
func dial(t *testing.T, node byte) line {
	t.Helper()
	h, e := hand.New(node)
	p, f := note.Note(api.Note{Kind: api.Beat, Epoch: 1, Tick: 1 << 30})
	if e != api.OK || f != api.OK {
		t.Fatalf("errors %d, %d", e, f)
	}
	h.Hear(api.Packet{Node: node, Epoch: 1, Plain: true, Data: p})
	return line{h, talk.New(node, 1, h.Life())}
}

// say has the hand hear a note, and answers what it says.
func (l line) say(t *testing.T, n api.Note) []api.Note {
	t.Helper()
	p, e := note.Note(n)
	k, f := l.end.Say(p)
	if e != api.OK || f != api.OK {
		t.Fatalf("%+v: errors %d, %d", n, e, f)
	}
	var said []api.Note
	for _, k := range l.Hear(k) {
		p, told, answer, has := l.end.Hear(k)
		if has {
			l.Hear(answer)
		}
		if n, e := note.ReadNote(p); told && e == api.OK {
			said = append(said, n)
		}
	}
	return said
}

// TestHands: with hands as layer 17 has them all jobs come to their end, and none is credited what its ranks didn't run.
func TestHands(t *testing.T) {
	b, _ := brain.New(brain.Config{Nodes: 3, Rows: 2, Quantum: 4, Grace: 3}, 2)
	var hands []line
	for node := range byte(3) {
		hands = append(hands, dial(t, node))
		b.Up(int(node))
	}
	jobs := []api.Job{{ID: 1, K: 2, W: 11}, {ID: 2, Tier: 1, K: 3, W: 7}, {ID: 3, K: 1, W: 30}, {ID: 4, Tier: 3, K: 3, W: 5}}
	ran := map[uint32]int{} // the ticks of all ranks
	done := map[uint32]bool{}
	for now := uint32(1); len(done) < len(jobs); now++ {
		if now > 300 {
			t.Fatalf("done %v", done)
		}
		if i := int(now-1) / 5; now%5 == 1 && i < len(jobs) {
			b.Add(jobs[i], 0)
		}
		for _, l := range hands {
			l.Hand.Tick(now)
			for _, r := range l.Ranks() {
				if r.Run {
					ran[r.Job]++
				}
			}
		}
		b.Tick(now)
		for l := b.Take(); len(l) > 0; l = b.Take() {
			for _, o := range l {
				for _, n := range hands[o.To].say(t, o.Note) {
					b.Hear(o.To, n)
				}
			}
			publish(t, b)
		}
		for _, id := range b.Done() {
			done[id] = true
		}
	}
	for _, j := range jobs {
		if ran[j.ID] < j.W*j.K {
			t.Errorf("%d ran %d ticks at %d nodes together, and is Done with %d at each", j.ID, ran[j.ID], j.K, j.W)
		}
	}
	for node, l := range hands {
		if len(l.Ranks()) > 0 {
			t.Errorf("node %d has ranks yet: %+v", node, l.Ranks())
		}
	}
}

// publish publishes the images that are told, whose blobs are to be those of hands.
func publish(t *testing.T, b *brain.Brain) {
	t.Helper()
	for _, x := range b.Images() {
		for i, p := range x.Blobs {
			if want := hand.Blob(x.Job, byte(i), x.Credit); string(p) != string(want) {
				t.Fatalf("%+v: blob %d is %x, want %x", x, i, p, want)
			}
		}
		if e := b.Published(x.Job, x.Ver, true); e != api.OK {
			t.Fatalf("%+v: error %d", x, e)
		}
	}
}
