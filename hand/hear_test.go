package hand_test

import (
	"testing"

	"quadrille/api"
	"quadrille/hand"
)

// TestPacketsOfOthers: nothing comes of a packet of another node, of no epoch or of an older one.
func TestPacketsOfOthers(t *testing.T) {
	h := made(t)
	k := beat(t, 1, 50)
	k.Epoch = 0
	packets(t, "no epoch", h.Hear(k))
	for node := range 256 {
		k := beat(t, 1, 50)
		if k.Node = byte(node); node != theNode {
			packets(t, "another node", h.Hear(k))
		}
	}
	stands(t, h, 1, 0, 0, 8)
	h.Hear(beat(t, 5, 20))
	s := met(t, h)
	s.load(4)
	for epoch := range uint32(5) {
		packets(t, "an older epoch", h.Hear(beat(t, epoch, 50)))
		k, _ := s.end.Say(bytesOf(t, api.Note{Kind: api.Load, Job: 6}))
		k.Epoch = epoch
		packets(t, "an older epoch", h.Hear(k))
	}
	stands(t, h, 2, 5, 0, 20)
	has(t, h, api.Rank{Job: 4})
}

// TestPlainPackets: of these a Beat of the epoch does something, and nothing else.
func TestPlainPackets(t *testing.T) {
	s := joined(t, 10)
	for kind := range byte(14) {
		n := api.Note{Kind: kind}
		p := []byte("no note")
		switch kind {
		case api.Beat:
			n.Epoch, n.Tick = 2, 99 // not the packet's
		case api.Hello:
			n.Node, n.Epoch, n.Life, n.Tick = theNode, 1, 2, 99
		case api.Load, api.Drop:
			n.Job = 5
		}
		if kind > 0 && kind < 13 {
			p = bytesOf(t, n)
		}
		packets(t, "a plain one", s.Hear(api.Packet{Node: theNode, Epoch: 1, Life: 2, Plain: true, Data: p}))
		packets(t, "a plain one with a number", s.Hear(api.Packet{Node: theNode, Epoch: 1, Life: 2, Seq: 1, Plain: true, Data: p}))
		stands(t, s.Hand, 2, 1, 0, 10)
		has(t, s.Hand)
	}
	older := beat(t, 1, 99)
	older.Data = bytesOf(t, api.Note{Kind: api.Beat, Tick: 99})
	packets(t, "a Beat of no epoch", s.Hear(older))
	stands(t, s.Hand, 2, 1, 0, 10)
}

// TestBeatOfAnyLife: who sends a Beat need not know of the life.
func TestBeatOfAnyLife(t *testing.T) {
	s := joined(t, 10)
	for i, life := range []uint32{0, 1, 2, 3, 99} {
		k := beat(t, 1, uint32(20+i))
		k.Life = life
		packets(t, "Beat", s.Hear(k))
		stands(t, s.Hand, 2, 1, 0, uint32(20+i))
	}
}

// TestBeatOfANewEpoch: the life begins ahead of the lease that it is told.
func TestBeatOfANewEpoch(t *testing.T) {
	s := joined(t, 90)
	s.Tick(30)
	packets(t, "Beat", s.Hear(beat(t, 2, 50)))
	stands(t, s.Hand, 3, 2, 30, 50)
	k := beat(t, 4, 60)
	k.Data = bytesOf(t, api.Note{Kind: api.Beat, Epoch: 3, Tick: 60}) // a new epoch, but no lease in it
	packets(t, "Beat of another epoch than its packet", s.Hear(k))
	stands(t, s.Hand, 4, 4, 30, 38)
	s = met(t, s.Hand)
	s.load(5)
	s.run(1, 5)
	has(t, s.Hand, api.Rank{Job: 5})
}

// TestTalkOfANewEpoch: a packet of a talk, too, may be what tells of a new epoch; if its life is the one that begins then it is heard.
func TestTalkOfANewEpoch(t *testing.T) {
	for life, heard := range []bool{false, false, false, true, false} {
		s := joined(t, 90)
		k := api.Packet{Node: theNode, Epoch: 2, Life: uint32(life), Seq: 1, Data: bytesOf(t, api.Note{Kind: api.Load, Job: 5})}
		l := s.Hear(k)
		stands(t, s.Hand, 3, 2, 0, 8)
		if !heard {
			packets(t, "of another life", l)
			has(t, s.Hand)
			continue
		}
		packets(t, "of the life that begins", l,
			api.Packet{Node: theNode, Epoch: 2, Life: 3, Ack: 1},
			api.Packet{Node: theNode, Epoch: 2, Life: 3, Seq: 1, Ack: 1, Data: bytesOf(t, api.Note{Kind: api.Loaded, Job: 5})})
		has(t, s.Hand, api.Rank{Job: 5})
	}
}

// TestPacketsOfTheTalk: in order, each once; of another life nothing comes.
func TestPacketsOfTheTalk(t *testing.T) {
	s := joined(t, 20)
	one, _ := s.end.Say(bytesOf(t, api.Note{Kind: api.Load, Job: 4}))
	two, _ := s.end.Say(bytesOf(t, api.Note{Kind: api.Load, Job: 9}))
	answer := api.Packet{Node: theNode, Epoch: 1, Life: 2}
	packets(t, "ahead of its turn", s.Hear(two), answer)
	for _, life := range []uint32{0, 1, 3} {
		k := one
		k.Life = life
		packets(t, "of another life", s.Hear(k))
	}
	k := one
	k.Ack = 1 // of what it didn't say
	packets(t, "of what wasn't said", s.Hear(k))
	has(t, s.Hand)
	answer.Ack = 1
	loaded := api.Packet{Node: theNode, Epoch: 1, Life: 2, Seq: 1, Ack: 1, Data: bytesOf(t, api.Note{Kind: api.Loaded, Job: 4})}
	packets(t, "one", s.Hear(one), answer, loaded)
	packets(t, "one again", s.Hear(one), answer)
	has(t, s.Hand, api.Rank{Job: 4})
	answer.Ack = 2
	loaded = api.Packet{Node: theNode, Epoch: 1, Life: 2, Seq: 2, Ack: 2, Data: bytesOf(t, api.Note{Kind: api.Loaded, Job: 9})}
	packets(t, "two", s.Hear(two), answer, loaded)
	has(t, s.Hand, api.Rank{Job: 4}, api.Rank{Job: 9})
	packets(t, "an answer", s.Hear(api.Packet{Node: theNode, Epoch: 1, Life: 2, Ack: 2}))
}

// TestWhatIsNoNote is answered, but does nothing.
func TestWhatIsNoNote(t *testing.T) {
	s := joined(t, 20)
	s.load(5)
	turned := bytesOf(t, api.Note{Kind: api.Drop, Job: 5})
	turned[3] ^= 1
	for _, p := range [][]byte{nil, {}, []byte("no note"), turned, make([]byte, 1000)} {
		if l := s.send(p); len(l) != 1 {
			t.Fatalf("%v is answered %+v", p, l)
		}
		has(t, s.Hand, api.Rank{Job: 5})
	}
	s.load(6)
}

// TestOtherNotes do nothing.
func TestOtherNotes(t *testing.T) {
	s := joined(t, 20)
	s.load(5)
	for _, n := range []api.Note{
		{Kind: api.Beat, Epoch: 1, Tick: 99},
		{Kind: api.Beat, Epoch: 8, Tick: 99},
		{Kind: api.Hello, Node: theNode, Epoch: 9, Life: 9, Tick: 9},
		{Kind: api.Loaded, Job: 8},
		{Kind: api.Stopped, Gen: 9, Job: 5, From: 1, To: 2},
		{Kind: api.Saved, Job: 5, Ver: 3, Rank: 4, Blob: []byte("a")},
		{Kind: api.Dropped, Job: 5},
	} {
		s.tell(n)
		stands(t, s.Hand, 2, 1, 0, 20)
		has(t, s.Hand, api.Rank{Job: 5})
	}
	s.run(1, 5) // none of these told of a generation
	has(t, s.Hand, api.Rank{Job: 5, Run: true, Gen: 1})
}

// TestWhatTheTalkRefuses isn't said, but is done.
func TestWhatTheTalkRefuses(t *testing.T) {
	s := joined(t, 20)
	for job := range uint32(api.MaxQueue) {
		if l := s.send(bytesOf(t, api.Note{Kind: api.Load, Job: job + 1})); len(l) != 2 {
			t.Fatalf("Load %d: %+v", job+1, l)
		}
		// What the hand said isn't answered, but the other end may go on saying.
		s.end.Hear(api.Packet{Node: theNode, Epoch: 1, Life: 2, Ack: job + 1})
	}
	last := uint32(api.MaxQueue) + 1
	if l := s.send(bytesOf(t, api.Note{Kind: api.Load, Job: last})); len(l) != 1 {
		t.Fatalf("%+v is said, though there is no room", l[1:])
	}
	if l := s.Ranks(); len(l) != api.MaxQueue+1 || l[api.MaxQueue].Job != last {
		t.Fatalf("%d ranks", len(l))
	}
	s.Tick(1)
	if l := s.Tick(2); len(l) != api.MaxQueue+1 {
		t.Fatalf("%d packets, want the Hello and %d", len(l), api.MaxQueue)
	}
}

// TestNothingIsShared: a caller may write over what it handed in, and over what it was answered.
func TestNothingIsShared(t *testing.T) {
	s := joined(t, 20)
	k, _ := s.end.Say(bytesOf(t, api.Note{Kind: api.Load, Job: 5}))
	before := append([]byte{}, k.Data...)
	l := s.Hear(k)
	if string(k.Data) != string(before) {
		t.Fatal("what was handed in is changed")
	}
	scribble(k.Data)
	want := append([]byte{}, l[1].Data...)
	scribble(l[1].Data)
	s.Tick(1)
	again := s.Tick(2)
	if len(again) != 2 || string(again[1].Data) != string(want) {
		t.Fatalf("said again: %+v", again)
	}
	scribble(again[0].Data)
	scribble(again[1].Data)
	s.Tick(3)
	if l := s.Tick(4); len(l) != 2 || string(l[1].Data) != string(want) || !samePacket(l[0], hello(t, s.Hand)) {
		t.Fatalf("said again: %+v", l)
	}
	ranks := s.Ranks()
	ranks = ranks[:cap(ranks)]
	for i := range ranks {
		ranks[i] = api.Rank{Job: 99, Run: true}
	}
	has(t, s.Hand, api.Rank{Job: 5})
	blob := hand.Blob(1, 2, 3)
	scribble(blob)
	if string(hand.Blob(1, 2, 3)) != "\x01\x02\x03" {
		t.Fatal("blobs share memory")
	}
}

// scribble writes over all of p, its spare room too.
func scribble(p []byte) {
	p = p[:cap(p)]
	for i := range p {
		p[i] ^= 0xff
	}
}

func TestNil(t *testing.T) {
	var h *hand.Hand
	packets(t, "Tick", h.Tick(5))
	packets(t, "Hear", h.Hear(beat(t, 1, 5)))
	h.Restart()
	stands(t, h, 0, 0, 0, 0)
	has(t, h)
}
