package desk_test

import (
	"testing"

	"quadrille/api"
	"quadrille/desk"
	"quadrille/hand"
	"quadrille/note"
	"quadrille/talk"
)

// node is one that says what a test has it say.
type node struct {
	t      *testing.T
	d      *desk.Desk
	number byte
	life   uint32
	end    *talk.Talk
}

// packed answers the bytes of a packet.
func packed(t *testing.T, k api.Packet) []byte {
	t.Helper()
	p, e := note.Packet(k)
	if e != api.OK {
		t.Fatalf("%+v: error %d", k, e)
	}
	return p
}

// noted answers the bytes of a note.
func noted(t *testing.T, n api.Note) []byte {
	t.Helper()
	p, e := note.Note(n)
	if e != api.OK {
		t.Fatalf("%+v: error %d", n, e)
	}
	return p
}

// hello answers the packet with which a life of a node makes itself known.
func hello(t *testing.T, number byte, epoch, life, tick uint32) api.Packet {
	t.Helper()
	p := noted(t, api.Note{Kind: api.Hello, Node: number, Epoch: epoch, Life: life, Tick: tick})
	return api.Packet{Node: number, Epoch: epoch, Life: life, Plain: true, Data: p}
}

// landed has a packet come at a desk.
func landed(t *testing.T, d *desk.Desk, k api.Packet) {
	t.Helper()
	if e := d.Land(packed(t, k)); e != api.OK {
		t.Fatalf("Land(%+v): error %d", k, e)
	}
}

// begun answers a node that has made itself known.
func begun(t *testing.T, d *desk.Desk, number byte, life uint32) *node {
	t.Helper()
	landed(t, d, hello(t, number, d.Epoch(), life, 0))
	return &node{t: t, d: d, number: number, life: life, end: talk.New(number, d.Epoch(), life)}
}

// hello has it say that it is there.
func (n *node) hello() {
	n.t.Helper()
	landed(n.t, n.d, hello(n.t, n.number, n.d.Epoch(), n.life, 0))
}

// say has it say a note.
func (n *node) say(x api.Note) {
	n.t.Helper()
	k, e := n.end.Say(noted(n.t, x))
	if e != api.OK {
		n.t.Fatalf("%+v: error %d", x, e)
	}
	landed(n.t, n.d, k)
}

// hear answers what it was told, of all that the desk sent.
func (n *node) hear(l []api.Out) []api.Note {
	n.t.Helper()
	var told []api.Note
	for _, o := range l {
		if o.To != int(n.number) {
			continue
		}
		k := unpacked(n.t, o)
		p, ok, answer, has := n.end.Hear(k)
		if has {
			landed(n.t, n.d, answer)
		}
		if ok {
			told = append(told, unnoted(n.t, p))
		}
	}
	return told
}

// obey answers what it was told, which it does as a hand would, but for what runs: that it has run from the one tick to the other.
func (n *node) obey(l []api.Out, from, to uint32) []api.Note {
	n.t.Helper()
	told := n.hear(l)
	for _, x := range told {
		switch x.Kind {
		case api.Load:
			n.say(api.Note{Kind: api.Loaded, Job: x.Job})
		case api.Save:
			n.say(api.Note{Kind: api.Saved, Job: x.Job, Ver: x.Ver, Blob: hand.Blob(x.Job, 0, x.Credit)})
		case api.Stop:
			n.say(api.Note{Kind: api.Stopped, Gen: x.Gen, Job: 1, From: from, To: to})
		case api.Drop:
			n.say(api.Note{Kind: api.Dropped, Job: x.Job})
		}
	}
	return told
}

// unpacked answers the packet that a desk sent.
func unpacked(t *testing.T, o api.Out) api.Packet {
	t.Helper()
	k, e := note.ReadPacket(o.Data)
	if e != api.OK || int(k.Node) != o.To {
		t.Fatalf("to %d: %x: error %d", o.To, o.Data, e)
	}
	return k
}

// unnoted answers the note of these bytes.
func unnoted(t *testing.T, p []byte) api.Note {
	t.Helper()
	n, e := note.ReadNote(p)
	if e != api.OK {
		t.Fatalf("%x: error %d", p, e)
	}
	return n
}

// kinds answers the kinds of notes.
func kinds(l []api.Note) []byte {
	var k []byte
	for _, n := range l {
		k = append(k, n.Kind)
	}
	return k
}
