package desk_test

import (
	"bytes"
	"slices"
	"testing"

	"quadrille/api"
	"quadrille/lease"
	"quadrille/note"
)

// TestLandErrors: what is no packet, or of no node, is told ahead of the power's being off.
func TestLandErrors(t *testing.T) {
	w := made(t, plain(2))
	right := packed(t, hello(t, 1, 1, 1, 0))
	turned := bytes.Clone(right)
	turned[5] ^= 1
	request, _ := note.Request(api.Request{Seq: 1, Kind: api.Submit, K: 1, W: 1})
	try := func(when string, p []byte, want api.Errno) {
		t.Helper()
		was := bytes.Clone(p)
		if e := w.d.Land(p); e != want {
			t.Errorf("%s: Land(%x): error %d, want %d", when, p, e, want)
		}
		if !bytes.Equal(p, was) {
			t.Errorf("%s: the bytes have changed", when)
		}
	}
	for _, when := range []string{"up", "down"} {
		try(when, nil, api.ErrShort)
		try(when, right[:9], api.ErrShort)
		try(when, []byte{0xff, 0xff}, api.ErrLong)
		try(when, turned, api.ErrSum)
		try(when, append(right[:len(right):len(right)], 0), api.ErrForm)
		try(when, request, api.ErrForm)
		try(when, noted(t, api.Note{Kind: api.Hello, Epoch: 1, Life: 1}), api.ErrForm)
		for _, node := range []byte{2, 3, api.MaxNodes - 1} {
			try(when, packed(t, hello(t, node, 1, 1, 0)), api.ErrArg)
			try(when, packed(t, api.Packet{Node: node, Epoch: 9}), api.ErrArg)
		}
		w.s.Arm(1)
		w.s.Flush()
	}
	try("down", right, api.ErrDown)
	try("down", packed(t, api.Packet{}), api.ErrDown)
	w.s.Crash(nil, 0)
	try("down before", right, api.ErrDown)
	if w.d.Book().State(1) != lease.Away || len(w.d.Out()) > 0 {
		t.Error("it was heard")
	}
}

// TestHello: a Hello that isn't of the packet's node and life, or not of this epoch, or not plain, does nothing.
func TestHello(t *testing.T) {
	w := made(t, plain(3))
	w.reopen()
	w.reopen() // the epoch is 3
	right := hello(t, 1, 3, 5, 0)
	change := func(f func(k *api.Packet)) api.Packet {
		k := right
		f(&k)
		return k
	}
	says := func(n api.Note) api.Packet {
		return change(func(k *api.Packet) { k.Data = noted(t, n) })
	}
	for name, k := range map[string]api.Packet{
		"another node's packet": change(func(k *api.Packet) { k.Node = 0 }),
		"another life's packet": change(func(k *api.Packet) { k.Life = 6 }),
		"another epoch's":       change(func(k *api.Packet) { k.Epoch = 2 }),
		"not plain":             change(func(k *api.Packet) { k.Plain = false }),
		"not plain, said":       change(func(k *api.Packet) { k.Plain, k.Seq = false, 1 }),
		"no note":               change(func(k *api.Packet) { k.Data = []byte("hello") }),
		"nothing":               change(func(k *api.Packet) { k.Data = nil }),
		"another node's note":   says(api.Note{Kind: api.Hello, Node: 2, Epoch: 3, Life: 5}),
		"another life's note":   says(api.Note{Kind: api.Hello, Node: 1, Epoch: 3, Life: 4}),
		"another epoch's note":  says(api.Note{Kind: api.Hello, Node: 1, Epoch: 4, Life: 5}),
		"an older epoch":        hello(t, 1, 2, 5, 0),
		"a later epoch":         hello(t, 1, 4, 5, 0),
		"the epoch 0":           hello(t, 1, 0, 5, 0),
		"the life 0":            hello(t, 1, 3, 0, 0),
		"a Beat":                says(api.Note{Kind: api.Beat, Epoch: 3, Tick: 5}),
		"a Loaded":              says(api.Note{Kind: api.Loaded, Job: 1}),
	} {
		landed(t, w.d, k)
		for node := range 3 {
			if w.d.Book().Life(node) != 0 || w.d.Book().State(node) != lease.Away || w.d.Brain().Matrix().IsUp(node) {
				t.Errorf("%s: node %d is up", name, node)
			}
		}
	}
	if len(w.d.Out()) > 0 {
		t.Error("something is sent")
	}
	w.d.Tick(7)
	w.d.Out()
	landed(t, w.d, right)
	if b := w.d.Book(); b.State(1) != lease.Up || b.Life(1) != 5 || b.Until(1) != 7+api.Lease || !w.d.Brain().Matrix().IsUp(1) {
		t.Errorf("state %d, life %d, until %d", b.State(1), b.Life(1), b.Until(1))
	}
	if len(w.d.Out()) > 0 {
		t.Error("something is sent")
	}
}

// TestHelloAtTheOpening: ahead of the first Tick the last tick is that of the opening.
func TestHelloAtTheOpening(t *testing.T) {
	c := plain(1)
	d := opened(t, formatted(t, c), c, 50)
	begun(t, d, 0, 3)
	if until := d.Book().Until(0); until != 50+api.Lease {
		t.Errorf("until %d", until)
	}
}

// loading answers a world of forged nodes, at a tick at which a job of both was told to be loaded, and that.
func loading(t *testing.T) (w *world, nodes []*node) {
	t.Helper()
	w = made(t, plain(2))
	w.submit(0, 2, 9)
	nodes = []*node{begun(t, w.d, 0, 4), begun(t, w.d, 1, 4)}
	for len(w.d.Brain().Matrix().Jobs()) == 0 {
		w.now++
		w.d.Tick(w.now)
		for _, n := range nodes {
			n.hello()
		}
		if w.now > 30 {
			t.Fatal("nothing is loaded")
		}
	}
	return w, nodes
}

// TestTalk: what a node says the brain hears in its order, each thing once; each thing is answered.
func TestTalk(t *testing.T) {
	w, nodes := loading(t)
	l := w.d.Out()
	for _, n := range nodes {
		if told := n.hear(l); len(told) != 1 || !same(told[0], api.Note{Kind: api.Load, Job: 1, Rank: n.number}) {
			t.Fatalf("node %d is told %+v", n.number, told)
		}
	}
	n := nodes[0]
	none, _ := n.end.Say([]byte("no note"))
	loaded, _ := n.end.Say(noted(t, api.Note{Kind: api.Loaded, Job: 1}))
	nodes[1].say(api.Note{Kind: api.Loaded, Job: 1})
	w.d.Out()
	answers := func(k api.Packet, ack uint32) {
		t.Helper()
		landed(t, w.d, k)
		l := w.d.Out()
		if len(l) != 1 {
			t.Fatalf("%d packets", len(l))
		}
		if a := unpacked(t, l[0]); a.Node != 0 || a.Epoch != 1 || a.Life != 4 || a.Seq != 0 || a.Plain || a.Ack != ack || len(a.Data) > 0 {
			t.Errorf("answered %+v, want the Ack %d", a, ack)
		}
	}
	state := func(want byte) {
		t.Helper()
		if j := w.job(1); j.State != want {
			t.Errorf("state %d, want %d", j.State, want)
		}
	}
	state(api.Loading)
	answers(loaded, 0) // ahead of its turn
	state(api.Loading)
	answers(none, 1)
	state(api.Loading)
	answers(none, 1)
	answers(loaded, 2)
	state(api.Placed)
	answers(loaded, 2)
	state(api.Placed)
	for name, k := range map[string]api.Packet{
		"nothing":      {Epoch: 1, Life: 4, Ack: 1},
		"an old life":  {Epoch: 1, Life: 3, Seq: 3},
		"a new life":   {Epoch: 1, Life: 5, Seq: 3},
		"an old epoch": {Life: 4, Seq: 3},
		"a far Ack":    {Epoch: 1, Life: 4, Seq: 3, Ack: 9},
	} {
		landed(t, w.d, k)
		if l := w.d.Out(); len(l) > 0 {
			t.Errorf("%s: %d packets", name, len(l))
		}
	}
}

// TestFreshLife: a node that is another one now was lost: what was said to it is said no more, and its job goes from the others.
func TestFreshLife(t *testing.T) {
	w, nodes := loading(t)
	l := w.d.Out()
	if told := nodes[1].hear(l); len(told) != 1 || told[0].Kind != api.Load {
		t.Fatalf("told %+v", told)
	}
	nodes[1].hello() // the same life
	landed(t, w.d, hello(t, 0, 1, 3, 0))
	if l := w.d.Out(); len(l) > 0 || w.job(1).State != api.Loading {
		t.Fatalf("%d packets, %+v", len(l), w.job(1))
	}
	fresh := begun(t, w.d, 0, 5)
	if w.d.Book().Life(0) != 5 || w.d.Book().State(0) != lease.Up || !w.d.Brain().Matrix().IsUp(0) || w.job(1).State != api.Leaving {
		t.Errorf("life %d, %+v", w.d.Book().Life(0), w.job(1))
	}
	if told := nodes[1].hear(w.d.Out()); !slices.Equal(kinds(told), []byte{api.Drop}) {
		t.Errorf("told %+v", told)
	}
	nodes[1].say(api.Note{Kind: api.Dropped, Job: 1})
	if w.job(1).State != api.Queued {
		t.Errorf("%+v", w.job(1))
	}
	w.d.Out()
	nodes[0].say(api.Note{Kind: api.Loaded, Job: 1}) // of the old life
	if l := w.d.Out(); len(l) > 0 {
		t.Errorf("%d packets", len(l))
	}
	w.now++
	w.d.Tick(w.now)
	if told := fresh.hear(w.d.Out()); !slices.Equal(kinds(told), []byte{api.Load}) {
		t.Errorf("told %+v", told)
	}
}

// TestLandAway: of a node that was never heard no talk is begun by what isn't plain.
func TestLandAway(t *testing.T) {
	w := made(t, plain(2))
	for _, k := range []api.Packet{
		{Node: 1, Epoch: 1, Life: 1, Seq: 1, Data: noted(t, api.Note{Kind: api.Loaded, Job: 1})},
		{Node: 1, Epoch: 1},
		{Node: 1},
	} {
		landed(t, w.d, k)
	}
	if w.d.Book().State(1) != lease.Away || len(w.d.Out()) > 0 {
		t.Error("it was heard")
	}
}
