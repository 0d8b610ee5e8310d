package yard_test

import (
	"bytes"
	"slices"
	"testing"

	"quadrille/api"
	"quadrille/note"
	"quadrille/yard"
)

// with answers the plain Config, but for what change does.
func with(change func(*yard.Config)) yard.Config {
	c := plain()
	change(&c)
	return c
}

// TestNew: a new yard has a desk of the epoch 1, hands in their first lives, and nothing else.
func TestNew(t *testing.T) {
	for _, c := range []yard.Config{
		plain(),
		with(func(c *yard.Config) { c.Desk.Brain.Nodes = 1 }),
		with(func(c *yard.Config) { c.Desk.Brain.Nodes, c.Desk.Brain.Rows = api.MaxNodes, api.MaxRows }),
		with(func(c *yard.Config) { c.Desk.Size = 1 }),
		with(func(c *yard.Config) { c.Desk.Size, c.Desk.Images = 1000, 1000 }),
		with(func(c *yard.Config) { c.Desk.Images = 1 }),
		with(func(c *yard.Config) { c.Air = 1 }),
		with(func(c *yard.Config) { c.Air = api.MaxAir }),
		with(func(c *yard.Config) { c.Desk.Brain.Quantum, c.Desk.Brain.Grace = 1000, 1 }),
	} {
		y := made(t, c).y
		if n := y.Slab().Len(); n != 2+2*c.Desk.Size+c.Desk.Images {
			t.Errorf("%+v: %d sectors", c, n)
		}
		d := y.Desk()
		if y.Now() != 0 || !d.Up() || d.Epoch() != 1 || d.Table().Next() != 1 || y.Air().Len() != 0 || len(y.Replies()) != 0 || !y.Slab().On() {
			t.Errorf("%+v: now %d, epoch %d, %d fly", c, y.Now(), d.Epoch(), y.Air().Len())
		}
		nodes := c.Desk.Brain.Nodes
		for node := range nodes {
			if h := y.Hand(node); h.Life() != 1 || h.Epoch() != 0 || h.Now() != 0 || len(h.Ranks()) > 0 {
				t.Errorf("%+v: node %d: life %d epoch %d", c, node, h.Life(), h.Epoch())
			}
		}
		for _, node := range []int{-1, nodes, nodes + 1, 1 << 40} {
			if y.Hand(node) != nil {
				t.Errorf("%+v: there is a node %d", c, node)
			}
		}
	}
}

// TestNewIsRefused: there is no yard of wrong numbers.
func TestNewIsRefused(t *testing.T) {
	for what, c := range map[string]yard.Config{
		"none":           {},
		"no nodes":       with(func(c *yard.Config) { c.Desk.Brain.Nodes = 0 }),
		"many nodes":     with(func(c *yard.Config) { c.Desk.Brain.Nodes = api.MaxNodes + 1 }),
		"no rows":        with(func(c *yard.Config) { c.Desk.Brain.Rows = 0 }),
		"many rows":      with(func(c *yard.Config) { c.Desk.Brain.Rows = api.MaxRows + 1 }),
		"no Quantum":     with(func(c *yard.Config) { c.Desk.Brain.Quantum = 0 }),
		"a long Quantum": with(func(c *yard.Config) { c.Desk.Brain.Quantum = 1001 }),
		"no Grace":       with(func(c *yard.Config) { c.Desk.Brain.Grace = 0 }),
		"a long Grace":   with(func(c *yard.Config) { c.Desk.Brain.Grace = 1001 }),
		"no Size":        with(func(c *yard.Config) { c.Desk.Size = 0 }),
		"a Size below 0": with(func(c *yard.Config) { c.Desk.Size = -1 << 62 }),
		"a great Size":   with(func(c *yard.Config) { c.Desk.Size = 1001 }),
		"a vast Size":    with(func(c *yard.Config) { c.Desk.Size = 1 << 62 }),
		"no Images":      with(func(c *yard.Config) { c.Desk.Images = 0 }),
		"Images below 0": with(func(c *yard.Config) { c.Desk.Images = -5 }),
		"many Images":    with(func(c *yard.Config) { c.Desk.Images = 1001 }),
		"vast Images":    with(func(c *yard.Config) { c.Desk.Images = 1<<63 - 1 }),
		"no air":         with(func(c *yard.Config) { c.Air = 0 }),
		"air below 0":    with(func(c *yard.Config) { c.Air = -1 }),
		"much air":       with(func(c *yard.Config) { c.Air = api.MaxAir + 1 }),
	} {
		if y, e := yard.New(c); e != api.ErrArg || y != nil {
			t.Errorf("%s: error %d, and %v", what, e, y)
		}
	}
}

// TestNil: of no yard there is nothing.
func TestNil(t *testing.T) {
	var y *yard.Yard
	for kind := range 256 {
		if e := y.Do(yard.Step{Kind: byte(kind), N: kind - 5}); e != api.ErrNone {
			t.Errorf("kind %d: error %d", kind, e)
		}
	}
	if y.Now() != 0 || y.Desk() != nil || y.Hand(0) != nil || y.Air() != nil || y.Slab() != nil || len(y.Replies()) > 0 {
		t.Error("there is something")
	}
}

// TestExample: submitted, sixty ticks: done.
func TestExample(t *testing.T) {
	y := made(t, plain()).y
	ask(t, y, api.Request{Seq: 1, Kind: api.Submit, Tier: 1, K: 2, W: 5}, api.OK)
	does(t, y, yard.Step{Kind: yard.Calm, N: 60}, api.OK)
	ask(t, y, api.Request{Kind: api.Query, Job: 1}, api.OK)
	l := y.Replies()
	if len(l) != 2 || y.Now() != 60 {
		t.Fatalf("%d replies, tick %d", len(l), y.Now())
	}
	if r, e := note.ReadReply(l[0]); e != api.OK || r != (api.Reply{Seq: 1, Job: 1}) {
		t.Errorf("%+v, error %d", r, e)
	}
	if r, e := note.ReadReply(l[1]); e != api.OK || r != (api.Reply{Job: 1, State: api.Done, Credit: 5}) {
		t.Errorf("%+v, error %d", r, e)
	}
}

// does fails the test unless a step answers the error that is awaited.
func does(t *testing.T, y *yard.Yard, s yard.Step, want api.Errno) {
	t.Helper()
	if e := y.Do(s); e != want {
		t.Fatalf("tick %d: %+v: error %d, want %d", y.Now(), s, e, want)
	}
}

// ask asks for q.
func ask(t *testing.T, y *yard.Yard, q api.Request, want api.Errno) {
	t.Helper()
	does(t, y, yard.Step{Kind: yard.Ask, Data: bytesOf(t, q)}, want)
}

// TestMemory: what is handed in is neither changed nor kept, and what is answered is the caller's.
func TestMemory(t *testing.T) {
	y := made(t, plain()).y
	room := make([]byte, 0, 100)
	p := append(room, bytesOf(t, api.Request{Seq: 1, Kind: api.Submit, K: 4, W: 9})...)
	was := slices.Clone(p[:cap(p)])
	does(t, y, yard.Step{Kind: yard.Ask, Data: p}, api.OK)
	if !bytes.Equal(p[:cap(p)], was) {
		t.Error("Ask has changed what it was handed")
	}
	clear(p[:cap(p)])
	ask(t, y, api.Request{Seq: 2, Kind: api.Cancel, Job: 9}, api.OK)

	l := y.Replies()
	want := [][]byte{bytes.Clone(l[0]), bytes.Clone(l[1])}
	for _, r := range l {
		clear(r[:cap(r)])
	}
	l[0] = nil
	_ = append(l[:1], nil)
	if !slices.EqualFunc(y.Replies(), want, bytes.Equal) {
		t.Error("who clears the replies has cleared the yard's")
	}

	fates := []byte{1, 2, 3, 0, 9}[:3]
	does(t, y, yard.Step{Kind: yard.Crash, Data: fates, Cut: 7}, api.OK)
	if !bytes.Equal(fates[:5], []byte{1, 2, 3, 0, 9}) {
		t.Error("Crash has changed what it was handed")
	}
	if y.Desk().Table().Next() != 2 || !slices.EqualFunc(y.Replies(), want, bytes.Equal) {
		t.Error("behind a crash the replies, or the table, are others")
	}
}
