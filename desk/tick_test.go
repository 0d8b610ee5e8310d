package desk_test

import (
	"bytes"
	"slices"
	"testing"

	"quadrille/api"
	"quadrille/desk"
	"quadrille/lease"
)

func TestTickErrors(t *testing.T) {
	c := plain(1)
	d := opened(t, formatted(t, c), c, 20)
	for _, now := range []uint32{0, 1, 19, 20} {
		if e := d.Tick(now); e != api.ErrStale {
			t.Errorf("Tick(%d): error %d", now, e)
		}
	}
	if len(d.Out()) > 0 {
		t.Error("something is sent")
	}
	for _, now := range []uint32{21, 22, 40} {
		if e := d.Tick(now); e != api.OK {
			t.Errorf("Tick(%d): error %d", now, e)
		}
		if e := d.Tick(now); e != api.ErrStale {
			t.Errorf("Tick(%d) again: error %d", now, e)
		}
	}
}

func TestTickDown(t *testing.T) {
	w := made(t, plain(1))
	w.d.Tick(5)
	w.d.Out()
	w.s.Arm(1)
	w.s.Flush()
	for range 2 {
		if e := w.d.Tick(6); e != api.ErrDown {
			t.Error("error", e)
		}
		if e := w.d.Tick(5); e != api.ErrStale { // the lesser number
			t.Error("error", e)
		}
		if w.d.Up() || len(w.d.Out()) > 0 {
			t.Error("it is up")
		}
		w.s.Crash(nil, 0)
	}
}

// beats fails the test unless these are Beats of an epoch, each to the node, and with the tick, that is told.
func beats(t *testing.T, l []api.Out, epoch uint32, want [][2]uint32) {
	t.Helper()
	if len(l) != len(want) {
		t.Fatalf("%d packets, want %d", len(l), len(want))
	}
	for i, o := range l {
		k := unpacked(t, o)
		beat := noted(t, api.Note{Kind: api.Beat, Epoch: epoch, Tick: want[i][1]})
		if o.To != int(want[i][0]) || !k.Plain || k.Epoch != epoch || k.Life != 0 || k.Seq != 0 || k.Ack != 0 || !bytes.Equal(k.Data, beat) {
			t.Errorf("packet %d: to %d, %+v, want %v", i, o.To, k, want[i])
		}
	}
}

// TestBeats: who is Up is granted a lease; who is in doubt, or Away, is told the epoch alone.
func TestBeats(t *testing.T) {
	c := plain(3)
	s := formatted(t, c)
	opened(t, s, c, 0)
	d := opened(t, s, c, 4) // the epoch is 2
	tick := func(now uint32, want ...[2]uint32) {
		t.Helper()
		if e := d.Tick(now); e != api.OK {
			t.Fatalf("Tick(%d): error %d", now, e)
		}
		beats(t, d.Out(), 2, want)
	}
	tick(5, [2]uint32{0, 0}, [2]uint32{1, 0}, [2]uint32{2, 0})
	begun(t, d, 1, 1)
	tick(6, [2]uint32{1, 14}, [2]uint32{0, 0}, [2]uint32{2, 0})
	begun(t, d, 2, 7)
	begun(t, d, 0, 2)
	tick(8, [2]uint32{0, 16}, [2]uint32{1, 16}, [2]uint32{2, 16})
	landed(t, d, hello(t, 2, 2, 7, 0))
	tick(9, [2]uint32{0, 17}, [2]uint32{2, 17}, [2]uint32{1, 0}) // 1 was heard at 5
	tick(10, [2]uint32{2, 18}, [2]uint32{0, 0}, [2]uint32{1, 0}) // 0 at 6
	landed(t, d, hello(t, 1, 2, 1, 0))                           // it stays in doubt
	tick(16, [2]uint32{0, 0}, [2]uint32{1, 0}, [2]uint32{2, 0})
	for node, want := range []byte{lease.Doubt, lease.Doubt, lease.Doubt} {
		if state := d.Book().State(node); state != want {
			t.Errorf("node %d: state %d", node, state)
		}
	}
	tick(17, [2]uint32{0, 0}, [2]uint32{1, 0}, [2]uint32{2, 0})
	for node, up := range []bool{true, false, true} { // 0 was granted 17
		if d.Brain().Matrix().IsUp(node) != up || (d.Book().State(node) != lease.Away) != up {
			t.Errorf("node %d: up is %t", node, !up)
		}
	}
	begun(t, d, 1, 1)
	tick(18, [2]uint32{0, 0}, [2]uint32{1, 0}, [2]uint32{2, 0}) // it isn't another life
	begun(t, d, 1, 2)
	tick(19, [2]uint32{1, 27}, [2]uint32{0, 0}, [2]uint32{2, 0})
}

// told answers what is sent that isn't plain, as nodes, numbers and kinds.
func told(t *testing.T, l []api.Out) [][3]int {
	t.Helper()
	var all [][3]int
	for _, o := range l {
		if k := unpacked(t, o); !k.Plain {
			all = append(all, [3]int{o.To, int(k.Seq), int(unnoted(t, k.Data).Kind)})
		}
	}
	return all
}

// TestTickAgain: what isn't answered is said again, behind the Beats and ahead of what is new.
func TestTickAgain(t *testing.T) {
	w, nodes := loading(t)
	first := w.d.Out()
	load := [][3]int{{0, 1, api.Load}, {1, 1, api.Load}}
	if l := told(t, first); !slices.Equal(l, load) {
		t.Fatalf("told %v", l)
	}
	tick := func() []api.Out {
		w.now++
		w.d.Tick(w.now)
		for _, n := range nodes {
			n.hello()
		}
		return w.d.Out()
	}
	if l := told(t, tick()); len(l) > 0 {
		t.Errorf("told %v too soon", l)
	}
	if l := told(t, tick()); !slices.Equal(l, load) {
		t.Errorf("told %v, want it again", l)
	}
	nodes[1].hear(first)
	nodes[1].say(api.Note{Kind: api.Loaded, Job: 1})
	w.d.Out()
	tick()
	w.submit(0, 1, 4)
	l := tick()
	if got, want := told(t, l), [][3]int{{0, 1, api.Load}, {0, 2, api.Load}}; !slices.Equal(got, want) {
		t.Errorf("told %v, want %v", got, want)
	}
	if k := unpacked(t, l[0]); !k.Plain {
		t.Error("the Beats aren't ahead")
	}
}

// TestTickAway: once a node is Away its talk has ended, its jobs go, and what is left is told to the others.
func TestTickAway(t *testing.T) {
	w, nodes := loading(t)
	l := w.d.Out()
	for _, n := range nodes {
		n.hear(l)
		n.say(api.Note{Kind: api.Loaded, Job: 1})
	}
	w.d.Out()
	if w.job(1).State != api.Placed {
		t.Fatalf("%+v", w.job(1))
	}
	until := uint32(0)
	var out []api.Out
	for w.d.Book().State(0) != lease.Away {
		until = w.d.Book().Until(0)
		w.now++
		w.d.Tick(w.now)
		nodes[1].hello()
		out = w.d.Out()
		nodes[1].obey(out, 0, 0)
		if w.now > 60 {
			t.Fatal("it stays")
		}
	}
	if w.now != until+1 || w.d.Brain().Matrix().IsUp(0) {
		t.Errorf("Away at %d, until %d", w.now, until)
	}
	if w.job(1).State == api.Placed || w.job(1).Credit != 0 {
		t.Errorf("%+v", w.job(1))
	}
	for range 9 { // nothing is said to it any more
		w.now++
		w.d.Tick(w.now)
		nodes[1].hello()
		for _, o := range w.d.Out() {
			if k := unpacked(t, o); o.To == 0 && !k.Plain {
				t.Fatalf("told %+v", k)
			}
		}
	}
}

// TestOut: each packet is told once, in memory of its own.
func TestOut(t *testing.T) {
	c := plain(2)
	d := opened(t, formatted(t, c), c, 0)
	d.Tick(1)
	d.Tick(2)
	l := d.Out()
	beats(t, l, 1, [][2]uint32{{0, 0}, {1, 0}, {0, 0}, {1, 0}})
	for _, o := range l {
		clear(o.Data[:cap(o.Data)])
	}
	clear(l[:cap(l)])
	if len(d.Out()) > 0 {
		t.Error("told twice")
	}
	d.Tick(3)
	beats(t, d.Out(), 1, [][2]uint32{{0, 0}, {1, 0}})
}

// TestTableIsApart: what is done to the Table that is told isn't done to the desk's.
func TestTableIsApart(t *testing.T) {
	w := made(t, plain(2))
	w.submit(0, 1, 5)
	l := w.d.Table()
	l.Finish(1)
	l.Do(api.Request{Client: 1, Seq: 1, Kind: api.Submit, K: 1, W: 1})
	if j := w.job(1); j.State != api.Queued || w.d.Table().Next() != 2 {
		t.Errorf("%+v", j)
	}
}

func TestNil(t *testing.T) {
	var d *desk.Desk
	if b, e := d.Ask(nil); e != api.ErrNone || b != nil {
		t.Error("Ask: error", e)
	}
	if e := d.Land([]byte{1}); e != api.ErrNone {
		t.Error("Land: error", e)
	}
	if e := d.Tick(0); e != api.ErrNone {
		t.Error("Tick: error", e)
	}
	if d.Out() != nil || d.Up() || d.Epoch() != 0 || d.Table() != nil || d.Brain() != nil || d.Book() != nil {
		t.Error("there is something")
	}
}
