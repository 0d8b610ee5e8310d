package yard_test

import (
	"bytes"
	"slices"
	"testing"

	"quadrille/api"
	"quadrille/desk"
	"quadrille/lease"
	"quadrille/note"
	"quadrille/yard"
)

// flight is a datagram as it is read.
type flight struct {
	to   int
	k    api.Packet
	note api.Note
}

// flying has all that flies be taken out of the air, and answers it, in order.
func flying(t *testing.T, y *yard.Yard) []flight {
	t.Helper()
	var l []flight
	for {
		id, ok := y.Air().Oldest()
		if !ok {
			return l
		}
		o, _ := y.Air().Land(id)
		k, e := note.ReadPacket(o.Data)
		if e != api.OK {
			t.Fatalf("%x: error %d", o.Data, e)
		}
		n, _ := note.ReadNote(k.Data)
		l = append(l, flight{o.To, k, n})
	}
}

// brief answers to whom what kinds of notes fly, and of which nodes.
func brief(l []flight) [][3]int {
	var b [][3]int
	for _, f := range l {
		b = append(b, [3]int{f.to, int(f.note.Kind), int(f.k.Node)})
	}
	return b
}

// ticked answers a yard at the tick n, in which all has come but what the last tick had fly.
func ticked(t *testing.T, c yard.Config, n int) *yard.Yard {
	t.Helper()
	y := made(t, c).y
	does(t, y, yard.Step{Kind: yard.Calm, N: n - 1}, api.OK)
	does(t, y, yard.Step{Kind: yard.Tick}, api.OK)
	return y
}

// TestTick: the hands' Hellos fly, by nodes, and then what the desk sends.
func TestTick(t *testing.T) {
	y := ticked(t, plain(), 1)
	want := [][3]int{
		{-1, api.Hello, 0}, {-1, api.Hello, 1}, {-1, api.Hello, 2}, {-1, api.Hello, 3},
		{0, api.Beat, 0}, {1, api.Beat, 1}, {2, api.Beat, 2}, {3, api.Beat, 3},
	}
	l := flying(t, y)
	if !slices.Equal(brief(l), want) || y.Now() != 1 || y.Hand(3).Now() != 1 {
		t.Fatalf("tick %d: %v", y.Now(), brief(l))
	}
	if n := l[0].note; n.Tick != 1 || n.Epoch != 0 || n.Life != 1 {
		t.Errorf("the first Hello is %+v", n)
	}
	if n := l[4].note; n.Tick != 0 || n.Epoch != 1 {
		t.Errorf("the first Beat is %+v", n)
	}
	does(t, y, yard.Step{Kind: yard.Tick}, api.OK)
	if y.Now() != 2 || len(flying(t, y)) != 8 {
		t.Error("another tick isn't the same")
	}
}

// TestTickIsTheHandsFirst: a rank runs up to the tick at which the desk has it stop, and hears of that behind the tick.
func TestTickIsTheHandsFirst(t *testing.T) {
	y := made(t, plain()).y
	ask(t, y, api.Request{Seq: 1, Kind: api.Submit, K: 1, W: 50}, api.OK)
	for y.Desk().Brain().Gen() == 0 {
		does(t, y, yard.Step{Kind: yard.Calm, N: 1}, api.OK)
	}
	begun := y.Now()
	does(t, y, yard.Step{Kind: yard.Calm, N: 4}, api.OK)
	does(t, y, yard.Step{Kind: yard.Tick}, api.OK)
	if r := y.Hand(0).Ranks()[0]; !r.Run || r.From != begun+1 || r.To != begun+5 {
		t.Errorf("begun at %d: %+v", begun, r)
	}
	for y.Air().Len() > 0 {
		does(t, y, yard.Step{Kind: yard.Land}, api.OK)
	}
	if r := y.Hand(0).Ranks()[0]; r.Run || r.To != begun+5 {
		t.Errorf("begun at %d, told to stop: %+v", begun, r)
	}
}

// TestAsk: what the desk replies is told, in order, and what it sends flies; a request that is none has no reply.
func TestAsk(t *testing.T) {
	y := made(t, plain()).y
	right := bytesOf(t, api.Request{Seq: 1, Kind: api.Submit, K: 2, W: 9})
	reply, _ := note.Reply(api.Reply{Seq: 1})
	for _, x := range []struct {
		p    []byte
		want api.Errno
	}{{nil, api.ErrShort}, {right[:len(right)-1], api.ErrShort}, {append([]byte{0}, right...), api.ErrShort}, {append(slices.Clone(right), 0), api.ErrForm}, {reply, api.ErrForm}, {[]byte{255, 255}, api.ErrLong}} {
		does(t, y, yard.Step{Kind: yard.Ask, Data: x.p, N: 3, Cut: 4, On: true}, x.want)
	}
	if len(y.Replies()) != 0 {
		t.Fatal("there is a reply")
	}
	ask(t, y, api.Request{Seq: 1, Kind: api.Submit, K: 2, W: 9}, api.OK)
	ask(t, y, api.Request{Client: 3, Seq: 2, Kind: api.Submit, K: 2, W: 9}, api.OK)
	ask(t, y, api.Request{Client: 3, Kind: api.Query, Job: 1}, api.OK)
	var l []api.Reply
	for _, p := range y.Replies() {
		r, e := note.ReadReply(p)
		if e != api.OK {
			t.Fatal("error", e)
		}
		l = append(l, r)
	}
	if !slices.Equal(l, []api.Reply{{Seq: 1, Job: 1}, {Client: 3, Seq: 2, E: api.ErrOrder}, {Client: 3, Job: 1}}) {
		t.Errorf("%+v", l)
	}
	does(t, y, yard.Step{Kind: yard.Calm, N: 12}, api.OK)
	ask(t, y, api.Request{Seq: 2, Kind: api.Cancel, Job: 1}, api.OK)
	if l := brief(flying(t, y)); !slices.Equal(l, [][3]int{{0, api.Stop, 0}, {1, api.Stop, 1}, {0, api.Drop, 0}, {1, api.Drop, 1}}) {
		t.Errorf("cancelled: %v fly", l)
	}
}

// TestAskAtTheEndOfPower: there is no reply, and the request may be done.
func TestAskAtTheEndOfPower(t *testing.T) {
	for _, fate := range []byte{0, 1} {
		y := made(t, plain()).y
		does(t, y, yard.Step{Kind: yard.Arm, N: 1}, api.OK)
		ask(t, y, api.Request{Seq: 1, Kind: api.Submit, K: 2, W: 9}, api.ErrDown)
		ask(t, y, api.Request{Seq: 1, Kind: api.Submit, K: 2, W: 9}, api.ErrDown)
		if len(y.Replies()) > 0 || y.Desk() == nil || y.Desk().Up() || y.Slab().On() {
			t.Fatal("there is a reply, or the power")
		}
		does(t, y, yard.Step{Kind: yard.Crash, Data: []byte{fate}}, api.OK)
		if n := y.Desk().Table().Next(); n != 1+uint32(fate) || len(y.Replies()) > 0 {
			t.Errorf("fate %d: the next job is %d", fate, n)
		}
	}
}

// TestLand: the datagram that is asked for comes, at a node or at the desk, and flies no more.
func TestLand(t *testing.T) {
	y := ticked(t, plain(), 1)
	for _, n := range []int{-1, 8, 1 << 40, -1 << 40} {
		does(t, y, yard.Step{Kind: yard.Land, N: n}, api.ErrNone)
	}
	does(t, y, yard.Step{Kind: yard.Land, N: 5}, api.OK) // a Beat to node 1
	for node := range 4 {
		if e := y.Hand(node).Epoch(); (e == 1) != (node == 1) {
			t.Errorf("node %d has the epoch %d", node, e)
		}
	}
	does(t, y, yard.Step{Kind: yard.Land, N: 6}, api.OK) // and that to node 3, as there is one less
	if y.Hand(3).Epoch() != 1 || y.Hand(2).Epoch() != 0 || y.Air().Len() != 6 {
		t.Fatal("another one came")
	}
	does(t, y, yard.Step{Kind: yard.Tick}, api.OK)
	does(t, y, yard.Step{Kind: yard.Land, N: 7}, api.OK) // the Hello of node 1, behind six and that of node 0
	for node := range 4 {
		if s := y.Desk().Book().State(node); (s == lease.Up) != (node == 1) {
			t.Errorf("node %d has the state %d", node, s)
		}
	}
}

// TestAnswersFly: what a hand answers flies behind all else, and what the desk answers.
func TestAnswersFly(t *testing.T) {
	y := made(t, plain()).y
	ask(t, y, api.Request{Seq: 1, Kind: api.Submit, K: 1, W: 9}, api.OK)
	does(t, y, yard.Step{Kind: yard.Calm, N: 9}, api.OK)
	does(t, y, yard.Step{Kind: yard.Tick}, api.OK)
	if y.Air().Len() != 9 {
		t.Fatal(y.Air().Len(), "fly")
	}
	does(t, y, yard.Step{Kind: yard.Land, N: 8}, api.OK) // Load
	if y.Air().Len() != 10 {                             // the answer, and Loaded
		t.Fatal(y.Air().Len(), "fly")
	}
	does(t, y, yard.Step{Kind: yard.Land, N: 9}, api.OK) // Loaded
	if j, _ := y.Desk().Brain().Job(1); j.State != api.Placed {
		t.Errorf("%+v", j)
	}
	l := flying(t, y)
	if f := l[8]; f.to != -1 || f.k.Ack != 1 || f.k.Seq != 0 {
		t.Errorf("the hand answers %+v", f)
	}
	if f := l[9]; len(l) != 10 || f.to != 0 || f.k.Ack != 1 || f.k.Seq != 0 {
		t.Errorf("the desk answers %+v", f)
	}
}

// TestWhatIsNone: what comes and is none does nothing at a node; at the desk its error is told.
func TestWhatIsNone(t *testing.T) {
	y := made(t, plain()).y
	right, _ := note.Packet(api.Packet{Node: 9, Epoch: 1})
	beat, _ := note.Note(api.Note{Kind: api.Beat, Epoch: 7})
	other, _ := note.Packet(api.Packet{Node: 2, Epoch: 7, Plain: true, Data: beat})
	for _, x := range []struct {
		o    api.Out
		want api.Errno
	}{
		{api.Out{To: 0}, api.OK}, {api.Out{To: 0, Data: beat}, api.OK}, {api.Out{To: 0, Data: other}, api.OK},
		{api.Out{To: 4, Data: other}, api.OK}, {api.Out{To: 1 << 40, Data: other}, api.OK}, {api.Out{To: -2, Data: other[:5]}, api.OK},
		{api.Out{To: -1}, api.ErrShort}, {api.Out{To: -1, Data: right[:9]}, api.ErrShort}, {api.Out{To: -1, Data: beat}, api.ErrForm},
		{api.Out{To: -1, Data: right}, api.ErrArg}, {api.Out{To: -1, Data: other}, api.OK},
	} {
		was := taleOf(y)
		y.Air().Fly(x.o)
		does(t, y, yard.Step{Kind: yard.Land}, x.want)
		if taleOf(y) != was {
			t.Errorf("%+v: something has changed", x.o)
		}
	}
}

// TestEchoAndLose: the datagram that is asked for flies once more, or no more.
func TestEchoAndLose(t *testing.T) {
	y := ticked(t, plain(), 1)
	for _, n := range []int{-1, 8, 1 << 40} {
		does(t, y, yard.Step{Kind: yard.Echo, N: n}, api.ErrNone)
		does(t, y, yard.Step{Kind: yard.Lose, N: n}, api.ErrNone)
	}
	does(t, y, yard.Step{Kind: yard.Echo, N: 6}, api.OK)
	does(t, y, yard.Step{Kind: yard.Lose, N: 1}, api.OK)
	does(t, y, yard.Step{Kind: yard.Echo, N: 7}, api.OK)
	want := [][3]int{
		{-1, api.Hello, 0}, {-1, api.Hello, 2}, {-1, api.Hello, 3},
		{0, api.Beat, 0}, {1, api.Beat, 1}, {2, api.Beat, 2}, {3, api.Beat, 3}, {2, api.Beat, 2}, {2, api.Beat, 2},
	}
	if l := brief(flying(t, y)); !slices.Equal(l, want) {
		t.Errorf("%v", l)
	}

	c := plain()
	c.Air = 8
	y = ticked(t, c, 1)
	does(t, y, yard.Step{Kind: yard.Echo, N: 0}, api.ErrFull)
	does(t, y, yard.Step{Kind: yard.Echo, N: 8}, api.ErrNone)
	does(t, y, yard.Step{Kind: yard.Lose, N: 7}, api.OK)
	does(t, y, yard.Step{Kind: yard.Echo, N: 0}, api.OK)
	if y.Air().Len() != 8 {
		t.Error(y.Air().Len(), "fly")
	}
}

// TestNoRoom: what there is no room for in the air is lost, and what comes behind it flies as soon as there is some.
func TestNoRoom(t *testing.T) {
	c := plain()
	c.Air = 5
	y := ticked(t, c, 1)
	want := [][3]int{{-1, api.Hello, 0}, {-1, api.Hello, 1}, {-1, api.Hello, 2}, {-1, api.Hello, 3}, {0, api.Beat, 0}}
	if l := brief(flying(t, y)); !slices.Equal(l, want) {
		t.Errorf("%v", l)
	}
	does(t, y, yard.Step{Kind: yard.Tick}, api.OK)
	for range 3 {
		does(t, y, yard.Step{Kind: yard.Lose}, api.OK)
	}
	does(t, y, yard.Step{Kind: yard.Tick}, api.OK)
	want = [][3]int{{-1, api.Hello, 3}, {0, api.Beat, 0}, {-1, api.Hello, 0}, {-1, api.Hello, 1}, {-1, api.Hello, 2}}
	if l := brief(flying(t, y)); !slices.Equal(l, want) {
		t.Errorf("%v", l)
	}
}

// TestRestart: the hand of the node begins anew, and no other one.
func TestRestart(t *testing.T) {
	y := made(t, plain()).y
	for _, n := range []int{-1, 4, 1 << 40} {
		does(t, y, yard.Step{Kind: yard.Restart, N: n}, api.ErrArg)
	}
	ask(t, y, api.Request{Seq: 1, Kind: api.Submit, K: 4, W: 50}, api.OK)
	does(t, y, yard.Step{Kind: yard.Calm, N: 12}, api.OK)
	does(t, y, yard.Step{Kind: yard.Restart, N: 2}, api.OK)
	for node := range 4 {
		h := y.Hand(node)
		if isIt := node == 2; h.Life() == 3 != isIt || len(h.Ranks()) == 0 != isIt {
			t.Errorf("node %d: life %d, %d ranks", node, h.Life(), len(h.Ranks()))
		}
	}
}

// TestArm: the power goes at that step of the slab; the ticks go on without it.
func TestArm(t *testing.T) {
	y := made(t, plain()).y
	does(t, y, yard.Step{Kind: yard.Arm, N: -1}, api.ErrArg)
	does(t, y, yard.Step{Kind: yard.Arm, N: 1}, api.OK)
	does(t, y, yard.Step{Kind: yard.Arm, N: 0}, api.OK)
	ask(t, y, api.Request{Seq: 1, Kind: api.Submit, K: 2, W: 3}, api.OK)
	steps := y.Slab().Steps()
	does(t, y, yard.Step{Kind: yard.Arm, N: 3}, api.OK)
	does(t, y, yard.Step{Kind: yard.Calm, N: 40}, api.OK) // it goes when an image is put
	if y.Slab().On() || y.Desk().Up() || y.Slab().Steps() != steps+3 || y.Now() != 40 {
		t.Fatalf("tick %d: %d steps", y.Now(), y.Slab().Steps()-steps)
	}
	does(t, y, yard.Step{Kind: yard.Tick}, api.OK)
	does(t, y, yard.Step{Kind: yard.Land}, api.ErrDown)
	if y.Air().Len() != 3 || y.Hand(0).Now() != 41 || len(y.Hand(0).Ranks()) > 0 {
		t.Errorf("%d fly, node 0 has %v", y.Air().Len(), y.Hand(0).Ranks())
	}
	does(t, y, yard.Step{Kind: yard.Calm, N: 1}, api.OK)
	if y.Air().Len() != 0 {
		t.Error("what comes at a desk that isn't up flies yet")
	}
}

// TestCrash: each write under way meets its fate, and a desk is opened at the tick; what flies flies on, and nodes go on.
func TestCrash(t *testing.T) {
	for _, x := range []struct {
		fates []byte
		cut   int
		done  bool
	}{{nil, 0, false}, {[]byte{0}, 9, false}, {[]byte{1}, 0, true}, {[]byte{2}, 0, false}, {[]byte{2}, 40, false}, {[]byte{2}, api.Sector, true}, {[]byte{3}, 0, true}, {[]byte{3}, 40, false}, {[]byte{5, 0}, -1, true}, {[]byte{6}, 1 << 40, true}, {[]byte{7}, -1 << 40, true}} {
		y := ticked(t, plain(), 14)
		does(t, y, yard.Step{Kind: yard.Arm, N: 2}, api.OK) // the flush behind the write of the record
		ask(t, y, api.Request{Seq: 1, Kind: api.Submit, K: 2, W: 9}, api.ErrDown)
		flies, life, old := y.Air().Len(), y.Hand(1).Life(), y.Desk()
		does(t, y, yard.Step{Kind: yard.Crash, Data: x.fates, Cut: x.cut}, api.OK)
		d := y.Desk()
		if _, ok := d.Table().Job(1); ok != x.done || d == old || !d.Up() || d.Epoch() != 2 || !y.Slab().On() {
			t.Errorf("fates %v, cut %d: job 1 is there: %v; epoch %d", x.fates, x.cut, ok, d.Epoch())
		}
		if y.Now() != 14 || y.Air().Len() != flies || y.Hand(1).Life() != life || flies == 0 {
			t.Errorf("fates %v: tick %d, %d fly, life %d", x.fates, y.Now(), y.Air().Len(), y.Hand(1).Life())
		}
	}
}

// TestCrashHolds: the desk is opened at the tick that there is: nobody is told to run ahead of the end of the leases that it told of.
func TestCrashHolds(t *testing.T) {
	y := made(t, plain()).y
	ask(t, y, api.Request{Seq: 1, Kind: api.Submit, K: 2, W: 90}, api.OK)
	does(t, y, yard.Step{Kind: yard.Calm, N: 30}, api.OK)
	does(t, y, yard.Step{Kind: yard.Crash}, api.OK)
	for range api.Lease + 1 {
		does(t, y, yard.Step{Kind: yard.Calm, N: 1}, api.OK)
		if len(y.Hand(0).Ranks()) > 0 || y.Hand(0).Epoch() != 2 {
			t.Fatalf("tick %d: epoch %d, %v", y.Now(), y.Hand(0).Epoch(), y.Hand(0).Ranks())
		}
	}
	does(t, y, yard.Step{Kind: yard.Calm, N: 1}, api.OK)
	if len(y.Hand(0).Ranks()) != 1 {
		t.Errorf("tick %d: %v", y.Now(), y.Hand(0).Ranks())
	}
}

// wreck has the disk hold no desk any more, and answers the error of the opening.
func wreck(t *testing.T, y *yard.Yard) api.Errno {
	t.Helper()
	roots := make([][]byte, 2)
	for i := range roots {
		roots[i], _ = y.Slab().Read(i)
		y.Slab().Write(i, nil)
	}
	y.Slab().Flush()
	e := y.Do(yard.Step{Kind: yard.Crash})
	for i, p := range roots {
		y.Slab().Write(i, p)
	}
	y.Slab().Flush()
	return e
}

// TestNoDesk: where no desk could be opened there is none, till one can; all else goes on.
func TestNoDesk(t *testing.T) {
	y := made(t, plain()).y
	ask(t, y, api.Request{Seq: 1, Kind: api.Submit, K: 2, W: 9}, api.OK)
	does(t, y, yard.Step{Kind: yard.Calm, N: 20}, api.OK)
	if e := wreck(t, y); e != api.ErrForm || y.Desk() != nil {
		t.Fatalf("error %d, or there is a desk", e)
	}
	ask(t, y, api.Request{Seq: 2, Kind: api.Submit, K: 2, W: 9}, api.ErrNone)
	does(t, y, yard.Step{Kind: yard.Ask}, api.ErrNone)
	does(t, y, yard.Step{Kind: yard.Tick}, api.OK)
	if y.Now() != 21 || y.Air().Len() != 4 || len(y.Replies()) != 1 {
		t.Fatalf("tick %d, %d fly, %d replies", y.Now(), y.Air().Len(), len(y.Replies()))
	}
	does(t, y, yard.Step{Kind: yard.Land}, api.ErrNone)
	if y.Air().Len() != 3 {
		t.Error("what has come flies yet")
	}
	does(t, y, yard.Step{Kind: yard.Calm, N: 20}, api.OK)
	if y.Now() != 41 || y.Air().Len() != 0 || y.Hand(1).Now() != 41 || y.Hand(1).Life() < 3 {
		t.Errorf("tick %d, %d fly", y.Now(), y.Air().Len())
	}
	does(t, y, yard.Step{Kind: yard.Crash}, api.OK)
	does(t, y, yard.Step{Kind: yard.Calm, N: 60}, api.OK)
	if j, _ := y.Desk().Table().Job(1); j.State != api.Done || y.Desk().Epoch() != 2 {
		t.Errorf("%+v, epoch %d", j, y.Desk().Epoch())
	}
}

// TestCalm: it is so many ticks, behind each of which all that flies comes, who flies first first.
func TestCalm(t *testing.T) {
	for _, n := range []int{-1, 401, -1 << 40, 1 << 40} {
		y := ticked(t, plain(), 3)
		was := taleOf(y)
		does(t, y, yard.Step{Kind: yard.Calm, N: n}, api.ErrArg)
		if taleOf(y) != was {
			t.Errorf("a Calm of %d does something", n)
		}
	}
	for _, n := range []int{0, 1, 2, 60, 400} {
		a, b := ticked(t, plain(), 1), ticked(t, plain(), 1)
		for _, y := range []*yard.Yard{a, b} {
			ask(t, y, api.Request{Seq: 1, Kind: api.Submit, Tier: 1, K: 3, W: 90}, api.OK)
			ask(t, y, api.Request{Seq: 2, Kind: api.Submit, Tier: 2, K: 4, W: 11}, api.OK)
		}
		does(t, a, yard.Step{Kind: yard.Calm, N: n}, api.OK)
		for range n {
			does(t, b, yard.Step{Kind: yard.Tick}, api.OK)
			for b.Air().Len() > 0 {
				does(t, b, yard.Step{Kind: yard.Land}, api.OK)
			}
		}
		if a.Now() != uint32(1+n) || taleOf(a) != taleOf(b) {
			t.Errorf("a Calm of %d is another", n)
		}
		if n == 0 && a.Air().Len() == 0 {
			t.Error("something comes in a Calm of no ticks")
		}
	}
}

// TestDeaf: who is deaf hears nothing, and nothing of him is heard; but what flew ahead of that comes.
func TestDeaf(t *testing.T) {
	y := made(t, plain()).y
	for _, n := range []int{-1, 4, 1 << 40} {
		does(t, y, yard.Step{Kind: yard.Deaf, N: n}, api.ErrArg)
		does(t, y, yard.Step{Kind: yard.Deaf, N: n, On: true}, api.ErrArg)
	}
	does(t, y, yard.Step{Kind: yard.Tick}, api.OK)
	does(t, y, yard.Step{Kind: yard.Deaf, N: 2, On: true}, api.OK)
	does(t, y, yard.Step{Kind: yard.Deaf, N: 2, On: true}, api.OK)
	does(t, y, yard.Step{Kind: yard.Land, N: 6}, api.OK) // a Beat to it
	if y.Hand(2).Epoch() != 0 || y.Air().Len() != 7 {
		t.Fatalf("epoch %d, %d fly", y.Hand(2).Epoch(), y.Air().Len())
	}
	flying(t, y)
	does(t, y, yard.Step{Kind: yard.Tick}, api.OK)
	want := [][3]int{
		{-1, api.Hello, 0}, {-1, api.Hello, 1}, {-1, api.Hello, 3},
		{0, api.Beat, 0}, {1, api.Beat, 1}, {2, api.Beat, 2}, {3, api.Beat, 3},
	}
	if l := brief(flying(t, y)); !slices.Equal(l, want) || y.Hand(2).Now() != 2 {
		t.Errorf("%v", l)
	}
	does(t, y, yard.Step{Kind: yard.Tick}, api.OK)
	does(t, y, yard.Step{Kind: yard.Deaf, N: 2}, api.OK)
	does(t, y, yard.Step{Kind: yard.Land, N: 5}, api.OK) // a Beat that flew while it was deaf
	if y.Hand(2).Epoch() != 1 {
		t.Error("it doesn't hear again")
	}
	does(t, y, yard.Step{Kind: yard.Tick}, api.OK)
	does(t, y, yard.Step{Kind: yard.Deaf, N: 2, On: true}, api.OK)
	does(t, y, yard.Step{Kind: yard.Land, N: 8}, api.OK) // a Hello that flew ahead of its being deaf
	if y.Desk().Book().State(2) != lease.Up {
		t.Error("what it had sent doesn't come")
	}
}

// TestDeafToTalks: who is deaf does nothing that he is told, and has no answer.
func TestDeafToTalks(t *testing.T) {
	y := made(t, plain()).y
	ask(t, y, api.Request{Seq: 1, Kind: api.Submit, K: 4, W: 50}, api.OK)
	does(t, y, yard.Step{Kind: yard.Calm, N: 9}, api.OK)
	does(t, y, yard.Step{Kind: yard.Deaf, N: 1, On: true}, api.OK)
	does(t, y, yard.Step{Kind: yard.Calm, N: 1}, api.OK)
	if len(y.Hand(1).Ranks()) > 0 || len(y.Hand(0).Ranks()) != 1 {
		t.Fatal("it has heard of Load")
	}
	does(t, y, yard.Step{Kind: yard.Calm, N: 30}, api.OK)
	if s := y.Desk().Book().State(1); s != lease.Away || y.Hand(1).Now() != 40 {
		t.Errorf("state %d, tick %d", s, y.Hand(1).Now())
	}
	does(t, y, yard.Step{Kind: yard.Deaf, N: 1}, api.OK)
	does(t, y, yard.Step{Kind: yard.Calm, N: 100}, api.OK)
	if j, _ := y.Desk().Table().Job(1); j.State != api.Done {
		t.Errorf("%+v", j)
	}
}

// TestNoSuchKind: of other kinds there is no step, and nothing happens.
func TestNoSuchKind(t *testing.T) {
	y := ticked(t, plain(), 5)
	was := taleOf(y)
	for kind := int(yard.Deaf) + 1; kind < 256; kind++ {
		does(t, y, yard.Step{Kind: byte(kind), Data: []byte{1}, On: true}, api.ErrArg)
	}
	if taleOf(y) != was {
		t.Error("something has happened")
	}
	for i, kind := range []byte{yard.Ask, yard.Tick, yard.Land, yard.Echo, yard.Lose, yard.Restart, yard.Arm, yard.Crash, yard.Calm, yard.Deaf} {
		if int(kind) != i {
			t.Errorf("the kind %d has the number %d", i, kind)
		}
	}
}

// TestRefusedChangesNothing: nor does any other step that is refused.
func TestRefusedChangesNothing(t *testing.T) {
	c := plain()
	c.Air = 8
	y := ticked(t, c, 2)
	was := taleOf(y)
	for s, want := range map[*yard.Step]api.Errno{
		{Kind: yard.Ask}:                            api.ErrShort,
		{Kind: yard.Land, N: 8}:                     api.ErrNone,
		{Kind: yard.Lose, N: 8}:                     api.ErrNone,
		{Kind: yard.Echo, N: -1}:                    api.ErrNone,
		{Kind: yard.Echo}:                           api.ErrFull,
		{Kind: yard.Restart, N: 4}:                  api.ErrArg,
		{Kind: yard.Arm, N: -4}:                     api.ErrArg,
		{Kind: yard.Calm, N: 401}:                   api.ErrArg,
		{Kind: yard.Deaf, N: -1, On: true}:          api.ErrArg,
		{Kind: yard.Ask, Data: make([]byte, 1<<16)}: api.ErrSum,
	} {
		does(t, y, *s, want)
	}
	if taleOf(y) != was {
		t.Error("something has happened")
	}
}

// TestPartsAreTheYards: they are the same ones each time, but for the desk, which a crash makes anew.
func TestPartsAreTheYards(t *testing.T) {
	y := made(t, plain()).y
	a, s, d, h := y.Air(), y.Slab(), y.Desk(), y.Hand(3)
	does(t, y, yard.Step{Kind: yard.Calm, N: 3}, api.OK)
	does(t, y, yard.Step{Kind: yard.Restart, N: 3}, api.OK)
	if d != y.Desk() {
		t.Error("another desk")
	}
	does(t, y, yard.Step{Kind: yard.Crash}, api.OK)
	if a != y.Air() || s != y.Slab() || h != y.Hand(3) || d == y.Desk() || h == y.Hand(2) {
		t.Error("other parts")
	}
}

// TestFormatted: what stands on the slab is a desk, as it is opened elsewhere.
func TestFormatted(t *testing.T) {
	y := made(t, plain()).y
	ask(t, y, api.Request{Seq: 1, Kind: api.Submit, K: 2, W: 9}, api.OK)
	does(t, y, yard.Step{Kind: yard.Crash}, api.OK)
	was := y.Desk().Table().Bytes()
	d, e := desk.Open(y.Slab(), plain().Desk, 5)
	if e != api.OK || !bytes.Equal(d.Table().Bytes(), was) || d.Epoch() != 3 {
		t.Errorf("error %d, epoch %d", e, d.Epoch())
	}
}
