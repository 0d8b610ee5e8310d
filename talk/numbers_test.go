package talk

import (
	"math"
	"testing"

	"quadrille/api"
)

// TestLastNumber begins ends that said and heard nearly all that there are numbers for: to say that much takes too long.
func TestLastNumber(t *testing.T) {
	a, b := New(1, 1, 1), New(1, 1, 1)
	a.said, b.heard = math.MaxUint32-2, math.MaxUint32-2
	for _, seq := range []uint32{math.MaxUint32 - 1, math.MaxUint32} {
		k, e := a.Say([]byte("a"))
		if e != api.OK || k.Seq != seq {
			t.Fatal(k, e)
		}
		if p, ok, r, has := b.Hear(k); !ok || string(p) != "a" || !has || r.Ack != seq {
			t.Fatal(p, ok, r, has)
		}
	}
	for range 3 {
		if k, e := a.Say(nil); e != api.ErrFull || k.Node != 0 {
			t.Fatal(k, e)
		}
		if k, e := a.Say(make([]byte, api.MaxBytes)); e != api.ErrLong || k.Node != 0 {
			t.Fatal(k, e)
		}
	}
	if l := append(a.Tick(), a.Tick()...); len(l) != 2 || l[0].Seq != math.MaxUint32-1 || l[1].Seq != math.MaxUint32 {
		t.Fatal(l)
	}
	for _, seq := range []uint32{1, 2, 7, math.MaxUint32 - 1, math.MaxUint32} { // no number follows the last
		p, ok, r, has := b.Hear(api.Packet{Node: 1, Epoch: 1, Life: 1, Seq: seq, Data: []byte("b")})
		if ok || len(p) != 0 || !has || r.Ack != math.MaxUint32 {
			t.Fatal(p, ok, r, has)
		}
	}
	if p, ok, r, has := b.Hear(api.Packet{Node: 1, Epoch: 1, Life: 1, Data: []byte("b")}); ok || len(p) != 0 || has || r.Node != 0 {
		t.Fatal(p, ok, r, has)
	}
	a.Hear(api.Packet{Node: 1, Epoch: 1, Life: 1, Ack: math.MaxUint32 - 1})
	if a.Open() != 1 || b.Heard() != math.MaxUint32 {
		t.Fatal(a.Open(), b.Heard())
	}
	a.Hear(api.Packet{Node: 1, Epoch: 1, Life: 1, Ack: math.MaxUint32})
	if a.Open() != 0 || a.Tick() != nil || a.Tick() != nil {
		t.Fatal(a.Open())
	}
	if _, e := a.Say(nil); e != api.ErrFull { // room there is, but no number
		t.Fatal(e)
	}
}

// TestKeepsNoMore: what is answered isn't kept.
func TestKeepsNoMore(t *testing.T) {
	a := New(1, 1, 1)
	for i := range uint32(5000) {
		if _, e := a.Say(make([]byte, 100)); e != api.OK {
			t.Fatal(e)
		}
		a.Tick()
		if i%100 != 99 {
			continue
		}
		a.Hear(api.Packet{Node: 1, Epoch: 1, Life: 1, Ack: i})
		if len(a.open) != 1 || cap(a.open) > 4*api.MaxQueue {
			t.Fatal(len(a.open), cap(a.open))
		}
		for _, x := range a.open[1:cap(a.open)] {
			if x.data != nil {
				t.Fatal("what is answered is kept")
			}
		}
	}
}
