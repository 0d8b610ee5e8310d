package desk

import (
	"bytes"
	"slices"
	"testing"

	"quadrille/api"
	"quadrille/brain"
	"quadrille/image"
	"quadrille/note"
	"quadrille/slab"
)

// TestRetry: a job for whose being Done there was no room is Done at the first Tick at which there is, unless it was cancelled till then.
func TestRetry(t *testing.T) {
	c := Config{Brain: brain.Config{Nodes: 2, Rows: 1, Quantum: 3, Grace: 3}, Size: 6, Images: 9}
	s, _ := slab.New(behind(c))
	Format(s, c)
	d, e := Open(s, c, 0)
	if e != api.OK {
		t.Fatal("Open: error", e)
	}
	ask := func(q api.Request) {
		t.Helper()
		p, _ := note.Request(q)
		b, e := d.Ask(p)
		if r, f := note.ReadReply(b); e != api.OK || f != api.OK || r.E != api.OK {
			t.Fatalf("%+v: %+v, errors %d, %d", q, r, e, f)
		}
	}
	states := func(want ...byte) {
		t.Helper()
		var got []byte
		for job := range uint32(3) {
			j, _ := d.table.Job(job + 1)
			got = append(got, j.State)
		}
		if !slices.Equal(got, want) {
			t.Fatalf("states %v, want %v", got, want)
		}
	}
	for seq := uint32(1); d.scroll.Left() > 0; seq++ {
		ask(api.Request{Seq: seq, Kind: api.Submit, K: 1, W: 4})
	}
	for job := range uint32(3) {
		d.images.Put(image.Image{Job: job + 1, Ver: 1, Credit: 4, Blobs: [][]byte{nil}})
	}
	d.brain.Cancel(3) // it knows it no more
	d.table.State(3, api.Leaving)
	d.size = 0 // no snapshot finds room
	d.finish([]uint32{1, 2, 3})
	d.Tick(1)
	states(api.Queued, api.Queued, api.Leaving)
	d.size = c.Size
	k, _ := note.Packet(api.Packet{Epoch: 9})
	d.Land(k)
	states(api.Queued, api.Queued, api.Leaving)
	ask(api.Request{Client: 1, Seq: 1, Kind: api.Cancel, Job: 2})
	states(api.Queued, api.Cancelled, api.Leaving)
	d.Tick(2)
	states(api.Done, api.Cancelled, api.Done)
	if l := d.images.List(); len(l) > 0 || len(d.ended) > 0 {
		t.Errorf("images of %v, to be Done %v", l, d.ended)
	}
	table := d.table.Bytes()
	d, e = Open(s, c, 2)
	if e != api.OK || !bytes.Equal(d.table.Bytes(), table) {
		t.Errorf("opened again it is another: error %d", e)
	}
}
