package desk_test

import (
	"bytes"
	"reflect"
	"testing"

	"quadrille/api"
	"quadrille/desk"
	"quadrille/image"
	"quadrille/lease"
	"quadrille/slab"
)

// TestOpenCredit: behind a crash the active jobs are Queued, with what their images tell, in the table and in the brain, and go on from there.
func TestOpenCredit(t *testing.T) {
	w := made(t, plain(3))
	first, second, third := w.submit(0, 2, 40), w.submit(1, 1, 30), w.submit(0, 3, 5)
	w.credited(first, 4)
	w.credited(second, 4)
	was := map[uint32]api.Job{}
	for _, j := range w.d.Table().Active() {
		was[j.ID] = j
	}
	w.reopen()
	if l := w.d.Brain().Jobs(); len(l) != len(was) || w.d.Epoch() != 2 {
		t.Fatalf("the brain knows %v, epoch %d", l, w.d.Epoch())
	}
	store := w.store()
	for id, j := range was {
		x, _ := store.Get(id)
		j.State = api.Queued
		known, ok := w.d.Brain().Job(id)
		if got := w.job(id); got != j || x.Credit != j.Credit || !ok || known != j {
			t.Errorf("table %+v, brain %+v, image %d, want %+v", got, known, x.Credit, j)
		}
	}
	before, _ := store.Get(first)
	w.credited(first, was[first].Credit+1)
	behind, _ := w.store().Get(first)
	if behind.Ver <= before.Ver || behind.Credit <= before.Credit {
		t.Errorf("image %d with %d behind %d with %d", behind.Ver, behind.Credit, before.Ver, before.Credit)
	}
	w.until("all Done", func() bool { return len(w.d.Table().Active()) == 0 })
	for _, job := range []uint32{first, second, third} {
		if j := w.job(job); j.State != api.Done || j.Credit != j.W {
			t.Errorf("%+v", j)
		}
	}
}

// TestHold: nothing is ordered up to Lease + 1 ticks behind the opening, though nodes are up.
func TestHold(t *testing.T) {
	c := plain(1)
	for _, at := range []uint32{0, 1, 100, api.MaxTick - 12} {
		d := opened(t, formatted(t, c), c, at)
		asked(t, d, api.Request{Seq: 1, Kind: api.Submit, K: 1, W: 3})
		n := begun(t, d, 0, 1)
		for now := at + 1; now <= at+api.Lease+2; now++ {
			if e := d.Tick(now); e != api.OK {
				t.Fatal("error", e)
			}
			n.hello()
			told := n.hear(d.Out())
			if held := now <= at+api.Lease+1; held != (len(told) == 0) {
				t.Fatalf("opened at %d, at %d: %v", at, now, told)
			}
		}
	}
}

// TestHoldAtTheEnd: the brain's hold is no tick beyond the last one.
func TestHoldAtTheEnd(t *testing.T) {
	c := plain(1)
	d := opened(t, formatted(t, c), c, api.MaxTick-2)
	asked(t, d, api.Request{Seq: 1, Kind: api.Submit, K: 1, W: 3})
	n := begun(t, d, 0, 1)
	for _, now := range []uint32{api.MaxTick - 1, api.MaxTick} {
		if e := d.Tick(now); e != api.OK || len(n.hear(d.Out())) > 0 {
			t.Fatal("tick", now, "error", e)
		}
	}
	if e := d.Tick(api.MaxTick); e != api.ErrStale {
		t.Error("error", e)
	}
	if until := d.Book().Until(0); until != api.MaxTick {
		t.Error("until", until)
	}
}

// TestOpenAway: behind a crash all nodes are Away, whatever was known of them.
func TestOpenAway(t *testing.T) {
	w := made(t, plain(3))
	w.calm(3)
	for node := range 3 {
		if w.d.Book().State(node) != lease.Up {
			t.Fatal("node", node, "isn't up")
		}
	}
	w.reopen()
	for node := range 3 {
		if w.d.Book().State(node) != lease.Away || w.d.Book().Life(node) != 0 || w.d.Brain().Matrix().IsUp(node) {
			t.Error("node", node, "is up")
		}
	}
	if len(w.d.Out()) > 0 {
		t.Error("something is sent")
	}
}

// put has an image stand on the slab of a desk.
func put(t *testing.T, s *slab.Slab, c desk.Config, x image.Image) {
	t.Helper()
	if e := storeOf(t, s, c).Put(x); e != api.OK {
		t.Fatal("Put: error", e)
	}
}

// TestOpenDrops: images of jobs that aren't active are dropped, those of others stay.
func TestOpenDrops(t *testing.T) {
	c := plain(2)
	s := formatted(t, c)
	d := opened(t, s, c, 0)
	for i := range uint32(3) {
		asked(t, d, api.Request{Seq: i + 1, Kind: api.Submit, K: 1, W: 9})
	}
	asked(t, d, api.Request{Seq: 4, Kind: api.Cancel, Job: 2})
	for _, job := range []uint32{1, 2, 3, 4, 70} {
		put(t, s, c, image.Image{Job: job, Ver: 5, Credit: int(job), Blobs: [][]byte{nil}})
	}
	d = opened(t, s, c, 0)
	if l := storeOf(t, s, c).List(); len(l) != 2 || l[0] != 1 || l[1] != 3 {
		t.Errorf("images of %v", l)
	}
	for _, job := range []uint32{1, 3} {
		if j, _ := d.Table().Job(job); j.Credit != int(job) {
			t.Errorf("%+v", j)
		}
	}
	if j, _ := d.Table().Job(2); j.State != api.Cancelled || j.Credit != 0 {
		t.Errorf("%+v", j)
	}
}

// TestOpenDone: a job of whose image the credit is its W is Done at once, and stays so; its image is dropped.
func TestOpenDone(t *testing.T) {
	c := plain(2)
	s := formatted(t, c)
	d := opened(t, s, c, 0)
	asked(t, d, api.Request{Seq: 1, Kind: api.Submit, K: 2, W: 9})
	asked(t, d, api.Request{Seq: 2, Kind: api.Submit, K: 1, W: 9})
	put(t, s, c, image.Image{Job: 1, Ver: 2, Credit: 9, Blobs: [][]byte{nil, nil}})
	put(t, s, c, image.Image{Job: 2, Ver: 1, Credit: 8, Blobs: [][]byte{nil}})
	for range 3 {
		d = opened(t, s, c, 0)
		if j, ok := d.Table().Job(1); !ok || j.State != api.Done || j.Credit != 9 {
			t.Errorf("%+v", j)
		}
		if j, ok := d.Table().Job(2); !ok || j.State != api.Queued || j.Credit != 8 {
			t.Errorf("%+v", j)
		}
		if l := d.Brain().Jobs(); len(l) != 1 || l[0] != 2 {
			t.Errorf("the brain knows %v", l)
		}
		if l := storeOf(t, s, c).List(); len(l) != 1 || l[0] != 2 {
			t.Errorf("images of %v", l)
		}
	}
}

// TestOpenVersions: the brain goes on behind the version of the image that there is.
func TestOpenVersions(t *testing.T) {
	c := plain(1)
	s := formatted(t, c)
	asked(t, opened(t, s, c, 0), api.Request{Seq: 1, Kind: api.Submit, K: 1, W: 9})
	put(t, s, c, image.Image{Job: 1, Ver: 41, Credit: 4, Blobs: [][]byte{nil}})
	d := opened(t, s, c, 0)
	n := begun(t, d, 0, 1)
	for now := uint32(1); ; now++ {
		d.Tick(now)
		n.hello()
		if told := n.hear(d.Out()); len(told) > 0 {
			if want := (api.Note{Kind: api.Load, Job: 1, Ver: 41, Credit: 4}); len(told) != 1 || !same(told[0], want) {
				t.Fatalf("told %+v, want %+v", told, want)
			}
			return
		}
		if now > 20 {
			t.Fatal("nothing is told")
		}
	}
}

// same tells whether two notes are the same.
func same(a, b api.Note) bool {
	if !bytes.Equal(a.Blob, b.Blob) {
		return false
	}
	a.Blob, b.Blob = nil, nil
	return reflect.DeepEqual(a, b)
}

// TestOpenTooMuchCredit: an image of more than its job's ticks, which no desk puts, doesn't count.
func TestOpenTooMuchCredit(t *testing.T) {
	c := plain(1)
	s := formatted(t, c)
	asked(t, opened(t, s, c, 0), api.Request{Seq: 1, Kind: api.Submit, K: 1, W: 9})
	put(t, s, c, image.Image{Job: 1, Ver: 1, Credit: 10, Blobs: [][]byte{nil}})
	d := opened(t, s, c, 0)
	if j, ok := d.Table().Job(1); !ok || j.State != api.Queued || j.Credit != 0 || len(d.Brain().Jobs()) != 1 {
		t.Errorf("%+v", j)
	}
}

// TestOpenErrors: the scroll's errors, and ErrDown wherever the power goes.
func TestOpenErrors(t *testing.T) {
	c := plain(1)
	if d, e := desk.Open(blank(t, c), c, 0); e != api.ErrForm || d != nil {
		t.Error("of a slab that isn't formatted: error", e)
	}
	off := formatted(t, c)
	off.Arm(1)
	off.Flush()
	if d, e := desk.Open(off, c, 0); e != api.ErrDown || d != nil {
		t.Error("with the power off: error", e)
	}
	for n := 1; n < 20; n++ {
		s := formatted(t, c)
		d := opened(t, s, c, 0)
		asked(t, d, api.Request{Seq: 1, Kind: api.Submit, K: 1, W: 9})
		put(t, s, c, image.Image{Job: 1, Ver: 1, Credit: 9, Blobs: [][]byte{nil}}) // it is to be Done
		put(t, s, c, image.Image{Job: 2, Ver: 1, Credit: 3, Blobs: [][]byte{nil}}) // and that one to be dropped
		s.Arm(n)
		d, e := desk.Open(s, c, 0)
		if e == api.OK && n > 8 {
			return
		}
		if e != api.ErrDown || d != nil {
			t.Fatalf("step %d: error %d", n, e)
		}
		s.Crash(nil, 0)
		d = opened(t, s, c, 0)
		if j, ok := d.Table().Job(1); !ok || j.State != api.Done || len(storeOf(t, s, c).List()) != 0 {
			t.Fatalf("step %d: %+v", n, j)
		}
	}
	t.Error("the power never stays")
}
