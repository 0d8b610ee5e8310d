package brain_test

import (
	"slices"
	"testing"

	"quadrille/api"
	"quadrille/brain"
)

// TestImageWaitsForAll: it isn't told ahead of what all ranks say.
func TestImageWaitsForAll(t *testing.T) {
	w := made(t, brain.Config{Nodes: 3, Rows: 1, Quantum: 9, Grace: 3}, 0)
	w.lost(0)
	w.add(api.Job{ID: 4, K: 2, W: 9, Credit: 3}, 7)
	w.until("Saved of the first", w.says(1, api.Saved))
	if l := w.b.Images(); len(l) > 0 {
		t.Fatalf("%+v, and none was heard", l)
	}
	w.hear(1)
	if l := w.b.Images(); len(l) > 0 {
		t.Fatalf("%+v, and just one was heard", l)
	}
	keeps(t, w.b, "Published of what wasn't told", api.ErrNone, func() api.Errno { return w.b.Published(4, 8, true) })
	w.hear(2)
	keeps(t, w.b, "Published of what wasn't told", api.ErrNone, func() api.Errno { return w.b.Published(4, 8, true) })
}

// TestImage: it has the version that comes next, the job's work, and what all ranks have said, by their numbers; it is told once, and the credit is what is published.
func TestImage(t *testing.T) {
	w := made(t, two(), 0)
	w.add(api.Job{ID: 4, K: 2, W: 5, Credit: 3}, 7)
	w.until("Saved of both", func() bool { return w.says(0, api.Saved)() && w.says(1, api.Saved)() })
	w.hear(1)
	w.hear(0)
	l := w.b.Images()
	if len(l) != 1 || l[0].Job != 4 || l[0].Ver != 8 || l[0].Credit != 5 || len(l[0].Blobs) != 2 ||
		!slices.Equal(l[0].Blobs[0], blob(4, 8, 5, 0)) || !slices.Equal(l[0].Blobs[1], blob(4, 8, 5, 1)) {
		t.Fatalf("%+v", l)
	}
	if l := w.b.Images(); len(l) > 0 {
		t.Fatalf("again: %+v", l)
	}
	if j, _ := w.b.Job(4); j.Credit != 3 {
		t.Fatalf("%+v, and nothing more was published", j)
	}
	keeps(t, w.b, "Published of an older version", api.ErrNone, func() api.Errno { return w.b.Published(4, 7, true) })
	keeps(t, w.b, "Published of a newer version", api.ErrNone, func() api.Errno { return w.b.Published(4, 9, true) })
	keeps(t, w.b, "Published of another job", api.ErrNone, func() api.Errno { return w.b.Published(3, 8, true) })
	if e := w.b.Published(4, 8, true); e != api.OK {
		t.Fatalf("Published: error %d", e)
	}
	if j, _ := w.b.Job(4); j.Credit != 5 || j.State != api.Leaving {
		t.Fatalf("%+v, and all was published", j)
	}
	if l := w.b.Done(); !slices.Equal(l, []uint32{4}) || len(w.b.Done()) > 0 {
		t.Fatalf("done %v", l)
	}
}

// TestDoneIsKnown: who is Done is known till no node has a rank of it.
func TestDoneIsKnown(t *testing.T) {
	w := toPublish(t)
	w.publish(true)
	w.until("Dropped", func() bool { return w.says(0, api.Dropped)() && w.says(1, api.Dropped)() })
	for node := range 2 {
		if s, known := w.state(1); !known || s != api.Leaving {
			t.Fatalf("state %d, known: %v", s, known)
		}
		w.hear(node)
	}
	if _, known := w.state(1); known || !w.isDone(1)() {
		t.Fatal("known still, or not Done")
	}
	w.add(api.Job{ID: 1, K: 1, W: 1}, 1) // its number may be used anew
	w.until("Done", func() bool { return len(w.done) == 2 })
}

// TestNotPublished: the image is asked for again, but later: behind a Tick.
func TestNotPublished(t *testing.T) {
	w := toPublish(t)
	for range 5 {
		w.publish(false)
		if j, _ := w.b.Job(1); j.Credit != 0 || j.State != api.Placed {
			t.Fatalf("%+v, and nothing was published", j)
		}
		now := w.now
		w.until("an image", func() bool { return len(w.images) > 0 })
		if w.now == now {
			t.Fatal("asked for again at once")
		}
	}
	w.until("Done", w.isDone(1))
}

// TestNotPublishedRunsOn: who has ticks to run yet isn't kept from it by images that aren't published.
func TestNotPublishedRunsOn(t *testing.T) {
	w := made(t, brain.Config{Nodes: 1, Rows: 1, Quantum: 2, Grace: 3}, 0)
	w.add(api.Job{ID: 1, K: 1, W: 12}, 0)
	for {
		w.until("an image", func() bool { return len(w.images) > 0 })
		if w.images[0].credit == 12 {
			break
		}
		w.publish(false)
	}
	w.until("Done", w.isDone(1))
}

// TestImageOfLost: what one rank hasn't said when its node is lost makes no image; what was told may be published yet.
func TestImageOfLost(t *testing.T) {
	w := made(t, two(), 0)
	w.add(api.Job{ID: 1, K: 2, W: 4}, 0)
	w.until("Saved", w.says(1, api.Saved))
	w.hear(0)
	w.lost(1)
	w.up(1)
	w.calm()
	if j, known := w.b.Job(1); !known || j.Credit != 0 || j.State != api.Queued {
		t.Fatalf("%+v, %v", j, known)
	}
	w.until("Done", w.isDone(1))

	w = toPublish(t)
	w.lost(0)
	w.publish(true) // the world has its work be the credit
	w.until("no more known", func() bool { return len(w.b.Jobs()) == 0 })
	if !w.isDone(1)() {
		t.Fatal("all of it was published, and it isn't Done")
	}
}

// TestImageNotTold: what wasn't told when a node was lost isn't told any more: its credit would be above the work.
func TestImageNotTold(t *testing.T) {
	w := made(t, two(), 0)
	w.add(api.Job{ID: 1, K: 2, W: 4}, 0)
	w.until("Saved", func() bool { return w.says(0, api.Saved)() && w.says(1, api.Saved)() })
	w.hear(0)
	w.hear(1)
	w.lost(0)
	if l := w.b.Images(); len(l) > 0 {
		t.Fatalf("%+v", l)
	}
	w.up(0)
	w.until("Done", w.isDone(1))
}

// TestBlobIsKept: what a node said is what is told, whatever becomes of its bytes, or of those that were told before.
func TestBlobIsKept(t *testing.T) {
	w := made(t, two(), 0)
	w.add(api.Job{ID: 1, K: 2, W: 4}, 0)
	w.until("Saved", func() bool { return w.says(0, api.Saved)() && w.says(1, api.Saved)() })
	p := slices.Grow([]byte{1, 2, 3}, 10)
	for node := range 2 {
		n := api.Note{Kind: api.Saved, Job: 1, Ver: 1, Rank: byte(node), Blob: p}
		if e := w.b.Hear(node, n); e != api.OK {
			t.Fatalf("Hear: error %d", e)
		}
		clear(p[:cap(p)])
		p[0] = 9
	}
	l := w.b.Images()
	if len(l) != 1 || !slices.Equal(l[0].Blobs[0], []byte{1, 2, 3}) || !slices.Equal(l[0].Blobs[1], []byte{9, 0, 0}) {
		t.Fatalf("%+v", l)
	}
}

// TestEmptyBlob: nothing is something that may be said, too.
func TestEmptyBlob(t *testing.T) {
	w := made(t, two(), 0)
	w.add(api.Job{ID: 1, K: 1, W: 4}, 0)
	w.until("Saved", w.says(0, api.Saved))
	w.nodes[0].out[0].Blob = nil
	w.until("Done", w.isDone(1))
}
