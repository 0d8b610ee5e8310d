package desk_test

import (
	"bytes"
	"slices"
	"testing"

	"quadrille/api"
	"quadrille/brain"
	"quadrille/desk"
	"quadrille/hand"
	"quadrille/scroll"
)

// TestDone: a job comes to its end by hands, with images on the way, and is Done, in the table and on the disk.
func TestDone(t *testing.T) {
	w := made(t, plain(3))
	w.submit(1, 2, 8)
	seen := map[byte]bool{}
	credits := []int{0}
	for w.job(1).State != api.Done {
		j := w.job(1)
		seen[j.State] = true
		if j.Credit != credits[len(credits)-1] {
			credits = append(credits, j.Credit)
		}
		x, e := w.store().Get(1)
		if (e == api.OK) != (j.Credit > 0) || e == api.OK && (x.Credit != j.Credit || len(x.Blobs) != 2) {
			t.Fatalf("tick %d: %+v, image %+v, error %d", w.now, j, x, e)
		}
		for rank, p := range x.Blobs {
			if !bytes.Equal(p, hand.Blob(1, byte(rank), x.Credit)) {
				t.Fatalf("the blob of rank %d is %x", rank, p)
			}
		}
		w.calm(1)
		if w.now > 60 {
			t.Fatalf("%+v", j)
		}
	}
	if !seen[api.Queued] || !seen[api.Placed] || len(credits) < 3 {
		t.Errorf("states %v, credits %v", seen, credits)
	}
	for range 2 {
		if j := w.job(1); j != (api.Job{ID: 1, Tier: 1, K: 2, W: 8, State: api.Done, Credit: 8}) {
			t.Errorf("%+v", j)
		}
		r, e := w.ask(api.Request{Kind: api.Query, Job: 1})
		if e != api.OK || r != (api.Reply{Job: 1, State: api.Done, Credit: 8}) {
			t.Errorf("%+v, error %d", r, e)
		}
		w.reopen()
	}
}

// TestDoneDrops: once a job is Done its image is gone, and its sectors are free for others.
func TestDoneDrops(t *testing.T) {
	c := plain(1)
	c.Images = 3 // room for one image, but not for two
	w := made(t, c)
	for job := uint32(1); job <= 4; job++ {
		w.submit(0, 1, 3)
		w.until("Done", func() bool { return w.job(job).State == api.Done })
		if l := w.store().List(); len(l) > 0 {
			t.Errorf("images of %v", l)
		}
	}
}

// TestStates: behind each call the table's States are the brain's.
func TestStates(t *testing.T) {
	w := made(t, plain(3))
	seen := map[byte]bool{}
	look := func() {
		t.Helper()
		for _, j := range w.d.Table().Active() {
			known, ok := w.d.Brain().Job(j.ID)
			if !ok || known.State != j.State || known.Credit != j.Credit {
				t.Fatalf("tick %d: table %+v, brain %+v", w.now, j, known)
			}
			seen[j.State] = true
		}
	}
	for i := range 150 {
		if i%20 == 5 {
			w.submit(byte(i/20%4), 1+i/20%3, 9)
			look()
		}
		if i == 90 {
			w.cancel(w.d.Table().Active()[0].ID)
			look()
		}
		if i%30 == 20 {
			w.hands[i/30%3].Restart()
		}
		w.tick()
		look()
		for len(w.air) > 0 {
			w.land(0)
			look()
		}
	}
	if len(seen) != 4 {
		t.Errorf("states %v", seen)
	}
}

// saving answers a world of one forged node, whose image was asked for, and what the node was told then.
func saving(t *testing.T, images, ticks int) (*world, *node, api.Note) {
	t.Helper()
	c := plain(1)
	c.Images = images
	w := made(t, c)
	w.submit(0, 1, ticks)
	n := begun(t, w.d, 0, 1)
	from := uint32(0)
	for range 60 {
		w.now++
		w.d.Tick(w.now)
		n.hello()
		for range 3 {
			for _, x := range n.hear(w.d.Out()) {
				switch x.Kind {
				case api.Load:
					n.say(api.Note{Kind: api.Loaded, Job: 1})
				case api.Go:
					from = w.now + 1
				case api.Stop:
					n.say(api.Note{Kind: api.Stopped, Gen: x.Gen, Job: 1, From: from, To: w.now})
				case api.Save:
					return w, n, x
				}
			}
		}
	}
	t.Fatal("no image is asked for")
	return nil, nil, api.Note{}
}

// TestImagesFull: an image for which there is no room isn't published, and is asked for again.
func TestImagesFull(t *testing.T) {
	w, n, save := saving(t, 1, 3)
	saves := 0
	for range 20 {
		n.say(api.Note{Kind: api.Saved, Job: 1, Ver: save.Ver, Blob: []byte("blob")})
		if j := w.job(1); j.State == api.Done || j.Credit != 0 {
			t.Fatalf("%+v", j)
		}
		w.now++
		w.d.Tick(w.now)
		n.hello()
		for _, x := range n.hear(w.d.Out()) {
			if x.Kind == api.Save {
				saves, save = saves+1, x
			}
		}
	}
	if l := w.store().List(); saves < 5 || len(l) > 0 {
		t.Errorf("asked for again %d times, images of %v", saves, l)
	}
}

// TestImagesLong: a blob that finds no room on a sector isn't published, and nothing else comes of it.
func TestImagesLong(t *testing.T) {
	w, n, save := saving(t, 9, 3)
	n.say(api.Note{Kind: api.Saved, Job: 1, Ver: save.Ver, Blob: make([]byte, 104)})
	if j := w.job(1); !w.d.Up() || j.State == api.Done || j.Credit != 0 {
		t.Fatalf("%+v", j)
	}
	for range 9 {
		w.now++
		w.d.Tick(w.now)
		n.hello()
		for _, x := range n.hear(w.d.Out()) {
			if x.Kind == api.Save {
				n.say(api.Note{Kind: api.Saved, Job: 1, Ver: x.Ver, Blob: make([]byte, 103)})
			}
		}
	}
	if j := w.job(1); j.State != api.Done || j.Credit != 3 {
		t.Errorf("%+v", j)
	}
}

// TestQueueFull: orders for which a talk has no room, as its node answers nothing, wait for room, and come in their order.
func TestQueueFull(t *testing.T) {
	w, n, save := saving(t, 1, 3)
	k, _ := n.end.Say(noted(t, api.Note{Kind: api.Saved, Job: 1, Ver: save.Ver}))
	first := k.Ack
	for range api.MaxQueue + 50 { // each is no image, and asked for again
		landed(t, w.d, k)
		k.Seq++
		w.now++
		w.d.Tick(w.now)
		n.hello()
	}
	w.cancel(1)
	for _, o := range w.air { // all that was sent up to then
		if k := unpacked(t, o); k.Epoch != 1 {
			t.Fatalf("%+v is sent", k)
		}
	}
	seq, dropped := first, false
	for range 9 { // all is said again; what it answers now leaves room for what had to wait
		w.now++
		w.d.Tick(w.now)
		n.hello()
		for _, o := range w.d.Out() {
			if k := unpacked(t, o); k.Seq > seq {
				x := unnoted(t, k.Data)
				if k.Seq != seq+1 || dropped || x.Kind != api.Save && x.Kind != api.Drop {
					t.Fatalf("%d behind %d: %+v", k.Seq, seq, x)
				}
				seq++
				dropped = x.Kind == api.Drop
			}
		}
		landed(t, w.d, api.Packet{Epoch: 1, Life: 1, Ack: seq})
	}
	if got := seq - first; got < api.MaxQueue+50 || !dropped {
		t.Errorf("%d things are said", got)
	}
}

// TestQueueLost: what had to wait for room isn't said to the node's next life.
func TestQueueLost(t *testing.T) {
	w, n, save := saving(t, 1, 3)
	k, _ := n.end.Say(noted(t, api.Note{Kind: api.Saved, Job: 1, Ver: save.Ver}))
	for range api.MaxQueue + 50 {
		landed(t, w.d, k)
		k.Seq++
		w.now++
		w.d.Tick(w.now)
		n.hello()
	}
	w.d.Out()
	next := begun(t, w.d, 0, 2)
	w.now++
	w.d.Tick(w.now)
	if told := next.hear(w.d.Out()); !slices.Equal(kinds(told), []byte{api.Load}) {
		t.Errorf("told %+v", told)
	}
}

// TestSaidAtOnce: what comes of a packet is done behind it, as long as there is anything: an image is published, its job is Done, and its node is told to drop it.
func TestSaidAtOnce(t *testing.T) {
	w, n, save := saving(t, 9, 3)
	w.d.Out()
	n.say(api.Note{Kind: api.Saved, Job: 1, Ver: save.Ver, Blob: []byte("blob")})
	if told := n.hear(w.d.Out()); !slices.Equal(kinds(told), []byte{api.Drop}) || w.job(1).State != api.Done {
		t.Errorf("told %+v, %+v", told, w.job(1))
	}
}

// TestPowerGoesInLand: a desk whose power goes under way takes in what came, tells nothing that doesn't last, and is done behind that.
func TestPowerGoesInLand(t *testing.T) {
	for step := 1; step <= 5; step++ { // the image's blob, its flush, its head, the flush; the record
		w, n, save := saving(t, 9, 3)
		w.d.Out()
		w.s.Arm(step)
		n.say(api.Note{Kind: api.Saved, Job: 1, Ver: save.Ver, Blob: []byte("blob")})
		w.s.Crash(nil, 0)
		credit := 0
		if step > 4 {
			credit = 3
		}
		if j := w.job(1); w.d.Up() || j.State == api.Done || j.Credit != credit {
			t.Errorf("step %d: %+v", step, j)
		}
		if e := w.d.Tick(w.now + 1); e != api.ErrDown {
			t.Errorf("step %d: Tick: error %d", step, e)
		}
		if e := w.d.Land(packed(t, hello(t, 0, 1, 2, 0))); e != api.ErrDown {
			t.Errorf("step %d: Land: error %d", step, e)
		}
		w.reopen()
		if j := w.job(1); j.Credit != credit || (j.State == api.Done) != (credit == 3) {
			t.Errorf("step %d: opened: %+v", step, j)
		}
	}
}

// crowded answers a world of so small an area that there is no room any more, once all jobs were submitted: of one tick each.
func crowded(t *testing.T) *world {
	t.Helper()
	w := made(t, desk.Config{Brain: brain.Config{Nodes: 2, Rows: 2, Quantum: 3, Grace: 4}, Size: 2, Images: 60})
	for scroll.Parts([][]byte{w.d.Table().Bytes()})+1 <= 2 {
		w.submit(0, 1, 1)
	}
	return w
}

// TestDoneWithoutRoom: a job for whose being Done there is no room isn't Done, for as long as there is none, and keeps its image.
func TestDoneWithoutRoom(t *testing.T) {
	w := crowded(t)
	n := w.d.Table().Next() - 1
	w.credited(n, 1)
	table := w.d.Table()
	for _, state := range []byte{api.Leaving, api.Queued} { // in which the brain had them last
		w.calm(30)
		if !bytes.Equal(w.d.Table().Bytes(), table.Bytes()) || !w.d.Up() {
			t.Fatal("the table has changed")
		}
		for job := uint32(1); job <= n; job++ {
			if j := w.job(job); j.State != state || j.Credit != 1 {
				t.Errorf("%+v", j)
			}
			if x, e := w.store().Get(job); e != api.OK || x.Credit != 1 {
				t.Errorf("image of %d: %+v, error %d", job, x, e)
			}
		}
		w.reopen()
	}
}
