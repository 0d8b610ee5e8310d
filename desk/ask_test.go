package desk_test

import (
	"bytes"
	"math/rand"
	"slices"
	"testing"

	"quadrille/api"
	"quadrille/brain"
	"quadrille/desk"
	"quadrille/jobs"
	"quadrille/note"
	"quadrille/scroll"
)

// noRequests answers bytes that are no request, with the errors of reading them.
func noRequests(t *testing.T) map[string]api.Errno {
	t.Helper()
	right, _ := note.Request(api.Request{Seq: 1, Kind: api.Submit, K: 1, W: 1})
	turned := bytes.Clone(right)
	turned[3] ^= 4
	long := []byte{1, 8 + api.MaxBytes>>8}
	return map[string]api.Errno{
		"":                                  api.ErrShort,
		"a":                                 api.ErrShort,
		string(right[:len(right)-1]):        api.ErrShort,
		string(long):                        api.ErrLong,
		string(turned):                      api.ErrSum,
		string(append(right, 0)):            api.ErrForm,
		string(noted(t, api.Note{Kind: 1})): api.ErrForm,
	}
}

func TestAskWrongBytes(t *testing.T) {
	w := made(t, plain(2))
	was := w.d.Table().Bytes()
	for _, when := range []string{"up", "down"} {
		for p, want := range noRequests(t) {
			if b, e := w.d.Ask([]byte(p)); e != want || len(b) > 0 {
				t.Errorf("%s: Ask(%x): %x, error %d, want %d", when, p, b, e, want)
			}
		}
		if !bytes.Equal(w.d.Table().Bytes(), was) {
			t.Error("the table has changed")
		}
		w.s.Arm(1)
		w.s.Flush()
	}
}

// chance answers a request, which may be any; mostly it is its client's next.
func chance(r *rand.Rand, seqs [api.MaxClients]uint32, jobs int) api.Request {
	q := api.Request{Client: byte(r.Intn(api.MaxClients)), Kind: byte(api.Submit + r.Intn(3))}
	q.Seq = seqs[q.Client] + 1
	if r.Intn(6) == 0 {
		q.Seq = uint32(r.Intn(5))
	}
	if q.Kind == api.Submit {
		q.Tier, q.K, q.W = byte(r.Intn(5)), r.Intn(5), r.Intn(12)
		if r.Intn(8) == 0 {
			q.W = 9990 + r.Intn(20)
		}
	} else {
		q.Job = uint32(r.Intn(jobs + 2))
	}
	return q
}

// TestAskAsTheTable: what is answered is what a table alone answers, and what was done is there behind each opening.
func TestAskAsTheTable(t *testing.T) {
	for seed := range int64(12) {
		r := rand.New(rand.NewSource(seed))
		w := made(t, desk.Config{Brain: brain.Config{Nodes: 3, Rows: 2, Quantum: 3, Grace: 4}, Size: 8 + r.Intn(30), Images: 9})
		model, _ := jobs.New(3)
		for step := range 600 {
			q := chance(r, w.seqs, int(model.Next()))
			want, done := model.Do(q)
			got, e := w.ask(q)
			if e != api.OK || got != want {
				if got.E != api.ErrState || !done {
					t.Fatalf("seed %d, step %d: %+v: %+v, error %d, want %+v", seed, step, q, got, e, want)
				}
				model = w.d.Table() // there was no room
				continue
			}
			if done {
				w.seqs[q.Client] = q.Seq
			}
			if r.Intn(30) == 0 {
				w.reopen()
			}
			if !bytes.Equal(w.d.Table().Bytes(), model.Bytes()) {
				t.Fatalf("seed %d, step %d: %+v: the table is %x, want %x", seed, step, q, w.d.Table().Bytes(), model.Bytes())
			}
		}
		var active []uint32
		for _, j := range model.Active() {
			active = append(active, j.ID)
		}
		if l := w.d.Brain().Jobs(); !slices.Equal(l, active) {
			t.Fatalf("seed %d: the brain knows %v, active are %v", seed, l, active)
		}
	}
}

// TestAskTwice: the same request is answered the same, and done once, behind a crash too.
func TestAskTwice(t *testing.T) {
	w := made(t, plain(2))
	q := api.Request{Client: 3, Seq: 1, Kind: api.Submit, Tier: 1, K: 2, W: 7}
	first, _ := w.ask(q)
	steps := w.s.Steps()
	again, e := w.ask(q)
	if e != api.OK || again != first || first.Job != 1 || w.d.Table().Next() != 2 || w.s.Steps() != steps {
		t.Errorf("%+v, then %+v, error %d", first, again, e)
	}
	w.reopen()
	again, e = w.ask(q)
	if e != api.OK || again != first || w.d.Table().Next() != 2 || len(w.d.Brain().Jobs()) != 1 {
		t.Errorf("%+v, then %+v, error %d", first, again, e)
	}
}

// TestAskMemory: the caller may write over what it has handed in, and what it was answered.
func TestAskMemory(t *testing.T) {
	w := made(t, plain(2))
	p, _ := note.Request(api.Request{Seq: 1, Kind: api.Submit, K: 2, W: 7})
	was := bytes.Clone(p)
	b, _ := w.d.Ask(p)
	if !bytes.Equal(p, was) {
		t.Error("the request has changed")
	}
	clear(p)
	clear(b[:cap(b)])
	w.reopen()
	if j := w.job(1); j.K != 2 || j.W != 7 {
		t.Errorf("%+v", j)
	}
}

// TestAskKnown: what is submitted the brain knows, and what is cancelled it doesn't any more.
func TestAskKnown(t *testing.T) {
	w := made(t, plain(2))
	w.submit(2, 2, 7)
	w.submit(0, 1, 3)
	want := api.Job{ID: 1, Tier: 2, K: 2, W: 7}
	if j, ok := w.d.Brain().Job(1); !ok || j != want {
		t.Errorf("%+v, want %+v", j, want)
	}
	w.cancel(1)
	if l := w.d.Brain().Jobs(); len(l) != 1 || l[0] != 2 {
		t.Errorf("the brain knows %v", l)
	}
}

// TestAskCancel: a job that runs is cancelled: its nodes are told, its image is gone at once, its credit stays, behind a crash too.
func TestAskCancel(t *testing.T) {
	w := made(t, plain(2))
	job := w.submit(0, 2, 60)
	w.submit(0, 1, 60)
	w.credited(job, 3)
	credit := w.job(job).Credit
	w.cancel(job)
	if _, e := w.store().Get(job); e != api.ErrNone {
		t.Error("there is an image yet: error", e)
	}
	if len(w.air) == 0 {
		t.Error("no node is told")
	}
	want := api.Job{ID: job, K: 2, W: 60, State: api.Cancelled, Credit: credit}
	if j := w.job(job); j != want {
		t.Errorf("%+v, want %+v", j, want)
	}
	bytesOf := w.d.Table().Bytes()
	for range 2 {
		w.reopen()
		if j := w.job(job); j != want || !bytes.Equal(w.d.Table().Bytes(), bytesOf) {
			t.Errorf("opened again: %+v, want %+v", j, want)
		}
	}
	w.until("known no more", func() bool { return !slices.Contains(w.d.Brain().Jobs(), job) })
	w.calm(3)
	for node, h := range w.hands {
		for _, r := range h.Ranks() {
			if r.Job == job {
				t.Errorf("node %d has a rank of it", node)
			}
		}
	}
}

// TestAskDown: a desk that isn't up replies to nothing, a Query neither.
func TestAskDown(t *testing.T) {
	w := made(t, plain(2))
	w.submit(0, 1, 3)
	w.s.Arm(1)
	w.s.Flush()
	for range 2 {
		for _, q := range []api.Request{
			{Kind: api.Query, Job: 1}, {Seq: 1, Kind: api.Submit, K: 1, W: 3}, {Seq: 2, Kind: api.Submit, K: 1, W: 3}, {Seq: 9, Kind: api.Cancel, Job: 4},
		} {
			if r, e := w.ask(q); e != api.ErrDown {
				t.Errorf("%+v: %+v, error %d", q, r, e)
			}
		}
		if w.d.Up() {
			t.Error("it is up")
		}
		w.s.Crash(nil, 0) // the power is back, but for another desk
	}
}

// TestAskDownForGood: what has answered ErrDown isn't up when the power is back, though nobody asked in between.
func TestAskDownForGood(t *testing.T) {
	for n := 1; n <= 4; n++ {
		w := made(t, plain(2))
		w.submit(0, 1, 50)
		w.credited(1, 3)
		w.s.Arm(n)
		if r, e := w.ask(api.Request{Seq: 2, Kind: api.Cancel, Job: 1}); e != api.ErrDown {
			t.Errorf("step %d: %+v, error %d", n, r, e)
		}
		w.s.Crash(nil, 0)
		if r, e := w.ask(api.Request{Kind: api.Query, Job: 1}); e != api.ErrDown || w.d.Up() {
			t.Errorf("step %d: %+v, error %d", n, r, e)
		}
	}
}

// TestAskNoRoom: where there is no room, with a snapshot either, the reply says so, and nothing is done.
func TestAskNoRoom(t *testing.T) {
	for size, most := range []int{1: 0, 2: 20, 3: 40} {
		if size == 0 {
			continue
		}
		w := made(t, desk.Config{Brain: brain.Config{Nodes: 2, Rows: 2, Quantum: 3, Grace: 4}, Size: size, Images: 9})
		for scroll.Parts([][]byte{w.d.Table().Bytes()})+1 <= size {
			w.submit(0, 1, 1000)
		}
		if n := int(w.seqs[0]); n < most/2 || n > most {
			t.Errorf("size %d: %d jobs", size, n)
		}
		table, steps, known := w.d.Table(), w.s.Steps(), w.d.Brain().Jobs()
		for _, q := range []api.Request{
			{Seq: w.seqs[0] + 1, Kind: api.Submit, K: 1, W: 1},
			{Client: 7, Seq: 1, Kind: api.Submit, K: 2, W: 10000},
			{Client: 5, Seq: 1, Kind: api.Cancel, Job: 1},
		} {
			want := api.Reply{Client: q.Client, Seq: q.Seq, E: api.ErrState}
			if _, known := table.Job(1); q.Kind == api.Cancel && !known {
				want.E = api.ErrNone
			}
			if r, e := w.ask(q); e != api.OK || r != want {
				t.Errorf("size %d: %+v: %+v, error %d, want %+v", size, q, r, e, want)
			}
		}
		want, _ := table.Do(api.Request{Kind: api.Query, Job: 1})
		if r, e := w.ask(api.Request{Kind: api.Query, Job: 1}); e != api.OK || r != want {
			t.Errorf("size %d: %+v, error %d, want %+v", size, r, e, want)
		}
		if !bytes.Equal(w.d.Table().Bytes(), table.Bytes()) || w.s.Steps() != steps || !slices.Equal(w.d.Brain().Jobs(), known) || !w.d.Up() {
			t.Errorf("size %d: something has changed", size)
		}
		w.reopen()
		if !bytes.Equal(w.d.Table().Bytes(), table.Bytes()) {
			t.Errorf("size %d: opened again it is another", size)
		}
	}
}

// TestAskCompacts: as many requests are done as clients like, as long as the table has room.
func TestAskCompacts(t *testing.T) {
	w := made(t, desk.Config{Brain: brain.Config{Nodes: 2, Rows: 2, Quantum: 3, Grace: 4}, Size: 9, Images: 9})
	for range 200 {
		w.cancel(w.submit(0, 1, 5))
	}
	table := w.d.Table()
	w.reopen()
	if !bytes.Equal(w.d.Table().Bytes(), table.Bytes()) || table.Next() != 201 || len(table.Over()) != api.MaxJobs {
		t.Errorf("next %d, over %d", table.Next(), len(table.Over()))
	}
}
