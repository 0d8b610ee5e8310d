package jobs_test

import (
	"math"
	"slices"
	"testing"

	"quadrille/api"
	"quadrille/jobs"
)

// refuses fails the test unless q is answered that error and nothing beside it, and the table stays as it is.
func refuses(t *testing.T, x *jobs.Table, q api.Request, want api.Errno) {
	t.Helper()
	active, over, next, bytes := x.Active(), x.Over(), x.Next(), x.Bytes()
	if r, done := x.Do(q); done || r != (api.Reply{Client: q.Client, Seq: q.Seq, E: want}) {
		t.Fatalf("Do(%+v): %+v, %v; want error %d", q, r, done, want)
	}
	holds(t, x, active, over)
	if x.Next() != next || !slices.Equal(x.Bytes(), bytes) {
		t.Fatalf("Do(%+v) has changed the table", q)
	}
}

// repeats fails the test unless q is answered that, and nothing is done.
func repeats(t *testing.T, x *jobs.Table, q api.Request, want api.Reply) {
	t.Helper()
	active, over, next, bytes := x.Active(), x.Over(), x.Next(), x.Bytes()
	if r, done := x.Do(q); done || r != want {
		t.Fatalf("Do(%+v): %+v, %v; want %+v", q, r, done, want)
	}
	holds(t, x, active, over)
	if x.Next() != next || !slices.Equal(x.Bytes(), bytes) {
		t.Fatalf("Do(%+v) has changed the table", q)
	}
}

func TestExample(t *testing.T) {
	x := made(t, 4)
	a := &asker{t: t, table: x}
	submit := api.Request{Kind: api.Submit, Tier: 1, K: 2, W: 5}
	if job := a.does(submit); job != 1 {
		t.Fatalf("job %d", job)
	}
	submit.Seq = 1
	repeats(t, x, submit, api.Reply{Seq: 1, Job: 1})
	submit.Seq = 3
	refuses(t, x, submit, api.ErrOrder)
	a.cancels(1)
	refuses(t, x, api.Request{Seq: 3, Kind: api.Cancel, Job: 1}, api.ErrOver)
	if job := a.does(submit); job != 2 || a.seq != 3 {
		t.Fatalf("job %d with Seq %d", job, a.seq)
	}
	holds(t, x, []api.Job{{ID: 2, Tier: 1, K: 2, W: 5}}, []api.Job{{ID: 1, Tier: 1, K: 2, W: 5, State: api.Cancelled}})
}

// TestOfTheForm: what isn't a request at all is refused ahead of all else, also as a client's last one.
func TestOfTheForm(t *testing.T) {
	x := made(t, 4)
	a := &asker{t: t, table: x}
	a.submits(2, 5)
	for _, q := range []api.Request{
		{},
		{Seq: 1},
		{Seq: 1, Kind: 4},
		{Seq: 2, Kind: 255},
		{Client: 8, Seq: 1, Kind: api.Submit, K: 1, W: 1},
		{Client: 255, Kind: api.Query, Job: 1},
		{Seq: 1, Kind: api.Submit, K: 2, W: 5, Job: 1},
		{Seq: 2, Kind: api.Submit, K: -1, W: 5},
		{Seq: 2, Kind: api.Submit, K: 2, W: -1},
		{Kind: api.Submit, K: 2, W: math.MaxInt32 + 1},
		{Seq: 2, Kind: api.Submit, K: math.MaxInt, W: 1},
		{Seq: 1, Kind: api.Cancel, K: 1, Job: 1},
		{Seq: 2, Kind: api.Cancel, W: 1, Job: 1},
		{Seq: 2, Kind: api.Cancel, Tier: 1, Job: 1},
		{Kind: api.Query, Tier: 1, Job: 1},
		{Kind: api.Query, K: -1, Job: 9},
	} {
		refuses(t, x, q, api.ErrForm)
	}
}

// TestQuery: it tells of jobs that are known, whatever its Seq, and is never done.
func TestQuery(t *testing.T) {
	x := made(t, 4)
	a := &asker{t: t, table: x, client: 2}
	a.submits(2, 5)
	a.submits(3, 6)
	a.submits(4, 7)
	answers(t, "Credit", x.Credit(1, 4), api.OK)
	answers(t, "State", x.State(1, api.Placed), api.OK)
	answers(t, "Finish", x.Finish(2), api.OK)
	answers(t, "Credit", x.Credit(3, 6), api.OK)
	a.cancels(3)
	for _, client := range []byte{0, 2, 7} {
		for _, seq := range []uint32{0, 1, 3, 4, 5, 99, math.MaxUint32} {
			for _, r := range []api.Reply{
				{Job: 1, State: api.Placed, Credit: 4},
				{Job: 2, State: api.Done, Credit: 6},
				{Job: 3, State: api.Cancelled, Credit: 6},
			} {
				r.Client, r.Seq = client, seq
				repeats(t, x, api.Request{Client: client, Seq: seq, Kind: api.Query, Job: r.Job}, r)
			}
			for _, job := range []uint32{0, 4, math.MaxUint32} {
				refuses(t, x, api.Request{Client: client, Seq: seq, Kind: api.Query, Job: job}, api.ErrNone)
			}
		}
	}
	a.submits(1, 1)
	(&asker{t: t, table: x}).submits(1, 1)
}

// TestNumbersOfRequests: 0 is none, one below the last is stale, the last one is answered again, the next one is done, others are out of order.
func TestNumbersOfRequests(t *testing.T) {
	x := made(t, 4)
	a := &asker{t: t, table: x, client: 3}
	submit := func(seq uint32) api.Request {
		return api.Request{Client: 3, Seq: seq, Kind: api.Submit, K: 1, W: 1}
	}
	for _, seq := range []uint32{2, 3, math.MaxUint32} {
		refuses(t, x, submit(seq), api.ErrOrder)
	}
	refuses(t, x, submit(0), api.ErrArg)
	a.submits(1, 1)
	refuses(t, x, submit(0), api.ErrArg)
	a.submits(1, 1)
	a.cancels(1)
	for _, seq := range []uint32{1, 2} {
		refuses(t, x, submit(seq), api.ErrStale)
		refuses(t, x, api.Request{Client: 3, Seq: seq, Kind: api.Cancel, Job: 77}, api.ErrStale)
	}
	for _, seq := range []uint32{5, 6, math.MaxUint32} {
		refuses(t, x, submit(seq), api.ErrOrder)
	}
	refuses(t, x, submit(0), api.ErrArg)
	a.submits(1, 1)
}

// TestAskedAgain: a client's last request is answered as it was, whatever it asks now, and whatever has become of the job.
func TestAskedAgain(t *testing.T) {
	x := made(t, 4)
	a := &asker{t: t, table: x, client: 7}
	a.submits(1, 1)
	a.submits(3, 5)
	want := api.Reply{Client: 7, Seq: 2, Job: 2}
	each := func() {
		t.Helper()
		for _, q := range []api.Request{
			{Kind: api.Submit, K: 3, W: 5},
			{Kind: api.Submit, Tier: 9},
			{Kind: api.Submit, K: 17, W: 1},
			{Kind: api.Cancel, Job: 1},
			{Kind: api.Cancel, Job: 99},
		} {
			q.Client, q.Seq = 7, 2
			repeats(t, x, q, want)
		}
	}
	each()
	answers(t, "Credit", x.Credit(2, 3), api.OK)
	answers(t, "State", x.State(2, api.Loading), api.OK)
	each()
	answers(t, "Finish", x.Finish(2), api.OK)
	each()
	a.cancels(1)
	want = api.Reply{Client: 7, Seq: 3, Job: 1}
	repeats(t, x, api.Request{Client: 7, Seq: 3, Kind: api.Cancel, Job: 1}, want)
	repeats(t, x, api.Request{Client: 7, Seq: 3, Kind: api.Submit}, want)
	refuses(t, x, api.Request{Client: 7, Seq: 2, Kind: api.Submit, K: 3, W: 5}, api.ErrStale)
}

// TestAskedAgainOfWhatIsForgotten: what a client was answered is known, even where the job isn't.
func TestAskedAgainOfWhatIsForgotten(t *testing.T) {
	x := made(t, 1)
	a, b := &asker{t: t, table: x, client: 1}, &asker{t: t, table: x, client: 2}
	job := a.submits(1, 1)
	b.cancels(job)
	for range api.MaxJobs {
		answers(t, "Finish", x.Finish((&asker{t: t, table: x, client: 4, seq: x.Next() - 2}).submits(1, 1)), api.OK)
	}
	isNone(t, x, job)
	refuses(t, x, api.Request{Client: 4, Kind: api.Query, Job: job}, api.ErrNone)
	refuses(t, x, api.Request{Client: 2, Seq: 2, Kind: api.Cancel, Job: job}, api.ErrNone)
	repeats(t, x, api.Request{Client: 1, Seq: 1, Kind: api.Cancel}, api.Reply{Client: 1, Seq: 1, Job: job})
	repeats(t, x, api.Request{Client: 2, Seq: 1, Kind: api.Cancel}, api.Reply{Client: 2, Seq: 1, Job: job})
}

// TestClientsAreApart: each has numbers of its own.
func TestClientsAreApart(t *testing.T) {
	x := made(t, 4)
	for client := range byte(api.MaxClients) {
		a := &asker{t: t, table: x, client: client}
		for i := range uint32(client) + 1 {
			if job := a.submits(1, 1); job != x.Next()-1 || a.seq != i+1 {
				t.Fatalf("client %d: job %d, Next %d", client, job, x.Next())
			}
		}
	}
	for client := range byte(api.MaxClients) {
		refuses(t, x, api.Request{Client: client, Seq: uint32(client) + 3, Kind: api.Cancel, Job: 1}, api.ErrOrder)
		if client > 0 {
			refuses(t, x, api.Request{Client: client, Seq: uint32(client), Kind: api.Cancel, Job: 1}, api.ErrStale)
		}
	}
}

// TestSubmit: what may not be asked for, by errors in their order; the number may be used again.
func TestSubmit(t *testing.T) {
	x := made(t, 4)
	for _, c := range []struct {
		tier byte
		k, w int
		want api.Errno
	}{
		{4, 1, 1, api.ErrArg}, {255, 1, 1, api.ErrArg}, {0, 0, 1, api.ErrArg}, {0, 1, 0, api.ErrArg},
		{0, 1, 10001, api.ErrArg}, {0, 1, math.MaxInt32, api.ErrArg}, {0, 5, 0, api.ErrArg}, {0, 5, 10001, api.ErrArg}, {4, 5, 1, api.ErrArg},
		{0, 5, 1, api.ErrWide}, {3, 16, 10000, api.ErrWide}, {0, math.MaxInt32, 1, api.ErrWide},
	} {
		q := api.Request{Seq: 1, Kind: api.Submit, Tier: c.tier, K: c.k, W: c.w}
		refuses(t, x, q, c.want)
		q.Seq = 2
		refuses(t, x, q, api.ErrOrder)
		q.Seq = 0
		refuses(t, x, q, api.ErrArg)
	}
	a := &asker{t: t, table: x}
	for i, j := range []api.Job{{K: 1, W: 1}, {Tier: 3, K: 4, W: 10000}, {Tier: 2, K: 3, W: 128}} {
		if job := a.does(api.Request{Kind: api.Submit, Tier: j.Tier, K: j.K, W: j.W}); job != uint32(i+1) {
			t.Fatalf("job %d", job)
		}
		j.ID = uint32(i + 1)
		if got, ok := x.Job(j.ID); !ok || got != j {
			t.Fatalf("Job: %v, %v; want %v", got, ok, j)
		}
	}
}

func TestSubmitOfOneNodeMore(t *testing.T) {
	for nodes := 1; nodes <= api.MaxNodes; nodes++ {
		x := made(t, nodes)
		refuses(t, x, api.Request{Seq: 1, Kind: api.Submit, K: nodes + 1, W: 1}, api.ErrWide)
		(&asker{t: t, table: x}).submits(nodes, 1)
	}
}

// TestFull: MaxJobs may be active, and those that are over don't count.
func TestFull(t *testing.T) {
	x := made(t, 4)
	a := &asker{t: t, table: x}
	for range api.MaxJobs {
		a.submits(1, 2)
	}
	full := api.Request{Client: a.client, Seq: a.seq + 1, Kind: api.Submit, K: 1, W: 2}
	refuses(t, x, full, api.ErrFull)
	wide, wrong := full, full
	wide.K, wrong.W = 5, 0
	refuses(t, x, wide, api.ErrWide)
	refuses(t, x, wrong, api.ErrArg)
	answers(t, "Finish", x.Finish(9), api.OK)
	if job := a.submits(1, 2); job != 65 {
		t.Fatalf("job %d", job)
	}
	full.Seq = a.seq + 1
	refuses(t, x, full, api.ErrFull)
	a.cancels(65)
	if job := a.submits(1, 2); job != 66 {
		t.Fatalf("job %d", job)
	}
}

func TestCancel(t *testing.T) {
	x := made(t, 4)
	a, b := &asker{t: t, table: x}, &asker{t: t, table: x, client: 5}
	for range 4 {
		a.submits(2, 5)
	}
	cancel := func(job uint32) api.Request {
		return api.Request{Client: 5, Seq: b.seq + 1, Kind: api.Cancel, Job: job}
	}
	for _, job := range []uint32{0, 5, math.MaxUint32} {
		refuses(t, x, cancel(job), api.ErrNone)
	}
	answers(t, "State", x.State(2, api.Leaving), api.OK)
	answers(t, "Credit", x.Credit(2, 3), api.OK)
	answers(t, "Finish", x.Finish(3), api.OK)
	b.cancels(2)
	refuses(t, x, cancel(2), api.ErrOver)
	refuses(t, x, cancel(3), api.ErrOver)
	a.cancels(1)
	holds(t, x, []api.Job{{ID: 4, K: 2, W: 5}}, []api.Job{
		{ID: 3, K: 2, W: 5, State: api.Done, Credit: 5},
		{ID: 2, K: 2, W: 5, State: api.Cancelled, Credit: 3},
		{ID: 1, K: 2, W: 5, State: api.Cancelled},
	})
}
