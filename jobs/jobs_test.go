package jobs_test

import (
	"math"
	"slices"
	"testing"

	"quadrille/api"
	"quadrille/jobs"
)

// made answers a table of that many nodes.
func made(t *testing.T, nodes int) *jobs.Table {
	t.Helper()
	x, e := jobs.New(nodes)
	if e != api.OK || x == nil {
		t.Fatalf("New(%d): error %d", nodes, e)
	}
	return x
}

// asker asks a table as one client, each request under the next number.
type asker struct {
	t      *testing.T
	table  *jobs.Table
	client byte
	seq    uint32
}

// does fails the test unless q is done, and answers the job.
func (a *asker) does(q api.Request) uint32 {
	a.t.Helper()
	a.seq++
	q.Client, q.Seq = a.client, a.seq
	r, done := a.table.Do(q)
	if !done || r != (api.Reply{Client: a.client, Seq: a.seq, Job: r.Job}) || r.Job == 0 {
		a.t.Fatalf("Do(%+v): %+v, %v", q, r, done)
	}
	return r.Job
}

// submits has a job more, which asks for that.
func (a *asker) submits(k, w int) uint32 {
	a.t.Helper()
	return a.does(api.Request{Kind: api.Submit, K: k, W: w})
}

// cancels has a job be cancelled.
func (a *asker) cancels(job uint32) {
	a.t.Helper()
	if got := a.does(api.Request{Kind: api.Cancel, Job: job}); got != job {
		a.t.Fatalf("Cancel(%d): %d", job, got)
	}
}

// answers fails the test unless the error is the one that is wanted.
func answers(t *testing.T, what string, got, want api.Errno) {
	t.Helper()
	if got != want {
		t.Fatalf("%s: error %d, want %d", what, got, want)
	}
}

// holds fails the test unless these are active, and those over.
func holds(t *testing.T, x *jobs.Table, active, over []api.Job) {
	t.Helper()
	if got := x.Active(); !slices.Equal(got, active) {
		t.Fatalf("Active: %v, want %v", got, active)
	}
	if got := x.Over(); !slices.Equal(got, over) {
		t.Fatalf("Over: %v, want %v", got, over)
	}
	for _, j := range slices.Concat(active, over) {
		if got, ok := x.Job(j.ID); !ok || got != j {
			t.Fatalf("Job(%d): %v, %v; want %v", j.ID, got, ok, j)
		}
	}
}

// isNone fails the test unless no such job is known.
func isNone(t *testing.T, x *jobs.Table, job uint32) {
	t.Helper()
	if j, ok := x.Job(job); ok || j != (api.Job{}) {
		t.Fatalf("Job(%d): %v, %v", job, j, ok)
	}
	answers(t, "Finish", x.Finish(job), api.ErrNone)
	answers(t, "Credit", x.Credit(job, 0), api.ErrNone)
	answers(t, "Credit below 0", x.Credit(job, -1), api.ErrNone)
	answers(t, "State", x.State(job, api.Placed), api.ErrNone)
}

// isOver fails the test unless the job is over, and stays as it is.
func isOver(t *testing.T, x *jobs.Table, job uint32) {
	t.Helper()
	before, over := x.Active(), x.Over()
	answers(t, "Finish", x.Finish(job), api.ErrOver)
	answers(t, "Credit", x.Credit(job, 0), api.ErrOver)
	answers(t, "Credit below 0", x.Credit(job, -1), api.ErrOver)
	answers(t, "State", x.State(job, api.Queued), api.ErrOver)
	answers(t, "State above Leaving", x.State(job, api.Done), api.ErrArg)
	holds(t, x, before, over)
}

func TestNew(t *testing.T) {
	for _, nodes := range []int{math.MinInt, -1, 0, 17, math.MaxInt} {
		if x, e := jobs.New(nodes); x != nil || e != api.ErrArg {
			t.Errorf("New(%d): %v, error %d", nodes, x, e)
		}
	}
	for nodes := 1; nodes <= api.MaxNodes; nodes++ {
		x := made(t, nodes)
		holds(t, x, nil, nil)
		if x.Next() != 1 {
			t.Errorf("Next of none: %d", x.Next())
		}
		for _, job := range []uint32{0, 1, math.MaxUint32} {
			isNone(t, x, job)
		}
	}
}

func TestTablesAreApart(t *testing.T) {
	x, y := made(t, 4), made(t, 4)
	(&asker{t: t, table: x}).submits(2, 5)
	holds(t, y, nil, nil)
	if y.Next() != 1 {
		t.Errorf("Next: %d", y.Next())
	}
	(&asker{t: t, table: y}).submits(1, 1)
}

func TestFinish(t *testing.T) {
	x := made(t, 4)
	a := &asker{t: t, table: x}
	one, two := a.submits(2, 5), a.submits(4, 7)
	answers(t, "Credit", x.Credit(one, 2), api.OK)
	answers(t, "State", x.State(one, api.Leaving), api.OK)
	answers(t, "Finish", x.Finish(one), api.OK)
	done := api.Job{ID: one, K: 2, W: 5, State: api.Done, Credit: 5}
	holds(t, x, []api.Job{{ID: two, K: 4, W: 7}}, []api.Job{done})
	isOver(t, x, one)
	answers(t, "Finish of one that waits", x.Finish(two), api.OK)
	holds(t, x, nil, []api.Job{done, {ID: two, K: 4, W: 7, State: api.Done, Credit: 7}})
	isNone(t, x, 3)
	isNone(t, x, 0)
	if x.Next() != 3 {
		t.Errorf("Next: %d", x.Next())
	}
}

func TestCredit(t *testing.T) {
	x := made(t, 4)
	a := &asker{t: t, table: x}
	job := a.submits(2, 5)
	j := api.Job{ID: job, K: 2, W: 5}
	for _, c := range []struct {
		n    int
		e    api.Errno
		then int
	}{
		{0, api.OK, 0}, {3, api.OK, 3}, {3, api.OK, 3}, {2, api.ErrStale, 3}, {0, api.ErrStale, 3}, {-1, api.ErrArg, 3},
		{math.MinInt, api.ErrArg, 3}, {6, api.ErrArg, 3}, {math.MaxInt, api.ErrArg, 3}, {5, api.OK, 5}, {4, api.ErrStale, 5}, {6, api.ErrArg, 5},
	} {
		answers(t, "Credit", x.Credit(job, c.n), c.e)
		j.Credit = c.then
		holds(t, x, []api.Job{j}, nil)
	}
	a.cancels(job)
	isOver(t, x, job)
	isNone(t, x, 2)
}

func TestState(t *testing.T) {
	x := made(t, 4)
	a := &asker{t: t, table: x}
	job := a.submits(2, 5)
	j := api.Job{ID: job, K: 2, W: 5}
	for _, state := range []byte{api.Leaving, api.Queued, api.Placed, api.Loading, api.Loading} {
		answers(t, "State", x.State(job, state), api.OK)
		j.State = state
		holds(t, x, []api.Job{j}, nil)
	}
	for _, state := range []byte{api.Done, api.Cancelled, 6, 255} {
		answers(t, "State of a job", x.State(job, state), api.ErrArg)
		answers(t, "State of none", x.State(9, state), api.ErrArg)
		holds(t, x, []api.Job{j}, nil)
	}
	answers(t, "Credit", x.Credit(job, 4), api.OK)
	a.cancels(job)
	j.State, j.Credit = api.Cancelled, 4
	holds(t, x, nil, []api.Job{j})
	isOver(t, x, job)
}

// TestOrderOfTheLists: who is active stands by rising numbers, who is over as it became so.
func TestOrderOfTheLists(t *testing.T) {
	x := made(t, 1)
	a := &asker{t: t, table: x}
	for range 5 {
		a.submits(1, 1)
	}
	answers(t, "Finish", x.Finish(4), api.OK)
	a.cancels(2)
	a.submits(1, 2)
	answers(t, "Finish", x.Finish(3), api.OK)
	holds(t, x, []api.Job{{ID: 1, K: 1, W: 1}, {ID: 5, K: 1, W: 1}, {ID: 6, K: 1, W: 2}}, []api.Job{
		{ID: 4, K: 1, W: 1, State: api.Done, Credit: 1},
		{ID: 2, K: 1, W: 1, State: api.Cancelled},
		{ID: 3, K: 1, W: 1, State: api.Done, Credit: 1},
	})
}

// TestWhoIsOverIsForgotten: the last MaxJobs are known, by when they became over, not by their numbers.
func TestWhoIsOverIsForgotten(t *testing.T) {
	x := made(t, 1)
	a := &asker{t: t, table: x}
	for range api.MaxJobs {
		a.submits(1, 1)
	}
	var want []api.Job
	end := func(job uint32) {
		t.Helper()
		answers(t, "Finish", x.Finish(job), api.OK)
		want = append(want, api.Job{ID: job, K: 1, W: 1, State: api.Done, Credit: 1})
	}
	end(64)
	for range api.MaxJobs - 1 {
		end(a.submits(1, 1))
	}
	if got := x.Over(); !slices.Equal(got, want) || len(got) != api.MaxJobs {
		t.Fatalf("Over: %v", got)
	}
	isOver(t, x, 64)
	end(1)
	isNone(t, x, 64)
	isOver(t, x, 65)
	a.cancels(2)
	isNone(t, x, 65)
	isOver(t, x, 1)
	want = append(want[2:], api.Job{ID: 2, K: 1, W: 1, State: api.Cancelled})
	if got := x.Over(); !slices.Equal(got, want) {
		t.Fatalf("Over: %v, want %v", got, want)
	}
	if len(x.Active()) != 61 {
		t.Fatalf("%d are active", len(x.Active()))
	}
}

// TestCopyIsApart: a copy is the same, and neither knows what is done to the other.
func TestCopyIsApart(t *testing.T) {
	x := made(t, 4)
	a := &asker{t: t, table: x}
	a.submits(2, 5)
	a.submits(3, 6)
	a.submits(1, 9)
	a.cancels(2)
	answers(t, "Credit", x.Credit(1, 3), api.OK)
	answers(t, "State", x.State(3, api.Placed), api.OK)
	active, over, bytes := x.Active(), x.Over(), x.Bytes()
	y := x.Copy()
	holds(t, y, active, over)
	b := &asker{t: t, table: y, seq: a.seq}
	if r, done := y.Do(api.Request{Seq: a.seq, Kind: api.Cancel, Job: 2}); r != (api.Reply{Seq: a.seq, Job: 2}) || done {
		t.Fatalf("asked again of a copy: %v, %v", r, done)
	}
	b.submits(4, 4)
	b.cancels(3)
	answers(t, "Finish", y.Finish(1), api.OK)
	holds(t, x, active, over)
	if !slices.Equal(x.Bytes(), bytes) || x.Next() != 4 || y.Next() != 5 {
		t.Fatalf("what is done to a copy is done to the table: % x, Next %d", x.Bytes(), x.Next())
	}
	active, over = y.Active(), y.Over()
	answers(t, "State", x.State(1, api.Leaving), api.OK)
	answers(t, "Credit", x.Credit(1, 4), api.OK)
	a.cancels(1)
	a.submits(1, 1)
	holds(t, y, active, over)
}

// TestCopiesGoTheirOwnWay: what becomes over behind a copy isn't known to the other, however many are over by then.
func TestCopiesGoTheirOwnWay(t *testing.T) {
	x := made(t, 1)
	a := &asker{t: t, table: x}
	for range 3 * api.MaxJobs / 2 {
		for len(x.Active()) < 3 {
			a.submits(1, 1)
		}
		l := x.Active()
		y := x.Copy()
		answers(t, "Finish", y.Finish(l[1].ID), api.OK)
		active, over := y.Active(), y.Over()
		answers(t, "Finish", x.Finish(l[2].ID), api.OK)
		holds(t, y, active, over)
		active, over = x.Active(), x.Over()
		answers(t, "Finish", y.Finish(l[0].ID), api.OK)
		holds(t, x, active, over)
	}
}

// TestListsAreApart: who writes over an answer, its spare room too, does nothing to the table, nor to another answer.
func TestListsAreApart(t *testing.T) {
	x := made(t, 4)
	a := &asker{t: t, table: x}
	for range 5 {
		a.submits(2, 5)
	}
	a.cancels(2)
	a.cancels(5)
	active, over, bytes := x.Active(), x.Over(), x.Bytes()
	for _, l := range [][]api.Job{x.Active(), x.Over()} {
		l = l[:cap(l)]
		for i := range l {
			l[i] = api.Job{ID: 9}
		}
	}
	p := x.Bytes()
	p = p[:cap(p)]
	for i := range p {
		p[i] = 0xee
	}
	holds(t, x, active, over)
	if !slices.Equal(x.Bytes(), bytes) {
		t.Fatal("Bytes changed")
	}
	wasActive, wasOver := slices.Clone(active), slices.Clone(over)
	a.submits(1, 1)
	a.cancels(1)
	answers(t, "Credit", x.Credit(3, 1), api.OK)
	if !slices.Equal(active, wasActive) || !slices.Equal(over, wasOver) {
		t.Fatal("a list changed behind a call")
	}
}

func TestNil(t *testing.T) {
	var x *jobs.Table
	for _, q := range []api.Request{{}, {Client: 3, Seq: 7, Kind: api.Submit, K: 1, W: 1}, {Client: 200}, {Client: 1, Kind: api.Query, Job: 1}} {
		if r, done := x.Do(q); done || r != (api.Reply{Client: q.Client, Seq: q.Seq, E: api.ErrNone}) {
			t.Errorf("Do(%+v): %+v, %v", q, r, done)
		}
	}
	isNone(t, x, 0)
	isNone(t, x, 1)
	answers(t, "State above Leaving", x.State(1, 200), api.ErrNone)
	holds(t, x, nil, nil)
	if x.Next() != 0 || x.Copy() != nil || x.Bytes() != nil {
		t.Errorf("Next %d, Copy %v, Bytes %v", x.Next(), x.Copy(), x.Bytes())
	}
}
