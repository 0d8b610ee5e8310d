package jobs_test

import (
	"math"
	"slices"
	"testing"

	"quadrille/api"
	"quadrille/ink"
	"quadrille/jobs"
)

// reads answers the table that p is of that many nodes.
func reads(t *testing.T, p []byte, nodes int) *jobs.Table {
	t.Helper()
	x, e := jobs.Read(p, nodes)
	if e != api.OK || x == nil {
		t.Fatalf("Read(% x, %d): error %d", p, nodes, e)
	}
	return x
}

// refusesBytes fails the test unless p is no table's of that many nodes.
func refusesBytes(t *testing.T, what string, p []byte, nodes int) {
	t.Helper()
	if x, e := jobs.Read(p, nodes); x != nil || e != api.ErrForm {
		t.Fatalf("%s: Read(% x, %d): error %d", what, p, nodes, e)
	}
}

// fresh answers the jobs, Queued, with Credit 0.
func fresh(l []api.Job) []api.Job {
	l = slices.Clone(l)
	for i := range l {
		l[i].State, l[i].Credit = api.Queued, 0
	}
	return l
}

// alike fails the test unless y, which was read, is what is to be read of x.
func alike(t *testing.T, x, y *jobs.Table) {
	t.Helper()
	holds(t, y, fresh(x.Active()), x.Over())
	if y.Next() != x.Next() || !slices.Equal(y.Bytes(), x.Bytes()) {
		t.Fatalf("Next %d, Bytes % x; want %d, % x", y.Next(), y.Bytes(), x.Next(), x.Bytes())
	}
}

// mixed answers a table in which there is something of everything.
func mixed(t *testing.T) *jobs.Table {
	t.Helper()
	x := made(t, 4)
	a, b, c := &asker{t: t, table: x}, &asker{t: t, table: x, client: 3}, &asker{t: t, table: x, client: 7}
	a.does(api.Request{Kind: api.Submit, Tier: 3, K: 4, W: 10000})
	b.submits(2, 300)
	a.submits(1, 1)
	b.submits(3, 5)
	answers(t, "Finish", x.Finish(3), api.OK)
	answers(t, "Credit", x.Credit(2, 200), api.OK)
	c.cancels(2)
	answers(t, "State", x.State(1, api.Placed), api.OK)
	answers(t, "Credit", x.Credit(1, 17), api.OK)
	return x
}

func TestReadIsTheSame(t *testing.T) {
	alike(t, made(t, 4), reads(t, made(t, 4).Bytes(), 4))
	x := mixed(t)
	y := reads(t, x.Bytes(), 4)
	alike(t, x, y)
	for client, want := range map[byte]api.Reply{0: {Seq: 2, Job: 3}, 3: {Client: 3, Seq: 2, Job: 4}, 7: {Client: 7, Seq: 1, Job: 2}} {
		repeats(t, y, api.Request{Client: client, Seq: want.Seq, Kind: api.Cancel}, want)
		refuses(t, y, api.Request{Client: client, Seq: want.Seq + 2, Kind: api.Cancel}, api.ErrOrder)
	}
	refuses(t, y, api.Request{Client: 1, Seq: 2, Kind: api.Cancel, Job: 1}, api.ErrOrder)
	repeats(t, y, api.Request{Kind: api.Query, Job: 1}, api.Reply{Job: 1})
	repeats(t, y, api.Request{Kind: api.Query, Job: 2}, api.Reply{Job: 2, State: api.Cancelled, Credit: 200})
	refuses(t, y, api.Request{Seq: 3, Kind: api.Submit, K: 5, W: 1}, api.ErrWide)
	if job := (&asker{t: t, table: y, client: 1}).submits(4, 1); job != 5 {
		t.Fatalf("job %d", job)
	}
	alike(t, x, reads(t, x.Bytes(), 4))
}

// TestStatesAndCreditsOfActiveJobs aren't in the bytes, those of jobs that are over are.
func TestStatesAndCreditsOfActiveJobs(t *testing.T) {
	x := made(t, 4)
	a := &asker{t: t, table: x}
	a.submits(2, 5)
	a.submits(2, 5)
	before := x.Bytes()
	answers(t, "State", x.State(1, api.Leaving), api.OK)
	answers(t, "Credit", x.Credit(2, 5), api.OK)
	if !slices.Equal(x.Bytes(), before) {
		t.Fatalf("Bytes: % x, were % x", x.Bytes(), before)
	}
	y := x.Copy()
	answers(t, "Credit", y.Credit(1, 1), api.OK)
	for _, z := range []*jobs.Table{x, y} {
		(&asker{t: t, table: z, seq: 2}).cancels(1)
	}
	if slices.Equal(x.Bytes(), y.Bytes()) {
		t.Fatal("the Credit of a job that is Cancelled isn't in the bytes")
	}
	alike(t, y, reads(t, y.Bytes(), 4))
}

// TestHowMuchRoom: a new table has at most 100 bytes, each job 20 more, each client that has asked 12 more.
func TestHowMuchRoom(t *testing.T) {
	const least = math.MaxUint32 - 200
	x := greatest(t, least)
	bound := 100 + 20*(len(x.Active())+len(x.Over())) + 12
	for client := range byte(api.MaxClients) {
		a := &asker{t: t, table: x, client: client}
		if client == 0 {
			a.seq = least
		} else {
			bound += 12
		}
		for range 8 {
			a.does(api.Request{Kind: api.Submit, Tier: 3, K: 16, W: 10000})
			bound += 20
			if len(x.Bytes()) > bound {
				t.Fatalf("%d bytes, want %d at most", len(x.Bytes()), bound)
			}
		}
	}
	for len(x.Active()) > 1 {
		job := x.Active()[0].ID
		answers(t, "Credit", x.Credit(job, 10000), api.OK)
		(&asker{t: t, table: x, client: 7, seq: uint32(72 - len(x.Active()))}).cancels(job)
		if n := 100 + 20*(len(x.Active())+len(x.Over())) + 12*api.MaxClients; len(x.Bytes()) > n {
			t.Fatalf("%d bytes, want %d at most", len(x.Bytes()), n)
		}
	}
	if n := len(made(t, 16).Bytes()); n == 0 || n > 100 {
		t.Fatalf("a new table has %d bytes", n)
	}
}

// greatest answers a table of 16 nodes whose client 0 has submitted so many jobs, all of which are Done.
func greatest(t *testing.T, last uint32) *jobs.Table {
	t.Helper()
	p := ink.New()
	p.Num(uint64(last))
	p.Num(0)
	for i := range uint32(api.MaxJobs) {
		numbers(p, uint64(last-api.MaxJobs+1+i), 0, 1, 1, 1)
	}
	numbers(p, uint64(last), uint64(last), 0, 0, 0, 0, 0, 0, 0)
	return reads(t, p.Bytes(), 16)
}

// numbers writes those.
func numbers(p *ink.Pen, l ...uint64) {
	for _, n := range l {
		p.Num(n)
	}
}

// TestTheLastNumber: behind the job 2^32 - 1 there is no other one, and behind the request 2^32 - 1 of a client none of it.
func TestTheLastNumber(t *testing.T) {
	const most = math.MaxUint32
	x := greatest(t, most-1)
	a := &asker{t: t, table: x, seq: most - 1}
	if x.Next() != most || a.submits(1, 1) != most || x.Next() != 0 {
		t.Fatalf("Next: %d", x.Next())
	}
	alike(t, x, reads(t, x.Bytes(), 16))
	refuses(t, x, api.Request{Client: 1, Seq: 1, Kind: api.Submit, K: 1, W: 1}, api.ErrFull)
	refuses(t, x, api.Request{Client: 1, Seq: 1, Kind: api.Submit, K: 17, W: 1}, api.ErrWide)
	refuses(t, x, api.Request{Seq: 0, Kind: api.Submit, K: 1, W: 1}, api.ErrArg)
	refuses(t, x, api.Request{Seq: 1, Kind: api.Submit, K: 1, W: 1}, api.ErrStale)
	repeats(t, x, api.Request{Seq: most, Kind: api.Submit, K: 1, W: 1}, api.Reply{Seq: most, Job: most})
	(&asker{t: t, table: x, client: 1}).cancels(most)
	alike(t, x, reads(t, x.Bytes(), 16))
	refuses(t, x, api.Request{Client: 2, Seq: 1, Kind: api.Submit, K: 1, W: 1}, api.ErrFull)
}

func TestReadOfNoNodes(t *testing.T) {
	for _, nodes := range []int{math.MinInt, -1, 0, 17, math.MaxInt} {
		for _, p := range [][]byte{nil, made(t, 4).Bytes(), {0xff}} {
			if x, e := jobs.Read(p, nodes); x != nil || e != api.ErrArg {
				t.Errorf("Read(% x, %d): %v, error %d", p, nodes, x, e)
			}
		}
	}
}

// TestReadOfOtherNodes: a table of so many nodes has no wider job, be it active or over.
func TestReadOfOtherNodes(t *testing.T) {
	x := made(t, 8)
	a := &asker{t: t, table: x}
	a.submits(3, 1)
	for nodes := 1; nodes <= api.MaxNodes; nodes++ {
		if nodes < 3 {
			refusesBytes(t, "too wide a job", x.Bytes(), nodes)
		} else {
			alike(t, x, reads(t, x.Bytes(), nodes))
		}
	}
	answers(t, "Finish", x.Finish(1), api.OK)
	refusesBytes(t, "too wide a job that is over", x.Bytes(), 2)
	alike(t, x, reads(t, x.Bytes(), 3))
}

func TestReadOfFrontsAndMore(t *testing.T) {
	for _, x := range []*jobs.Table{made(t, 4), mixed(t)} {
		p := x.Bytes()
		for n := range p {
			refusesBytes(t, "a front", p[:n], 4)
		}
		for _, b := range []byte{0, 1, 0x80, 0xff} {
			refusesBytes(t, "a byte behind", append(slices.Clone(p), b), 4)
		}
		refusesBytes(t, "twice", append(slices.Clone(p), p...), 4)
	}
	refusesBytes(t, "nothing", nil, 4)
}

// TestReadOfOtherBytes: what is read has just these bytes; a byte that is another one makes another table, or none.
func TestReadOfOtherBytes(t *testing.T) {
	p := mixed(t).Bytes()
	for i := range p {
		for b := range 256 {
			q := slices.Clone(p)
			q[i] = byte(b)
			before := slices.Clone(q)
			x, e := jobs.Read(q, 4)
			if !slices.Equal(q, before) {
				t.Fatal("what was handed in is changed")
			}
			if e != api.OK {
				refusesBytes(t, "another byte", q, 4)
			} else if !slices.Equal(x.Bytes(), q) {
				t.Fatalf("read of % x: % x", q, x.Bytes())
			}
		}
	}
}

// TestReadKeepsNothing: who writes over the bytes does nothing to the table.
func TestReadKeepsNothing(t *testing.T) {
	x := mixed(t)
	p := x.Bytes()
	y := reads(t, p, 4)
	for i := range p {
		p[i] = 0xff
	}
	alike(t, x, y)
}

// FuzzRead: bytes are refused, or are just those of what is read.
func FuzzRead(f *testing.F) {
	x, _ := jobs.New(4)
	f.Add(x.Bytes())
	for seq := range uint32(5) {
		x.Do(api.Request{Seq: seq + 1, Kind: api.Submit, K: 1 + int(seq)%4, W: 300})
		x.Do(api.Request{Client: 1, Seq: seq/2 + 1, Kind: api.Cancel, Job: seq})
		f.Add(x.Bytes())
	}
	f.Fuzz(func(t *testing.T, p []byte) {
		for _, nodes := range []int{1, 4, 16} {
			x, e := jobs.Read(p, nodes)
			if e == api.OK {
				holds(t, x, fresh(x.Active()), x.Over())
				if !slices.Equal(x.Bytes(), p) {
					t.Fatalf("read of % x: % x", p, x.Bytes())
				}
			} else if x != nil || e != api.ErrForm {
				t.Fatalf("Read(% x): %v, error %d", p, x, e)
			}
		}
	})
}
