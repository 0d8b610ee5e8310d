package jobs_test

import (
	"slices"
	"testing"

	"quadrille/api"
	"quadrille/ink"
	"quadrille/jobs"
)

// sheet is a table's numbers, as its bytes have them: how many jobs there were, the active ones and the others, and of each client how often it asked, and the job it asked for last.
type sheet struct {
	last    uint64
	active  [][4]uint64
	over    [][]uint64
	clients [][2]uint64 // the others haven't asked
}

// bytes answers the bytes.
func (s sheet) bytes() []byte {
	p := ink.New()
	numbers(p, s.last, uint64(len(s.active)))
	for _, j := range s.active {
		numbers(p, j[:]...)
	}
	for _, j := range s.over {
		numbers(p, j...)
	}
	for i := range api.MaxClients {
		switch {
		case i >= len(s.clients) || s.clients[i] == [2]uint64{}:
			numbers(p, 0)
		default:
			numbers(p, s.clients[i][:]...)
		}
	}
	return p.Bytes()
}

// job answers one that waits.
func job(id uint64) [4]uint64 { return [4]uint64{id, 0, 1, 5} }

// done answers one that is Done.
func done(id uint64) []uint64 { return []uint64{id, 0, 1, 5, 1} }

// cancelled answers one that is Cancelled.
func cancelled(id uint64) []uint64 { return []uint64{id, 0, 1, 5, 0, 2} }

// sheets fails the test unless these are tables' numbers, or none are.
func sheets(t *testing.T, right bool, l map[string]sheet) {
	t.Helper()
	for what, s := range l {
		if p := s.bytes(); !right {
			refusesBytes(t, what, p, 4)
		} else if x := reads(t, p, 4); !slices.Equal(x.Bytes(), p) {
			t.Fatalf("%s: read of % x: % x", what, p, x.Bytes())
		}
	}
}

func TestReadOfBounds(t *testing.T) {
	one := func(j ...uint64) sheet {
		return sheet{last: 1, active: [][4]uint64{{j[0], j[1], j[2], j[3]}}, clients: [][2]uint64{{1, 1}}}
	}
	ended := func(j ...uint64) sheet { return sheet{last: 1, over: [][]uint64{j}, clients: [][2]uint64{{1, 1}}} }
	dropped := func(j ...uint64) sheet { return sheet{last: 1, over: [][]uint64{j}, clients: [][2]uint64{{2, 1}}} }
	sheets(t, true, map[string]sheet{
		"the least":            one(1, 0, 1, 1),
		"the greatest":         one(1, 3, 4, 10000),
		"Done":                 ended(1, 3, 4, 10000, 1),
		"Cancelled":            dropped(1, 3, 4, 10000, 0, 10000),
		"Cancelled without it": dropped(1, 3, 4, 10000, 0, 0),
	})
	sheets(t, false, map[string]sheet{
		"ID 0":                 one(0, 0, 1, 1),
		"ID above the last":    one(2, 0, 1, 1),
		"ID that wraps":        one(1<<32+1, 0, 1, 1),
		"Tier above MaxTier":   one(1, 4, 1, 1),
		"Tier that wraps":      one(1, 256, 1, 1),
		"K 0":                  one(1, 0, 0, 1),
		"K above nodes":        one(1, 0, 5, 1),
		"K that wraps":         one(1, 0, 1<<32+1, 1),
		"W 0":                  one(1, 0, 1, 0),
		"W above MaxWall":      one(1, 0, 1, 10001),
		"W of 2^63":            one(1, 0, 1, 1<<63),
		"over ID 0":            ended(0, 0, 1, 1, 1),
		"over ID above":        ended(2, 0, 1, 1, 1),
		"over Tier":            ended(1, 4, 1, 1, 1),
		"over K":               ended(1, 0, 5, 1, 1),
		"over W":               ended(1, 0, 1, 0, 1),
		"neither Done nor not": ended(1, 0, 1, 1, 2),
		"Credit above W":       dropped(1, 0, 1, 5, 0, 6),
		"Credit that wraps":    dropped(1, 0, 1, 5, 0, 1<<32),
		"Credit of 2^63":       dropped(1, 0, 1, 5, 0, 1<<63),
		"last that wraps":      {last: 1<<32 + 1, active: [][4]uint64{job(1)}, clients: [][2]uint64{{1, 1}}},
		"Seq that wraps":       {last: 1, active: [][4]uint64{job(1)}, clients: [][2]uint64{{1<<32 + 1, 1}}},
		"no job answered":      {last: 1, active: [][4]uint64{job(1)}, clients: [][2]uint64{{1, 0}}},
		"a job above the last": {last: 1, active: [][4]uint64{job(1)}, clients: [][2]uint64{{1, 2}}},
		"a job that wraps":     {last: 1, active: [][4]uint64{job(1)}, clients: [][2]uint64{{1, 1<<32 + 1}}},
	})
}

// TestReadOfLists: each job is there once, the active ones rise, none is left out.
func TestReadOfLists(t *testing.T) {
	two := [][2]uint64{{2, 2}}
	three := [][2]uint64{{3, 3}}
	sheets(t, true, map[string]sheet{
		"rising":  {last: 2, active: [][4]uint64{job(1), job(2)}, clients: two},
		"mingled": {last: 3, active: [][4]uint64{job(2)}, over: [][]uint64{done(3), done(1)}, clients: three},
	})
	sheets(t, false, map[string]sheet{
		"falling":           {last: 2, active: [][4]uint64{job(2), job(1)}, clients: two},
		"active twice":      {last: 2, active: [][4]uint64{job(1), job(1)}, clients: two},
		"over twice":        {last: 2, over: [][]uint64{done(2), done(2)}, clients: two},
		"active and over":   {last: 2, active: [][4]uint64{job(1)}, over: [][]uint64{done(1)}, clients: two},
		"more than there":   {last: 1, active: [][4]uint64{job(1), job(2)}, clients: [][2]uint64{{1, 1}}},
		"one over is left":  {last: 3, active: [][4]uint64{job(2)}, over: [][]uint64{done(3)}, clients: three},
		"one over too many": {last: 2, active: [][4]uint64{job(2)}, over: [][]uint64{done(1), done(2)}, clients: two},
	})
}

// TestReadOfManyJobs: no more than MaxJobs are active, and none is forgotten while fewer are over.
func TestReadOfManyJobs(t *testing.T) {
	many := func(last, active uint64) sheet {
		s := sheet{last: last, clients: [][2]uint64{{last, last}}}
		for id := last - active + 1; id <= last; id++ {
			s.active = append(s.active, job(id))
		}
		for id := max(last-active, api.MaxJobs) - api.MaxJobs + 1; id <= last-active; id++ {
			s.over = append(s.over, done(id))
		}
		return s
	}
	missing := many(200, 3)
	missing.over = missing.over[1:]
	added := many(200, 3)
	added.over = slices.Insert(added.over, 0, done(133))
	sheets(t, true, map[string]sheet{"64": many(64, 64), "65": many(65, 64), "all known": many(128, 64), "one forgotten": many(129, 64), "200": many(200, 3)})
	sheets(t, false, map[string]sheet{"65 active": many(65, 65), "one more active": many(200, 65), "63 over": missing, "65 over": added})
}

// TestReadOfEndsThatCannotBe: a job that is over ended while MaxJobs at most were active.
func TestReadOfEndsThatCannotBe(t *testing.T) {
	ends := func(last uint64, l ...uint64) sheet {
		s := sheet{last: last, clients: [][2]uint64{{last, last}}}
		for _, id := range l {
			s.over = append(s.over, done(id))
		}
		for id := uint64(1); id <= last; id++ {
			if !slices.Contains(l, id) && len(s.active) < int(last)-len(l) {
				s.active = append(s.active, job(id))
			}
		}
		return s
	}
	// Of the jobs 2 to 66 one is forgotten, the first of those that ended; 1 is active.
	forgot := func(first uint64) sheet {
		s := sheet{last: 66, active: [][4]uint64{job(1)}, clients: [][2]uint64{{66, 66}}}
		for id := uint64(2); id <= 66; id++ {
			if id != first {
				s.over = append(s.over, done(id))
			}
		}
		return s
	}
	sheets(t, true, map[string]sheet{
		"the 64th first": ends(64, 64), "the 65th behind another": ends(65, 3, 65), "the 66th behind two": ends(66, 64, 1, 66),
		"forgot the first": forgot(2), "forgot the 64th": forgot(64),
	})
	sheets(t, false, map[string]sheet{
		"the 65th first": ends(65, 65), "the 66th behind one": ends(66, 64, 66, 1), "the 67th behind two": ends(67, 1, 2, 67),
		"forgot the 65th": forgot(65), "forgot the 66th": forgot(66),
	})
}

// TestReadOfRequestsThatCannotBe: clients have asked as often as there was anything done, and each for something else.
func TestReadOfRequestsThatCannotBe(t *testing.T) {
	asked := func(l ...[2]uint64) sheet {
		return sheet{last: 3, active: [][4]uint64{job(2)}, over: [][]uint64{cancelled(1), done(3)}, clients: l}
	}
	sheets(t, true, map[string]sheet{
		"one asked for all":        asked([2]uint64{4, 3}),
		"another cancelled":        asked([2]uint64{3, 3}, [2]uint64{1, 1}),
		"each of them asked":       asked([2]uint64{1, 1}, [2]uint64{1, 2}, [2]uint64{1, 3}, [2]uint64{1, 1}),
		"the Cancel was the last":  asked([2]uint64{4, 1}),
		"the Cancel was the third": asked([2]uint64{3, 1}, [2]uint64{1, 3}),
	})
	sheets(t, false, map[string]sheet{
		"nobody asked":              asked(),
		"asked too rarely":          asked([2]uint64{3, 3}),
		"asked too often":           asked([2]uint64{5, 3}),
		"one job for three":         asked([2]uint64{1, 1}, [2]uint64{1, 1}, [2]uint64{1, 1}, [2]uint64{1, 3}),
		"two submitted it":          asked([2]uint64{2, 2}, [2]uint64{2, 2}),
		"two submitted it, Done":    asked([2]uint64{2, 3}, [2]uint64{2, 3}),
		"all ahead of the last job": asked([2]uint64{4, 2}),
		"asked ahead of the first":  asked([2]uint64{3, 2}, [2]uint64{1, 1}),
		"asked of no job":           {clients: [][2]uint64{{1, 0}}},
		"asked of a job to come":    {clients: [][2]uint64{{1, 1}}},
	})
}

// TestReadOfWhatIsForgotten: of jobs that aren't known any more some may have been Cancelled, and then clients have asked for that, too.
func TestReadOfWhatIsForgotten(t *testing.T) {
	asked := func(l ...[2]uint64) sheet {
		s := sheet{last: 67, active: [][4]uint64{job(2), job(3)}, clients: l}
		for id := uint64(4); id <= 67; id++ {
			s.over = append(s.over, done(id))
		}
		return s
	}
	sheets(t, true, map[string]sheet{
		"it was Done":                          asked([2]uint64{67, 67}),
		"it was Cancelled":                     asked([2]uint64{68, 67}),
		"its Cancel was a client's last":       asked([2]uint64{4, 1}, [2]uint64{64, 67}),
		"its Submit, too":                      asked([2]uint64{1, 1}, [2]uint64{3, 1}, [2]uint64{64, 67}),
		"its Submit was a client's only one":   asked([2]uint64{1, 1}, [2]uint64{66, 67}),
		"its Cancel came behind other ones":    asked([2]uint64{3, 1}, [2]uint64{65, 67}),
		"its Cancel was a client's only one":   asked([2]uint64{1, 1}, [2]uint64{67, 67}),
		"others asked ahead of its being over": asked([2]uint64{2, 3}, [2]uint64{2, 1}, [2]uint64{64, 67}),
	})
	sheets(t, false, map[string]sheet{
		"asked too rarely":            asked([2]uint64{66, 67}),
		"asked too often":             asked([2]uint64{69, 67}),
		"one job for three":           asked([2]uint64{1, 1}, [2]uint64{1, 1}, [2]uint64{1, 1}, [2]uint64{64, 67}),
		"all ahead of its being over": asked([2]uint64{68, 1}),
		"all ahead of another job":    asked([2]uint64{68, 66}),
	})
}

// story is a table and how many jobs and clients it may have at most.
type story struct {
	jobs    uint32
	clients byte
	seen    map[string]bool
	left    []*jobs.Table
}

// come has a table be looked at, unless it was.
func (s *story) come(x *jobs.Table) {
	if p := string(x.Bytes()); !s.seen[p] {
		s.seen[p] = true
		s.left = append(s.left, x)
	}
}

// asks has what comes of it be looked at, if a client asks for that next.
func (s *story) asks(x *jobs.Table, q api.Request) {
	for client := range s.clients {
		for seq := uint32(1); seq <= 2*s.jobs; seq++ {
			y := x.Copy()
			q.Client, q.Seq = client, seq
			if _, ok := y.Do(q); ok {
				s.come(y)
			}
		}
	}
}

// all answers the bytes of all tables, with jobs of one node and tick.
func (s *story) all() map[string]bool {
	x, _ := jobs.New(1)
	s.seen = map[string]bool{}
	s.come(x)
	for len(s.left) > 0 {
		x, s.left = s.left[0], s.left[1:]
		if x.Next() <= s.jobs {
			s.asks(x, api.Request{Kind: api.Submit, K: 1, W: 1})
		}
		for _, j := range x.Active() {
			s.asks(x, api.Request{Kind: api.Cancel, Job: j.ID})
			y := x.Copy()
			y.Finish(j.ID)
			s.come(y)
		}
	}
	return s.seen
}

// TestReadOfAllSmallTables: of all bytes with a few jobs and clients those are read that requests and Finishes lead to, and no others.
func TestReadOfAllSmallTables(t *testing.T) {
	for _, s := range []story{{jobs: 3, clients: 2}, {jobs: 2, clients: 3}} {
		seen := s.all()
		heads := map[string]bool{}
		for p := range seen {
			x := reads(t, []byte(p), 1)
			heads[string(head(x))] = true
		}
		count := 0
		for h := range heads {
			for _, tail := range tails(int(s.clients), uint64(s.jobs)) {
				p := h + string(tail) + string(make([]byte, api.MaxClients-int(s.clients)))
				if _, e := jobs.Read([]byte(p), 1); (e == api.OK) != seen[p] {
					t.Fatalf("Read(% x): error %d; there is such a table: %v", p, e, seen[p])
				} else if e == api.OK {
					count++
				}
			}
		}
		if count != len(seen) {
			t.Fatalf("%d tables, want %d", count, len(seen))
		}
	}
}

// head answers the bytes of a table ahead of what the clients asked.
func head(x *jobs.Table) []byte {
	p := ink.New()
	active, over := x.Active(), x.Over()
	numbers(p, uint64(x.Next()-1), uint64(len(active)))
	for i, j := range slices.Concat(active, over) {
		numbers(p, uint64(j.ID), uint64(j.Tier), uint64(j.K), uint64(j.W))
		if i >= len(active) {
			p.Bool(j.State == api.Done)
		}
		if j.State == api.Cancelled {
			p.Int(j.Credit)
		}
	}
	return p.Bytes()
}

// tails answers the bytes of all that so many clients can have asked, of so many jobs.
func tails(clients int, jobs uint64) [][]byte {
	if clients == 0 {
		return [][]byte{{}}
	}
	var l [][]byte
	for _, rest := range tails(clients-1, jobs) {
		for seq := range 2*jobs + 1 {
			for job := range jobs {
				p := ink.New()
				numbers(p, seq)
				if seq > 0 {
					numbers(p, job+1)
				}
				if seq > 0 || job == 0 {
					l = append(l, append(p.Bytes(), rest...))
				}
			}
		}
	}
	return l
}
