package plan_test

import (
	"cmp"
	"math/rand"
	"slices"
	"testing"

	"quadrille/plan"
)

// scribble writes over all of a list, its spare room too.
func scribble(l []int) {
	l = l[:cap(l)]
	for i := range l {
		l[i] = 77
	}
}

// model is a profile whose times are within their bounds, and searched one by one.
type model struct {
	cells plan.Profile
}

// latest answers the greatest time of all.
func (m *model) latest() int {
	time := 0
	for _, cells := range m.cells {
		for _, t := range cells {
			time = max(time, t)
		}
	}
	return time
}

// first tries each time, in each of it each row.
func (m *model) first(k int) plan.Start {
	if k < 1 {
		return none()
	}
	for time := range m.latest() + 1 {
		for row, cells := range m.cells {
			free := 0
			for _, t := range cells {
				if t <= time {
					free++
				}
			}
			if free >= k {
				return at(time, row, m.soonest(row, k)...)
			}
		}
	}
	return none()
}

// soonest answers the k cells of a row that are free the soonest, rising.
func (m *model) soonest(row, k int) []int {
	var nodes []int
	for node := range m.cells[row] {
		nodes = append(nodes, node)
	}
	slices.SortFunc(nodes, func(a, b int) int {
		return cmp.Or(cmp.Compare(m.cells[row][a], m.cells[row][b]), cmp.Compare(a, b))
	})
	nodes = nodes[:k]
	slices.Sort(nodes)
	return nodes
}

func (m *model) reserve(s plan.Start, length int) {
	if s.OK {
		for _, node := range s.Nodes {
			m.cells[s.Row][node] = s.At + max(1, length)
		}
	}
}

func (m *model) plan(l []plan.Ask) []plan.Start {
	var found []plan.Start
	for _, a := range l {
		s := m.first(a.K)
		m.reserve(s, a.Len)
		found = append(found, s)
	}
	return found
}

// profile answers rows that mostly have as many cells each, some of them free now.
func profile(r *rand.Rand) plan.Profile {
	p := make(plan.Profile, 1+r.Intn(6))
	nodes, times := 1+r.Intn(8), 1+r.Intn(12)
	for row := range p {
		for range nodes {
			p[row] = append(p[row], max(0, r.Intn(times+3)-3))
		}
		if r.Intn(10) == 0 {
			p[row] = p[row][r.Intn(nodes+1):]
		}
	}
	return p
}

// asks answers some asks, few of which are right nowhere.
func asks(r *rand.Rand) []plan.Ask {
	l := make([]plan.Ask, r.Intn(12))
	for i := range l {
		l[i] = plan.Ask{K: 1 + r.Intn(6), Len: r.Intn(9)}
		if r.Intn(10) == 0 {
			l[i].K = r.Intn(20) - 5
		}
	}
	return l
}

func TestAgainstModel(t *testing.T) {
	for seed := range int64(5000) {
		r := rand.New(rand.NewSource(seed))
		p, l := profile(r), asks(r)
		before := clone(p)
		plain := &model{clone(p)}
		want := plain.plan(l)
		starts(t, "Plan", plan.Plan(p, l), want...)
		follow(t, p, l, want, plain.cells)
		var now []int
		for i, s := range want {
			if s.OK && s.At == 0 {
				now = append(now, i)
			}
		}
		nows(t, p, l, now...)
		x, length := pick(r, p), r.Intn(8)
		first := &model{clone(p)}
		first.reserve(x, length)
		delays(t, p, l, x, length, later(want, first.plan(l)))
		same(t, "what was handed in", p, before)
	}
}

// follow fails the test unless First and Reserve, ask by ask, tell what the plan does.
func follow(t *testing.T, p plan.Profile, l []plan.Ask, want []plan.Start, behind plan.Profile) {
	t.Helper()
	for i, a := range l {
		s := plan.First(p, a)
		starts(t, "First", []plan.Start{s}, want[i])
		p = plan.Reserve(p, s, a.Len)
	}
	same(t, "behind all asks", p, behind)
}

// pick answers any start in the profile, be its cells free then or not.
func pick(r *rand.Rand, p plan.Profile) plan.Start {
	x := plan.Start{At: r.Intn(6), Row: r.Intn(len(p)), OK: r.Intn(8) > 0}
	for node := range p[x.Row] {
		if r.Intn(3) == 0 {
			x.Nodes = append(x.Nodes, node)
		}
	}
	return x
}

// later tells whether any start is later than it was.
func later(was, is []plan.Start) bool {
	for i := range was {
		if is[i].At > was[i].At {
			return true
		}
	}
	return false
}

// TestNobodyWaitsLonger: who may start now, started now, delays none of those ahead of it, and leaves them where they were to start.
func TestNobodyWaitsLonger(t *testing.T) {
	ahead := 0
	for seed := range int64(20000) {
		r := rand.New(rand.NewSource(seed))
		p, l := profile(r), asks(r)
		all := plan.Plan(p, l)
		for _, i := range plan.Now(p, l) {
			if plan.Delays(p, l[:i], all[i], l[i].Len) {
				t.Fatalf("%v, %v: who stands at %d makes one ahead of it wait longer", p, l, i)
			}
			starts(t, "Plan of those ahead", plan.Plan(plan.Reserve(p, all[i], l[i].Len), l[:i]), all[:i]...)
			if slices.ContainsFunc(all[:i], func(s plan.Start) bool { return s.At > 0 }) {
				ahead++
			}
		}
	}
	if ahead < 1000 {
		t.Fatalf("only %d started ahead of one that waits", ahead)
	}
}

// TestMany has a long list, each of whose asks stands behind all those ahead of it.
func TestMany(t *testing.T) {
	p := make(plan.Profile, 8)
	for row := range p {
		p[row] = make([]int, 16)
	}
	l := make([]plan.Ask, 100000)
	for i := range l {
		l[i] = plan.Ask{K: 16, Len: 3}
	}
	for i, s := range plan.Plan(p, l) {
		if s.At != i/8*3 || s.Row != i%8 || len(s.Nodes) != 16 {
			t.Fatalf("the %d-th starts: %v", i, s)
		}
	}
}
