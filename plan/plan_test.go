package plan_test

import (
	"math"
	"slices"
	"testing"

	"quadrille/cap"
	"quadrille/plan"
)

// at answers a start.
func at(time, row int, nodes ...int) plan.Start {
	return plan.Start{At: time, Row: row, Nodes: nodes, OK: true}
}

// none is the start of an ask that never starts.
func none() plan.Start { return plan.Start{} }

func alike(a, b plan.Start) bool {
	return a.At == b.At && a.Row == b.Row && a.OK == b.OK && slices.Equal(a.Nodes, b.Nodes)
}

// starts fails the test unless the starts are these.
func starts(t *testing.T, what string, got []plan.Start, want ...plan.Start) {
	t.Helper()
	if !slices.EqualFunc(got, want, alike) {
		t.Fatalf("%s: %v, want %v", what, got, want)
	}
}

// first fails the test unless First answers that start.
func first(t *testing.T, p plan.Profile, k int, want plan.Start) {
	t.Helper()
	before := clone(p)
	for _, length := range []int{math.MinInt, 0, 1, 9, math.MaxInt} {
		if got := plan.First(p, plan.Ask{K: k, Len: length}); !alike(got, want) {
			t.Fatalf("First of %v, K %d: %v, want %v", p, k, got, want)
		}
	}
	same(t, "what First was handed", p, before)
}

// same fails the test unless the profiles are the same.
func same(t *testing.T, what string, got, want plan.Profile) {
	t.Helper()
	if !slices.EqualFunc(got, want, slices.Equal[[]int]) {
		t.Fatalf("%s: %v, want %v", what, got, want)
	}
}

func clone(p plan.Profile) plan.Profile {
	var c plan.Profile
	for _, cells := range p {
		c = append(c, slices.Clone(cells))
	}
	return c
}

func TestExamples(t *testing.T) {
	p := plan.Profile{{5, 5, 0}}
	l := []plan.Ask{{K: 2, Len: 4}, {K: 1, Len: 5}, {K: 1, Len: 6}}
	starts(t, "Plan", plan.Plan(p, l), at(5, 0, 0, 2), at(5, 0, 1), at(9, 0, 0))
	nows(t, p, l)
	l[0], l[1] = l[1], l[0]
	starts(t, "Plan, turned", plan.Plan(p, l[:2]), at(0, 0, 2), at(5, 0, 0, 1))
	nows(t, p, l, 0)
}

func TestFirst(t *testing.T) {
	first(t, plan.Profile{{0}}, 1, at(0, 0, 0))
	first(t, plan.Profile{{7}}, 1, at(7, 0, 0))
	first(t, plan.Profile{{4, 3, 2, 1}}, 1, at(1, 0, 3))
	first(t, plan.Profile{{4, 3, 2, 1}}, 2, at(2, 0, 2, 3))
	first(t, plan.Profile{{4, 3, 2, 1}}, 3, at(3, 0, 1, 2, 3))
	first(t, plan.Profile{{4, 3, 2, 1}}, 4, at(4, 0, 0, 1, 2, 3))
	first(t, plan.Profile{{1, 9, 2, 8, 3}}, 3, at(3, 0, 0, 2, 4))
}

// TestFirstOfEqualCells: of cells that are free at the same time the least nodes; but who is free sooner goes ahead of them, also where less would do.
func TestFirstOfEqualCells(t *testing.T) {
	first(t, plan.Profile{{5, 5, 0}}, 2, at(5, 0, 0, 2))
	first(t, plan.Profile{{5, 5, 5, 5}}, 2, at(5, 0, 0, 1))
	first(t, plan.Profile{{5, 5, 3, 5, 0}}, 3, at(5, 0, 0, 2, 4))
	first(t, plan.Profile{{5, 5, 3, 5, 0}}, 4, at(5, 0, 0, 1, 2, 4))
	first(t, plan.Profile{{9, 5, 9, 5, 5}}, 2, at(5, 0, 1, 3))
	first(t, plan.Profile{{3, 0, 3, 0, 3}}, 1, at(0, 0, 1))
}

func TestFirstOfRows(t *testing.T) {
	first(t, plan.Profile{{3, 3}, {2, 9}, {2, 2}}, 1, at(2, 1, 0))
	first(t, plan.Profile{{3, 3}, {2, 9}, {2, 2}}, 2, at(2, 2, 0, 1))
	first(t, plan.Profile{{3, 3}, {1, 3}, {0, 3}}, 2, at(3, 0, 0, 1))
	first(t, plan.Profile{{0, 4}, {1, 2}}, 2, at(2, 1, 0, 1))
	// Cells of several rows aren't put together.
	first(t, plan.Profile{{0, 8}, {8, 0}}, 2, at(8, 0, 0, 1))
}

// TestFirstOfUnequalRows: a row may have more cells than another one, or none.
func TestFirstOfUnequalRows(t *testing.T) {
	p := plan.Profile{{}, {0}, nil, {6, 5, 6}, {9, 9, 9, 9}}
	first(t, p, 1, at(0, 1, 0))
	first(t, p, 2, at(6, 3, 0, 1))
	first(t, p, 3, at(6, 3, 0, 1, 2))
	first(t, p, 4, at(9, 4, 0, 1, 2, 3))
	first(t, p, 5, none())
}

func TestFirstOfNone(t *testing.T) {
	for _, p := range []plan.Profile{nil, {}, {nil}, {{}}, {{}, {}}} {
		for _, k := range []int{math.MinInt, -1, 0, 1, 2, math.MaxInt} {
			first(t, p, k, none())
		}
	}
	for _, k := range []int{math.MinInt, -1, 0, 4, 5, math.MaxInt} {
		first(t, plan.Profile{{0, 0, 0}, {1, 2, 3}}, k, none())
	}
}

// TestTimesBeyondTheirBounds: what is below 0 is 0 and what is above Top is Top, for who is free the soonest, too.
func TestTimesBeyondTheirBounds(t *testing.T) {
	first(t, plan.Profile{{0, -3, math.MinInt}}, 1, at(0, 0, 0))
	first(t, plan.Profile{{0, -3, math.MinInt}}, 2, at(0, 0, 0, 1))
	first(t, plan.Profile{{0}, {-1}}, 1, at(0, 0, 0))
	first(t, plan.Profile{{cap.Top - 1}}, 1, at(cap.Top-1, 0, 0))
	first(t, plan.Profile{{cap.Top}}, 1, at(cap.Top, 0, 0))
	first(t, plan.Profile{{cap.Top + 1}}, 1, at(cap.Top, 0, 0))
	first(t, plan.Profile{{math.MaxInt, cap.Top + 1, cap.Top}}, 2, at(cap.Top, 0, 0, 1))
	first(t, plan.Profile{{math.MaxInt}, {cap.Top}}, 1, at(cap.Top, 0, 0))
}

// reserved fails the test unless Reserve answers that profile, of its own.
func reserved(t *testing.T, p plan.Profile, s plan.Start, length int, want plan.Profile) {
	t.Helper()
	before, nodes := clone(p), slices.Clone(s.Nodes)
	got := plan.Reserve(p, s, length)
	same(t, "Reserve", got, want)
	for i, cells := range got {
		scribble(cells)
		same(t, "another row", got[i+1:], want[i+1:])
	}
	same(t, "what Reserve was handed", p, before)
	if !slices.Equal(s.Nodes, nodes) {
		t.Fatalf("the nodes that Reserve was handed became %v", s.Nodes)
	}
	same(t, "Reserve again", plan.Reserve(p, s, length), want)
}

func TestReserve(t *testing.T) {
	p := plan.Profile{{5, 5, 0}, {1, 2, 3}}
	reserved(t, p, at(5, 0, 0, 2), 4, plan.Profile{{9, 5, 9}, {1, 2, 3}})
	reserved(t, p, at(0, 0, 2), 1, plan.Profile{{5, 5, 1}, {1, 2, 3}})
	reserved(t, p, at(3, 1, 0, 1, 2), 10, plan.Profile{{5, 5, 0}, {13, 13, 13}})
	// The cells are free from then on, be it sooner than they were.
	reserved(t, p, at(1, 0, 0), 2, plan.Profile{{3, 5, 0}, {1, 2, 3}})
	// No node counts for two, and none has to rise.
	reserved(t, p, at(2, 1, 2, 0, 2), 2, plan.Profile{{5, 5, 0}, {4, 2, 4}})
	reserved(t, p, at(2, 1), 2, p)
}

func TestReserveLengths(t *testing.T) {
	p := plan.Profile{{3, 0}}
	for length, want := range map[int]int{
		math.MinInt: 4, -1: 4, 0: 4, 1: 4, 2: 5, cap.Top - 4: cap.Top - 1, cap.Top - 3: cap.Top, cap.Top - 2: cap.Top, cap.Top: cap.Top, math.MaxInt: cap.Top,
	} {
		reserved(t, p, at(3, 0, 0), length, plan.Profile{{want, 0}})
	}
	for time, want := range map[int]int{
		math.MinInt: 2, -9: 2, -1: 2, 0: 2, 1: 3, cap.Top - 3: cap.Top - 1, cap.Top - 2: cap.Top, cap.Top: cap.Top, cap.Top + 1: cap.Top, math.MaxInt: cap.Top,
	} {
		reserved(t, p, at(time, 0, 1), 2, plan.Profile{{3, want}})
	}
}

// TestReserveNothing: of a start that isn't one the profile is told as it is.
func TestReserveNothing(t *testing.T) {
	p := plan.Profile{{5, 5, 0}, {}, {1}}
	reserved(t, p, none(), 4, p)
	reserved(t, p, plan.Start{At: 2, Row: 0, Nodes: []int{0, 1}}, 4, p)
	for _, row := range []int{math.MinInt, -1, 1, 3, math.MaxInt} {
		reserved(t, p, at(2, row, 0, 1, 2), 4, p)
	}
	for _, node := range []int{math.MinInt, -1, 3, math.MaxInt} {
		reserved(t, p, at(2, 0, node), 4, p)
		reserved(t, p, at(2, 0, node, 1, node), 4, plan.Profile{{5, 6, 0}, {}, {1}})
	}
	reserved(t, p, at(2, 2, 0, 1), 4, plan.Profile{{5, 5, 0}, {}, {6}})
	reserved(t, nil, at(2, 0, 0), 4, nil)
	reserved(t, plan.Profile{nil, {}}, at(2, 0, 0), 4, plan.Profile{{}, {}})
}

// TestRowsThatShare: rows of one list are apart in what is told of them.
func TestRowsThatShare(t *testing.T) {
	cells := []int{0, 0}
	p := plan.Profile{cells, cells}
	reserved(t, p, at(0, 0, 0), 4, plan.Profile{{4, 0}, {0, 0}})
	l := []plan.Ask{{K: 2, Len: 3}, {K: 2, Len: 3}, {K: 2, Len: 3}}
	starts(t, "Plan", plan.Plan(p, l), at(0, 0, 0, 1), at(0, 1, 0, 1), at(3, 0, 0, 1))
}

func TestPlan(t *testing.T) {
	p := plan.Profile{{0, 0, 4}, {2, 2, 2}}
	l := []plan.Ask{{K: 3, Len: 5}, {K: 2, Len: 3}, {K: 1, Len: 1}, {K: 3, Len: 2}, {K: 1, Len: 9}}
	starts(t, "Plan", plan.Plan(p, l), at(2, 1, 0, 1, 2), at(0, 0, 0, 1), at(3, 0, 0), at(4, 0, 0, 1, 2), at(6, 0, 0))
	starts(t, "Plan of none", plan.Plan(p, nil))
	starts(t, "Plan of no cells", plan.Plan(nil, l[:2]), none(), none())
}

// TestPlanPassesOver: who never starts keeps his place in the answer, and takes no cell.
func TestPlanPassesOver(t *testing.T) {
	p := plan.Profile{{0, 6}}
	l := []plan.Ask{{K: 3, Len: 5}, {K: 1, Len: 2}, {K: 0, Len: 5}, {K: -1, Len: 5}, {K: 2, Len: 5}, {K: math.MaxInt, Len: math.MaxInt}, {K: 1, Len: 1}}
	starts(t, "Plan", plan.Plan(p, l), none(), at(0, 0, 0), none(), none(), at(6, 0, 0, 1), none(), at(11, 0, 0))
}

func TestPlanLengths(t *testing.T) {
	p := plan.Profile{{0}}
	l := []plan.Ask{{K: 1}, {K: 1, Len: -7}, {K: 1, Len: math.MinInt}, {K: 1, Len: 1}, {K: 1, Len: 2}, {K: 1, Len: cap.Top - 7}, {K: 1, Len: 1}, {K: 1, Len: math.MaxInt}, {K: 1, Len: 3}}
	starts(t, "Plan", plan.Plan(p, l),
		at(0, 0, 0), at(1, 0, 0), at(2, 0, 0), at(3, 0, 0), at(4, 0, 0), at(6, 0, 0), at(cap.Top-1, 0, 0), at(cap.Top, 0, 0), at(cap.Top, 0, 0))
}

// nows fails the test unless Now answers these places.
func nows(t *testing.T, p plan.Profile, l []plan.Ask, want ...int) {
	t.Helper()
	before, asks := clone(p), slices.Clone(l)
	got := plan.Now(p, l)
	if !slices.Equal(got, want) {
		t.Fatalf("Now of %v, %v: %v, want %v", p, l, got, want)
	}
	scribble(got)
	same(t, "what Now was handed", p, before)
	if !slices.Equal(l, asks) {
		t.Fatalf("the asks that Now was handed became %v", l)
	}
}

func TestNow(t *testing.T) {
	one, two, three := plan.Ask{K: 1, Len: 4}, plan.Ask{K: 2, Len: 4}, plan.Ask{K: 3, Len: 4}
	p := plan.Profile{{0, 0, 4}, {2, 2, 2}}
	nows(t, p, nil)
	nows(t, nil, []plan.Ask{one})
	nows(t, p, []plan.Ask{one, one, one}, 0, 1)
	nows(t, p, []plan.Ask{three, two, one}, 1)
	nows(t, p, []plan.Ask{three, one, one}, 1, 2)
	nows(t, p, []plan.Ask{three, one, two, one}, 1)
	nows(t, plan.Profile{{1}}, []plan.Ask{one})
	nows(t, plan.Profile{{-1}, {math.MinInt}}, []plan.Ask{one, one, one}, 0, 1)
	// The cell is free at 0 yet, but for who stands ahead.
	nows(t, plan.Profile{{0, 5}}, []plan.Ask{two, one})
}

// TestNowHasNoneThatNeverStarts: its time is told as 0, but it doesn't start then.
func TestNowHasNoneThatNeverStarts(t *testing.T) {
	p := plan.Profile{{0, 0}}
	nows(t, p, []plan.Ask{{K: 3, Len: 1}, {K: 0, Len: 1}, {K: -1, Len: 1}, {K: 2, Len: 1}, {K: math.MaxInt, Len: 1}}, 3)
}

// delays fails the test unless Delays answers so.
func delays(t *testing.T, p plan.Profile, l []plan.Ask, x plan.Start, length int, want bool) {
	t.Helper()
	before, asks, nodes := clone(p), slices.Clone(l), slices.Clone(x.Nodes)
	if got := plan.Delays(p, l, x, length); got != want {
		t.Fatalf("Delays of %v, %v by %v for %d: %v", p, l, x, length, got)
	}
	same(t, "what Delays was handed", p, before)
	if !slices.Equal(l, asks) || !slices.Equal(x.Nodes, nodes) {
		t.Fatalf("what Delays was handed became %v, %v", l, x)
	}
}

func TestDelays(t *testing.T) {
	p := plan.Profile{{5, 5, 0}}
	one, two := plan.Ask{K: 1, Len: 5}, plan.Ask{K: 2, Len: 4}
	delays(t, p, []plan.Ask{one}, at(0, 0, 2), 3, true)
	delays(t, p, []plan.Ask{two}, at(0, 0, 2), 3, false)
	delays(t, p, []plan.Ask{two}, at(0, 0, 2), 5, false)
	delays(t, p, []plan.Ask{two}, at(0, 0, 2), 6, false)
	delays(t, p, []plan.Ask{{K: 3, Len: 1}}, at(0, 0, 2), 5, false)
	delays(t, p, []plan.Ask{{K: 3, Len: 1}}, at(0, 0, 2), 6, true)
	delays(t, p, []plan.Ask{two, one, one}, at(0, 0, 2), 5, false)
	delays(t, p, []plan.Ask{two, one, one}, at(0, 0, 2), 6, true)
	delays(t, p, []plan.Ask{one, two}, at(5, 0, 0, 1), 1, true)
	delays(t, p, nil, at(0, 0, 0, 1, 2), 9, false)
	delays(t, nil, []plan.Ask{one}, at(0, 0, 0), 9, false)
}

// TestDelaysElsewhere: who goes to another row at the same time doesn't wait longer.
func TestDelaysElsewhere(t *testing.T) {
	p := plan.Profile{{0}, {0}}
	one := plan.Ask{K: 1, Len: 2}
	delays(t, p, []plan.Ask{one}, at(0, 0, 0), 9, false)
	delays(t, p, []plan.Ask{one, one}, at(0, 0, 0), 1, true)
}

// TestDelaysOfAny: that one starts sooner makes up for none that starts later.
func TestDelaysOfAny(t *testing.T) {
	p := plan.Profile{{9, 0}}
	one := plan.Ask{K: 1, Len: 1}
	sooner, later := at(2, 0, 0), at(4, 0, 1)
	delays(t, p, []plan.Ask{{K: 2, Len: 1}}, sooner, 1, false)
	delays(t, p, []plan.Ask{{K: 2, Len: 1}, one}, sooner, 1, false)
	delays(t, p, []plan.Ask{one}, later, 1, true)
	delays(t, plan.Profile{{9, 0}, {7, 7}}, []plan.Ask{one, {K: 2, Len: 1}}, at(3, 0, 0, 1), 1, true)
}

// TestDelaysByNothing: what isn't reserved delays nobody.
func TestDelaysByNothing(t *testing.T) {
	p := plan.Profile{{0}}
	l := []plan.Ask{{K: 1, Len: 1}}
	delays(t, p, l, at(0, 0, 0), 1, true)
	delays(t, p, l, plan.Start{Nodes: []int{0}}, 1, false)
	delays(t, p, l, at(0, 1, 0), 1, false)
	delays(t, p, l, at(0, -1, 0), 1, false)
	delays(t, p, l, at(0, 0, 1, -1), 1, false)
	delays(t, p, l, at(0, 0), 1, false)
	// Who never starts doesn't start later.
	delays(t, p, []plan.Ask{{K: 2, Len: 1}, {K: 0, Len: 1}}, at(0, 0, 0), 9, false)
}

// TestDelaysLengths: a length below 1 is 1, and what is Top stays Top.
func TestDelaysLengths(t *testing.T) {
	l := []plan.Ask{{K: 1, Len: 1}}
	for _, length := range []int{math.MinInt, -1, 0, 1, math.MaxInt} {
		delays(t, plan.Profile{{0}}, l, at(0, 0, 0), length, true)
		delays(t, plan.Profile{{0}}, l, at(-4, 0, 0), length, true)
		delays(t, plan.Profile{{cap.Top}}, l, at(cap.Top, 0, 0), length, false)
		delays(t, plan.Profile{{math.MaxInt}}, l, at(math.MaxInt, 0, 0), length, false)
	}
}

// TestAnswersAreApart: who writes over one list of an answer, its spare room too, changes no other.
func TestAnswersAreApart(t *testing.T) {
	p := plan.Profile{{0, 0, 0, 0, 0}, {3, 1, 2, 0, 9}}
	l := []plan.Ask{{K: 3, Len: 2}, {K: 1, Len: 2}, {K: 5, Len: 2}, {K: 2, Len: 1}, {K: 4, Len: 3}}
	want := plan.Plan(p, l)
	for i := range l {
		got := plan.Plan(p, l)
		scribble(got[i].Nodes)
		got[i] = want[i]
		starts(t, "Plan", got, want...)
	}
	for _, a := range l {
		s := plan.First(p, a)
		other := plan.First(p, a)
		scribble(s.Nodes)
		starts(t, "First", []plan.Start{other, plan.First(p, a)}, other, other)
	}
	starts(t, "Plan asked again", plan.Plan(p, l), want...)
}
