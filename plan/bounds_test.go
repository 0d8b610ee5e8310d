package plan_test

import (
	"math"
	"math/rand"
	"testing"

	"quadrille/cap"
	"quadrille/plan"
)

// TestReserveTimesBeyondTheirBounds: what isn't reserved is told as it is, and only what is reserved is within the bounds.
func TestReserveTimesBeyondTheirBounds(t *testing.T) {
	p := plan.Profile{{-5, math.MinInt, 3}, {cap.Top + 1, math.MaxInt, cap.Top}, {}, {-1}}
	for _, s := range []plan.Start{
		none(), {At: 2, Nodes: []int{0, 1, 2}}, at(2, 0), at(2, 0, -1, 3), at(2, 1, math.MinInt, math.MaxInt), at(2, 2, 0), at(2, -1, 0), at(2, 4, 0),
	} {
		for _, length := range []int{math.MinInt, 0, 4, math.MaxInt} {
			reserved(t, p, s, length, p)
		}
	}
	reserved(t, plan.Profile{{-1}}, none(), 4, plan.Profile{{-1}})
	reserved(t, p, at(2, 0, 1), 4, plan.Profile{{-5, 6, 3}, p[1], {}, {-1}})
	reserved(t, p, at(2, 0, 0, 3, -1), 4, plan.Profile{{6, math.MinInt, 3}, p[1], {}, {-1}})
	reserved(t, p, at(cap.Top-1, 1, 0), 4, plan.Profile{p[0], {cap.Top, math.MaxInt, cap.Top}, {}, {-1}})
	reserved(t, p, at(-9, 1, 1, 2), 4, plan.Profile{p[0], {cap.Top + 1, 4, 4}, {}, {-1}})
	reserved(t, p, at(math.MaxInt, 3, 0), 1, plan.Profile{p[0], p[1], {}, {cap.Top}})
}

// TestBeyondTheirBoundsBehindReserve: what Reserve leaves beyond the bounds counts as 0 and as Top where it is asked for.
func TestBeyondTheirBoundsBehindReserve(t *testing.T) {
	p := plan.Reserve(plan.Profile{{0, -3, 7}, {cap.Top + 5, 7, cap.Top}}, at(0, 0, 2), 2)
	first(t, p, 1, at(0, 0, 0))
	first(t, p, 2, at(0, 0, 0, 1))
	first(t, p, 3, at(2, 0, 0, 1, 2))
	one, two := plan.Ask{K: 1, Len: 4}, plan.Ask{K: 2, Len: 4}
	starts(t, "Plan", plan.Plan(p, []plan.Ask{one, one, two}), at(0, 0, 0), at(0, 0, 1), at(4, 0, 0, 2))
	nows(t, p, []plan.Ask{one, one, two}, 0, 1)
	q := plan.Profile{{cap.Top + 5, 0, math.MaxInt}}
	starts(t, "Plan", plan.Plan(q, []plan.Ask{two, two}), at(cap.Top, 0, 0, 1), at(cap.Top, 0, 0, 1))
	// From Top on it is free at Top, be it reserved or not.
	delays(t, q, []plan.Ask{two}, at(cap.Top, 0, 0), 9, false)
	delays(t, q, []plan.Ask{two}, at(0, 0, 1), 9, false)
	delays(t, q, []plan.Ask{one}, at(-7, 0, 1), 9, true)
}

// beyond answers a profile that is taken as p: some of its times of 0 are below 0, some of Top above that.
func beyond(r *rand.Rand, p plan.Profile) plan.Profile {
	raw := clone(p)
	for _, cells := range raw {
		for node, t := range cells {
			switch {
			case t == 0 && r.Intn(2) == 0:
				cells[node] = -1 - r.Intn(5)
			case t == cap.Top && r.Intn(2) == 0:
				cells[node] = cap.Top + 1 + r.Intn(5)
			}
		}
	}
	return raw
}

// TestAgainstModelBeyondBounds: times beyond their bounds count as 0 and as Top, and stay as they are where nothing is reserved.
func TestAgainstModelBeyondBounds(t *testing.T) {
	for seed := range int64(5000) {
		r := rand.New(rand.NewSource(seed))
		p, l := profile(r), asks(r)
		for _, cells := range p {
			for node := range cells {
				if r.Intn(6) == 0 {
					cells[node] = cap.Top
				}
			}
		}
		raw := beyond(r, p)
		before := clone(raw)
		x, length := pick(r, p), r.Intn(8)
		want := &model{clone(raw)}
		want.reserve(x, length)
		reserved(t, raw, x, length, want.cells)
		starts(t, "Plan", plan.Plan(raw, l), plan.Plan(p, l)...)
		nows(t, raw, l, plan.Now(p, l)...)
		delays(t, raw, l, x, length, plan.Delays(p, l, x, length))
		for _, a := range l {
			first(t, raw, a.K, plan.First(p, a))
		}
		same(t, "what was handed in", raw, before)
	}
}
