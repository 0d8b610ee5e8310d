package victim_test

import (
	"math"
	"slices"
	"testing"

	"quadrille/api"
	"quadrille/rows"
	"quadrille/victim"
)

// drawn answers a matrix of those rows: a digit is a job's, a point is free.
func drawn(t *testing.T, lines ...string) *rows.Matrix {
	t.Helper()
	m, e := rows.New(len(lines), len(lines[0]))
	if e != api.OK {
		t.Fatalf("New: error %d", e)
	}
	for row, line := range lines {
		for _, job := range "123456789" {
			var nodes []int
			for node, c := range line {
				if c == job {
					nodes = append(nodes, node)
				}
			}
			if len(nodes) == 0 {
				continue
			}
			if e := m.Put(uint32(job-'0'), row, nodes); e != api.OK {
				t.Fatalf("Put of %c: error %d", job, e)
			}
		}
	}
	return m
}

// down has nodes of a matrix be down.
func down(t *testing.T, m *rows.Matrix, nodes ...int) *rows.Matrix {
	t.Helper()
	for _, node := range nodes {
		if e := m.Up(node, false); e != api.OK {
			t.Fatalf("Up of %d: error %d", node, e)
		}
	}
	return m
}

// tiers answers the jobs 1, 2, .. with these tiers.
func tiers(l ...byte) []victim.Cand {
	var cands []victim.Cand
	for i, tier := range l {
		cands = append(cands, victim.Cand{Job: uint32(i + 1), Tier: tier})
	}
	return cands
}

// goes fails the test unless these have to go from the row.
func goes(t *testing.T, m *rows.Matrix, row int, l []victim.Cand, tier byte, k int, want ...uint32) {
	t.Helper()
	if got, ok := victim.Of(m, row, l, tier, k); !ok || !slices.Equal(got, want) {
		t.Errorf("Of row %d, %v, tier %d, k %d: %v, %v; want %v", row, l, tier, k, got, ok, want)
	}
}

// stays fails the test unless there won't be room in the row.
func stays(t *testing.T, m *rows.Matrix, row int, l []victim.Cand, tier byte, k int) {
	t.Helper()
	if got, ok := victim.Of(m, row, l, tier, k); ok || got != nil {
		t.Errorf("Of row %d, %v, tier %d, k %d: %v, %v; want none", row, l, tier, k, got, ok)
	}
}

// chosen fails the test unless that row is chosen, and these have to go.
func chosen(t *testing.T, m *rows.Matrix, l []victim.Cand, tier byte, k, row int, want ...uint32) {
	t.Helper()
	if got, ok := victim.Choose(m, l, tier, k); !ok || got.Row != row || !slices.Equal(got.Jobs, want) {
		t.Errorf("Choose of %v, tier %d, k %d: %v, %v; want %d %v", l, tier, k, got, ok, row, want)
	}
}

// noneChosen fails the test unless no row is.
func noneChosen(t *testing.T, m *rows.Matrix, l []victim.Cand, tier byte, k int) {
	t.Helper()
	if got, ok := victim.Choose(m, l, tier, k); ok || got.Row != 0 || got.Jobs != nil {
		t.Errorf("Choose of %v, tier %d, k %d: %v, %v; want none", l, tier, k, got, ok)
	}
}

func TestExample(t *testing.T) {
	m, l := drawn(t, "112"), tiers(0, 1)
	goes(t, m, 0, l, 2, 1, 1)
	goes(t, m, 0, l, 2, 3, 1, 2)
	stays(t, m, 0, l, 0, 1)
	chosen(t, m, l, 2, 1, 0, 1)
	chosen(t, m, l, 2, 3, 0, 1, 2)
	noneChosen(t, m, l, 0, 1)
}

// TestOrder: the lesser tier goes first, of equal ones the greater number, however l is ordered.
func TestOrder(t *testing.T) {
	m, l := drawn(t, "123456"), tiers(1, 0, 1, 0, 2, 0)
	order := []uint32{6, 4, 2, 3, 1, 5}
	for k := 1; k <= 6; k++ {
		goes(t, m, 0, l, 3, k, order[:k]...)
	}
	slices.Reverse(l)
	goes(t, m, 0, l, 3, 6, order...)
	big := drawn(t, "1.2")
	if e := big.Put(math.MaxUint32, 0, []int{1}); e != api.OK {
		t.Fatalf("Put: error %d", e)
	}
	goes(t, big, 0, append(tiers(255-1, 255-1), victim.Cand{Job: math.MaxUint32, Tier: 255 - 1}), 255, 3, math.MaxUint32, 2, 1)
}

// TestAsManyAsThereMustBe: no more go, and none is passed over for one behind it that would do.
func TestAsManyAsThereMustBe(t *testing.T) {
	m, l := drawn(t, "1222..33"), tiers(0, 1, 2)
	goes(t, m, 0, l, 3, 1)
	goes(t, m, 0, l, 3, 2)
	goes(t, m, 0, l, 3, 3, 1)
	goes(t, m, 0, l, 3, 4, 1, 2)
	goes(t, m, 0, l, 3, 6, 1, 2)
	goes(t, m, 0, l, 3, 7, 1, 2, 3)
	goes(t, m, 0, l, 3, 8, 1, 2, 3)
	stays(t, m, 0, l, 3, 9)
	stays(t, m, 0, l, 3, math.MaxInt)
}

// TestTierBelow: only who is below the tier goes, not who has it.
func TestTierBelow(t *testing.T) {
	m, l := drawn(t, "123."), tiers(0, 1, 2)
	goes(t, m, 0, l, 0, 1)
	stays(t, m, 0, l, 0, 2)
	goes(t, m, 0, l, 1, 2, 1)
	stays(t, m, 0, l, 1, 3)
	goes(t, m, 0, l, 2, 3, 1, 2)
	stays(t, m, 0, l, 2, 4)
	goes(t, m, 0, l, 255, 4, 1, 2, 3)
}

// TestWhoIsNotInTheRow: who stands in another row or nowhere doesn't go, nor who isn't told of.
func TestWhoIsNotInTheRow(t *testing.T) {
	m := drawn(t, "11.4", "22..")
	l := append(tiers(0, 0, 0), victim.Cand{Job: 0}, victim.Cand{Job: 99})
	goes(t, m, 0, l, 1, 3, 1)
	stays(t, m, 0, l, 1, 4)
	goes(t, m, 1, l, 1, 4, 2)
	stays(t, m, 0, nil, 1, 2)
	goes(t, m, 0, nil, 1, 1)
	stays(t, m, 0, []victim.Cand{}, 255, 2)
}

// TestNodesThatAreDown: their cells are no room, be they free or somebody's; who stands there goes in its turn all the same.
func TestNodesThatAreDown(t *testing.T) {
	m, l := down(t, drawn(t, "1122.."), 0, 4), tiers(0, 1)
	goes(t, m, 0, l, 3, 1)
	goes(t, m, 0, l, 3, 2, 1)
	goes(t, m, 0, l, 3, 3, 1, 2)
	goes(t, m, 0, l, 3, 4, 1, 2)
	stays(t, m, 0, l, 3, 5)
	m = down(t, drawn(t, "1122"), 0, 1)
	goes(t, m, 0, l, 3, 1, 1, 2)
	goes(t, m, 0, l, 3, 2, 1, 2)
	stays(t, m, 0, l, 3, 3)
	stays(t, m, 0, l, 1, 1)
	stays(t, down(t, m, 2, 3), 0, l, 3, 1)
}

// TestToldTwice: of several of l with one Job the first counts, also where that one doesn't go.
func TestToldTwice(t *testing.T) {
	m := drawn(t, "12.")
	twice := []victim.Cand{{Job: 1, Tier: 1}, {Job: 2, Tier: 0}, {Job: 1, Tier: 0}, {Job: 2, Tier: 5}}
	goes(t, m, 0, twice, 2, 2, 2)
	goes(t, m, 0, twice, 2, 3, 2, 1)
	stays(t, m, 0, twice, 1, 3)
	stays(t, m, 0, []victim.Cand{{Job: 1}, {Job: 1}, {Job: 1}}, 1, 3)
	stays(t, m, 0, []victim.Cand{{Job: 1, Tier: 3}, {Job: 1}}, 1, 2)
	goes(t, m, 0, []victim.Cand{{Job: 1}, {Job: 1, Tier: 3}}, 1, 2, 1)
}

func TestWrong(t *testing.T) {
	m, l := drawn(t, "1..", "..."), tiers(0)
	for _, k := range []int{0, -1, math.MinInt} {
		stays(t, m, 0, l, 1, k)
		noneChosen(t, m, l, 1, k)
	}
	for _, row := range []int{-1, 2, 8, math.MinInt, math.MaxInt} {
		stays(t, m, row, l, 1, 1)
		stays(t, m, row, l, 1, 0)
	}
	noneChosen(t, m, l, 1, 4)
	for _, k := range []int{-1, 0, 1} {
		stays(t, nil, 0, l, 1, k)
		noneChosen(t, nil, l, 1, k)
	}
	noneChosen(t, nil, nil, 0, 0)
}

// TestFewest: the fewest go, be their tiers what they may.
func TestFewest(t *testing.T) {
	m, l := drawn(t, "12.", "345", "667"), tiers(0, 0, 0, 0, 0, 5, 0)
	chosen(t, m, l, 9, 1, 0)
	chosen(t, m, l, 9, 2, 0, 2)
	chosen(t, m, l, 9, 3, 0, 2, 1)
	chosen(t, drawn(t, "123", "445"), tiers(0, 0, 0, 5, 5), 9, 3, 1, 5, 4)
	chosen(t, drawn(t, "123", "446"), tiers(0, 0, 0, 5), 9, 2, 1, 4)
}

// TestLeastOfTheGreatest: where as many go the greatest tier among them counts, not the others.
func TestLeastOfTheGreatest(t *testing.T) {
	chosen(t, drawn(t, "11", "22", "33"), tiers(2, 1, 1), 9, 1, 1, 2)
	chosen(t, drawn(t, "11", "22", "33"), tiers(2, 1, 0), 9, 2, 2, 3)
	chosen(t, drawn(t, "12", "34"), tiers(0, 3, 2, 2), 9, 2, 1, 4, 3)
	chosen(t, drawn(t, "12", "34"), tiers(2, 1, 0, 2), 9, 2, 0, 2, 1)
	chosen(t, drawn(t, "12", "34"), tiers(2, 1, 2, 3), 3, 1, 0, 2)
}

// TestFirstRow: of rows that are alike the first, also where nobody has to go.
func TestFirstRow(t *testing.T) {
	chosen(t, drawn(t, "111", "2..", "3..", "..."), tiers(0, 0, 0), 9, 2, 1)
	chosen(t, drawn(t, "...", "..."), nil, 0, 3, 0)
	chosen(t, drawn(t, "11", "22", "33"), tiers(4, 3, 3), 9, 2, 1, 2)
	chosen(t, drawn(t, "1.", "2."), tiers(0), 0, 1, 0)
}

// TestRowsThatDoNotHelp are passed over.
func TestRowsThatDoNotHelp(t *testing.T) {
	m := drawn(t, "1122", "3345", "6666")
	chosen(t, m, tiers(0, 5, 0, 0, 0, 5), 2, 3, 1, 5, 4, 3)
	chosen(t, down(t, m, 0, 1), tiers(0, 5, 0, 0, 0, 1), 2, 2, 2, 6)
	noneChosen(t, m, tiers(0, 0, 0, 0, 0, 0), 1, 3)
}

// TestNothingIsShared: what is handed in stays as it is, and answers are apart.
func TestNothingIsShared(t *testing.T) {
	m := down(t, drawn(t, "123.", "4444"), 0)
	room := append(tiers(2, 1, 0, 3), tiers(9, 9, 9)...)
	before, stood := slices.Clone(room), m.Copy()
	a, _ := victim.Of(m, 0, room[:4], 9, 3)
	b, _ := victim.Of(m, 0, room[:4], 9, 3)
	c, _ := victim.Choose(m, room[:4], 9, 3)
	if !slices.Equal(room, before) || !slices.Equal(m.Jobs(), stood.Jobs()) || !slices.Equal(m.Row(0), stood.Row(0)) || m.IsUp(0) {
		t.Fatal("what was handed in is changed")
	}
	a = a[:cap(a)]
	for i := range a {
		a[i] = 77
	}
	if want := []uint32{3, 2}; !slices.Equal(b, want) || c.Row != 1 || !slices.Equal(c.Jobs, []uint32{4}) {
		t.Fatalf("answers share memory: %v %v", b, c)
	}
}
