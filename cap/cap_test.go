package cap_test

import (
	"math"
	"math/big"
	"math/rand"
	"slices"
	"testing"

	"quadrille/api"
	"quadrille/cap"
)

// edges answers numbers at which something changes, and some between.
func edges() []int {
	return []int{
		math.MinInt, math.MinInt + 1, -cap.Top - 1, -cap.Top, -1 << 32, -7, -2, -1, 0, 1, 2, 3, 5, 6, 7, 8, 1000, 1<<20 - 1, 1 << 20, 1<<20 + 1,
		1<<31 - 1, 1 << 31, 1<<32 - 1, 1 << 32, cap.Top / 3, cap.Top/2 - 1, cap.Top / 2, cap.Top/2 + 1, cap.Top - 1, cap.Top, cap.Top + 1, 1 << 62, math.MaxInt - 1, math.MaxInt,
	}
}

// kept answers n, but 0 if it is less and Top if it is more.
func kept(n *big.Int) *big.Int {
	switch top := big.NewInt(1 << 40); {
	case n.Sign() < 0:
		return big.NewInt(0)
	case n.Cmp(top) > 0:
		return top
	}
	return n
}

func taken(n int) *big.Int { return kept(big.NewInt(int64(n))) }

// same fails the test unless got is what the numbers without bounds come to.
func same(t *testing.T, what string, a, b, got int, wanted *big.Int) {
	t.Helper()
	if w := kept(wanted).Int64(); int64(got) != w {
		t.Errorf("%s(%d, %d) = %d, want %d", what, a, b, got, w)
	}
}

func TestTop(t *testing.T) {
	if cap.Top != 1099511627776 {
		t.Error("Top", cap.Top)
	}
}

func TestNumbersOfTwo(t *testing.T) {
	for _, a := range edges() {
		for _, b := range edges() {
			two(t, a, b)
		}
	}
	r := rand.New(rand.NewSource(3))
	for range 20000 {
		two(t, r.Intn(1<<uint(1+r.Intn(45)))-3, r.Intn(1<<uint(1+r.Intn(45)))-3)
	}
}

func two(t *testing.T, a, b int) {
	t.Helper()
	x, y := taken(a), taken(b)
	same(t, "Add", a, b, cap.Add(a, b), new(big.Int).Add(x, y))
	same(t, "Sub", a, b, cap.Sub(a, b), new(big.Int).Sub(x, y))
	same(t, "Mul", a, b, cap.Mul(a, b), new(big.Int).Mul(x, y))
	same(t, "Left", a, b, cap.Left(a, b), new(big.Int).Sub(x, y))
	up := big.NewInt(cap.Top)
	if y.Sign() > 0 {
		rest := new(big.Int)
		up, rest = new(big.Int).DivMod(x, y, rest)
		if rest.Sign() > 0 {
			up.Add(up, big.NewInt(1))
		}
	}
	same(t, "Up", a, b, cap.Up(a, b), up)
}

func TestNumbersAsTold(t *testing.T) {
	for _, c := range []struct {
		what      string
		got, want int
	}{
		{"Sub(3, 5)", cap.Sub(3, 5), 0},
		{"Sub(5, 3)", cap.Sub(5, 3), 2},
		{"Sub(Top + 9, Top)", cap.Sub(cap.Top+9, cap.Top), 0},
		{"Sub(3, -5)", cap.Sub(3, -5), 3},
		{"Up(7, 3)", cap.Up(7, 3), 3},
		{"Up(6, 3)", cap.Up(6, 3), 2},
		{"Up(0, 3)", cap.Up(0, 3), 0},
		{"Up(0, 0)", cap.Up(0, 0), cap.Top},
		{"Up(1, -1)", cap.Up(1, -1), cap.Top},
		{"Up(Top, Top)", cap.Up(cap.Top, cap.Top), 1},
		{"Up(1, MaxInt)", cap.Up(1, math.MaxInt), 1},
		{"Add(-5, 3)", cap.Add(-5, 3), 3},
		{"Add(Top, 1)", cap.Add(cap.Top, 1), cap.Top},
		{"Add(MaxInt, MaxInt)", cap.Add(math.MaxInt, math.MaxInt), cap.Top},
		{"Mul(1 << 20, 1 << 20)", cap.Mul(1<<20, 1<<20), cap.Top},
		{"Mul(1 << 20, (1 << 20) - 1)", cap.Mul(1<<20, 1<<20-1), 1<<40 - 1<<20},
		{"Mul(Top, 0)", cap.Mul(cap.Top, 0), 0},
		{"Mul(0, Top)", cap.Mul(0, cap.Top), 0},
		{"Mul(-3, -3)", cap.Mul(-3, -3), 0},
		{"Mul(1 << 32, 1 << 32)", cap.Mul(1<<32, 1<<32), cap.Top},
		{"Left(9, 4)", cap.Left(9, 4), 5},
		{"Left(4, 9)", cap.Left(4, 9), 0},
	} {
		if c.got != c.want {
			t.Errorf("%s = %d, want %d", c.what, c.got, c.want)
		}
	}
}

func TestKeep(t *testing.T) {
	for _, n := range edges() {
		for _, lo := range edges() {
			for _, hi := range edges() {
				wanted := taken(n)
				if l := taken(lo); wanted.Cmp(l) < 0 {
					wanted = l
				}
				if h := taken(hi); wanted.Cmp(h) > 0 {
					wanted = h
				}
				if got := cap.Keep(n, lo, hi); int64(got) != wanted.Int64() {
					t.Fatalf("Keep(%d, %d, %d) = %d, want %d", n, lo, hi, got, wanted)
				}
			}
		}
	}
}

// TestKeepWithinCrossedBounds: where the bounds exclude each other the upper one holds.
func TestKeepWithinCrossedBounds(t *testing.T) {
	for _, n := range []int{-1, 0, 2, 4, 7, 9, 11} {
		if got := cap.Keep(n, 9, 4); got != 4 {
			t.Errorf("Keep(%d, 9, 4) = %d", n, got)
		}
	}
}

func TestOverlap(t *testing.T) {
	const most = math.MaxUint32
	for _, c := range []struct {
		l    [][2]uint32
		want int
	}{
		{nil, 0},
		{[][2]uint32{}, 0},
		{[][2]uint32{{3, 9}}, 7},
		{[][2]uint32{{3, 3}}, 1},
		{[][2]uint32{{3, 2}}, 0},
		{[][2]uint32{{most, 0}}, 0},
		{[][2]uint32{{0, 0}}, 1},
		{[][2]uint32{{0, most}}, 1 << 32},
		{[][2]uint32{{0, most}, {0, most}}, 1 << 32},
		{[][2]uint32{{1, most}, {0, most}}, 1<<32 - 1},
		{[][2]uint32{{most, most}, {0, most}}, 1},
		{[][2]uint32{{3, 9}, {5, 12}}, 5},
		{[][2]uint32{{5, 12}, {3, 9}}, 5},
		{[][2]uint32{{3, 9}, {9, 12}}, 1},
		{[][2]uint32{{3, 9}, {10, 12}}, 0},
		{[][2]uint32{{3, 9}, {4, 5}}, 2},
		{[][2]uint32{{3, 9}, {4, 5}, {6, 9}}, 0},
		{[][2]uint32{{3, 9}, {5, 12}, {1, 7}}, 3},
		{[][2]uint32{{3, 9}, {8, 5}, {1, 7}}, 0},
		{[][2]uint32{{8, 5}, {3, 9}}, 0},
	} {
		if got := cap.Overlap(c.l); got != c.want {
			t.Errorf("Overlap(%v) = %d, want %d", c.l, got, c.want)
		}
	}
}

func TestOverlapCountsTicks(t *testing.T) {
	r := rand.New(rand.NewSource(4))
	for range 5000 {
		l := make([][2]uint32, 1+r.Intn(4))
		for i := range l {
			l[i] = [2]uint32{uint32(r.Intn(12)), uint32(r.Intn(20))}
		}
		count := 0
		for tick := range uint32(20) {
			if !slices.ContainsFunc(l, func(s [2]uint32) bool { return tick < s[0] || tick > s[1] }) {
				count++
			}
		}
		handed := slices.Clone(l)
		if got := cap.Overlap(handed); got != count {
			t.Fatalf("Overlap(%v) = %d, want %d", l, got, count)
		}
		if !slices.Equal(handed, l) {
			t.Fatal("Overlap changed what it was handed")
		}
	}
}

func TestLater(t *testing.T) {
	ticks := []uint32{0, 1, 9, 1 << 31, api.MaxTick - 5, api.MaxTick - 1, api.MaxTick}
	for _, tick := range ticks {
		for _, n := range edges() {
			want := new(big.Int).Add(big.NewInt(int64(tick)), taken(n))
			if want.Cmp(big.NewInt(api.MaxTick)) > 0 {
				want = big.NewInt(api.MaxTick)
			}
			if got := cap.Later(tick, n); int64(got) != want.Int64() {
				t.Errorf("Later(%d, %d) = %d, want %d", tick, n, got, want)
			}
		}
	}
	if cap.Later(api.MaxTick-1, 5) != api.MaxTick || cap.Later(7, -3) != 7 || cap.Later(7, 3) != 10 {
		t.Error("Later as the chapter tells it")
	}
}
