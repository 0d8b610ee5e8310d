package shell_test

import (
	"fmt"
	"math/rand"
	"testing"
)

// anyJobs answers up to that many lines that submit a job of at most so many ticks, and what each is to be asked for once it is Done.
func anyJobs(r *rand.Rand, most, ticks int) (lines, want []string) {
	for range 1 + r.Intn(most) {
		w := 1 + r.Intn(ticks)
		lines = append(lines, fmt.Sprint("submit ", r.Intn(4), " ", 1+r.Intn(4), " ", w))
		want = append(want, fmt.Sprint("state 4 credit ", w))
	}
	return lines, want
}

// doneBehind fails the test unless behind the lines all jobs are Done, with just their ticks.
func doneBehind(t *testing.T, lines, want []string) {
	t.Helper()
	var queries []string
	for i := range want {
		queries = append(queries, fmt.Sprint("query ", i+1))
	}
	l := run(t, joined(lines, queries)...)
	for i, got := range l[len(lines):] {
		if got != want[i] {
			t.Fatalf("%q: job %d: %q, want %q", lines, i+1, got, want[i])
		}
	}
}

// TestSix: up to six jobs of up to twelve ticks are Done within 600.
func TestSix(t *testing.T) {
	for seed := range int64(40) {
		lines, want := anyJobs(rand.New(rand.NewSource(seed)), 6, 12)
		doneBehind(t, append(lines, "calm 300", "calm 300"), want)
	}
}

// anyHarm answers a line in which anything happens but that something is asked.
func anyHarm(r *rand.Rand) string {
	switch n := r.Intn(30); {
	case n < 4:
		return fmt.Sprint("calm ", r.Intn(20))
	case n < 8:
		return "tick"
	case n < 18:
		return fmt.Sprint("land ", r.Intn(10))
	case n < 20:
		return fmt.Sprint("echo ", r.Intn(10))
	case n < 22:
		return fmt.Sprint("lose ", r.Intn(10))
	case n < 23:
		return fmt.Sprint("restart ", r.Intn(4))
	case n < 25:
		return fmt.Sprint("arm ", 1+r.Intn(30))
	case n < 27:
		return fmt.Sprint("crash ", r.Intn(1<<20), " ", r.Intn(128))
	case n < 28:
		return fmt.Sprint("deaf ", r.Intn(4))
	}
	return fmt.Sprint("hear ", r.Intn(4))
}

// TestStorm: whatever happens in between, all jobs that were acknowledged are Done once all comes and nothing fails.
func TestStorm(t *testing.T) {
	for seed := range int64(25) {
		r := rand.New(rand.NewSource(seed))
		lines, want := anyJobs(r, 10, 60)
		for range 500 {
			lines = append(lines, anyHarm(r))
		}
		lines = append(lines, "crash 0 0", "hear 0", "hear 1", "hear 2", "hear 3")
		// 3 (Lease + Quiet) + 10, and 2 Rows (Quantum + 4) (S + 4 J) + (Grace + 8) J + 20, for ten jobs of sixty ticks
		bound := 46 + 2*3*9*(10*12+4*10) + 14*10 + 20
		lines = append(lines, times(1+bound/400, "calm 400")...)
		doneBehind(t, lines, want)
	}
}
