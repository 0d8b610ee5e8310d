package shell_test

import (
	"slices"
	"strings"
	"testing"
)

// TestTellJobs: those that are active, with all that is known of each.
func TestTellJobs(t *testing.T) {
	is(t,
		"jobs", "now 0",
		"submit 3 2 700", "job 1", "submit 0 1 10000", "job 2", "submit 1 4 1", "job 3",
		"jobs", "now 0; 1 3 2 700 0 0; 2 0 1 10000 0 0; 3 1 4 1 0 0",
		"cancel 2", "job 2",
		"jobs", "now 0; 1 3 2 700 0 0; 3 1 4 1 0 0",
		"tick", "ok",
		"jobs", "now 1; 1 3 2 700 0 0; 3 1 4 1 0 0",
		"cancel 3", "job 3", "cancel 1", "job 1",
		"jobs", "now 1",
	)
}

// TestTellAJob: a job alone goes its way: it is placed, runs, and has credit; what is told by a query is told of it here too.
func TestTellAJob(t *testing.T) {
	var lines []string
	for range 40 {
		lines = append(lines, "calm 1", "jobs", "query 1")
	}
	states := map[string]bool{}
	credit := "0"
	for i, l := range run(t, append([]string{"submit 2 3 12"}, lines...)...)[1:] {
		switch i % 3 {
		case 1:
			words := strings.Split(l, " ")
			if len(words) == 2 { // it is Done
				states["4"], credit = true, "12"
				continue
			}
			if front := strings.Join(words[2:6], " "); len(words) != 8 || front != "1 2 3 12" {
				t.Fatalf("%q", l)
			}
			states[words[6]], credit = true, words[7]
		case 2:
			words := strings.Split(l, " ")
			if words[0] != "state" || !states[words[1]] || words[2] != "credit" || words[3] != credit {
				t.Fatalf("%q, but %v with credit %s", l, states, credit)
			}
		}
	}
	if !states["0"] || !states["2"] || !states["4"] {
		t.Errorf("it was in the states %v", states)
	}
}

// TestTellRows: the generation, and who stands in each cell.
func TestTellRows(t *testing.T) {
	l := run(t, "submit 0 3 300", "submit 0 2 300", "submit 0 1 300", "calm 12", "rows", "calm 40", "rows", "cancel 2", "calm 20", "rows")
	for i, want := range map[int]string{4: "; 1 1 1 3; 2 2 0 0; 0 0 0 0", 6: "; 1 1 1 3; 2 2 0 0; 0 0 0 0", 9: "; 1 1 1 3; 0 0 0 0; 0 0 0 0"} {
		if front, rest, _ := strings.Cut(l[i], ";"); ";"+rest != want || !strings.HasPrefix(front, "gen ") {
			t.Errorf("line %d: %q, want %q", i, l[i], want)
		}
	}
	is(t, "submit 0 4 3", "job 1", "rows", "gen 0; 0 0 0 0; 0 0 0 0; 0 0 0 0", "calm 40", "ok", "rows", "gen 1; 0 0 0 0; 0 0 0 0; 0 0 0 0")
}

// TestTellNodes: each node's life and epoch, and its ranks; of those that run it is told.
func TestTellNodes(t *testing.T) {
	lines := []string{"submit 0 3 100", "submit 0 2 100", "submit 0 1 100", "calm 12"}
	begin := len(lines)
	for range 40 {
		lines = append(lines, "nodes", "calm 1")
	}
	may := [][]string{{" 1 2", " 1+ 2", " 1 2+"}, {" 1 2", " 1+ 2", " 1 2+"}, {" 1", " 1+"}, {" 3", " 3+"}}
	told := map[string]bool{}
	for i, l := range run(t, lines...)[begin:] {
		if i%2 != 0 {
			continue
		}
		nodes := strings.Split(l, "; ")
		if len(nodes) != len(may) {
			t.Fatalf("%q", l)
		}
		for node, text := range nodes {
			ranks, ok := strings.CutPrefix(text, "life 2 epoch 1")
			if !ok || !slices.Contains(may[node], ranks) {
				t.Fatalf("node %d: %q", node, text)
			}
			told[ranks] = true
		}
	}
	for _, ranks := range slices.Concat(may...) {
		if !told[ranks] {
			t.Errorf("no node was told to have%s", ranks)
		}
	}
}

// TestTellNothingMore: to tell does nothing.
func TestTellNothingMore(t *testing.T) {
	script := []string{"submit 0 3 20", "calm 7", "submit 3 2 9", "calm 9", "tick", "land 3", "arm 3", "calm 6", "crash 1 40", "calm 30"}
	var more []string
	for _, l := range script {
		more = append(append(more, look()...), l)
	}
	a, b := run(t, append(script, look()...)...), run(t, append(more, look()...)...)
	for i := range script {
		if a[i] != b[5*i+4] {
			t.Errorf("%q is answered %q, else %q", script[i], b[5*i+4], a[i])
		}
	}
	for i := range look() {
		if got, want := b[len(b)-1-i], a[len(a)-1-i]; got != want {
			t.Errorf("%q, else %q", got, want)
		}
	}
}
