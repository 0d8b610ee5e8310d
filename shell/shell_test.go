package shell_test

import (
	"strings"
	"testing"

	"quadrille/api"
	"quadrille/brain"
	"quadrille/desk"
	"quadrille/shell"
	"quadrille/yard"
)

// run answers the answers of lines, one each.
func run(t *testing.T, lines ...string) []string {
	t.Helper()
	text, e := shell.Run(strings.Join(lines, "\n"))
	if e != api.OK {
		t.Fatalf("%q: error %d", lines, e)
	}
	l := strings.Split(text, "\n")
	if last := len(l) - 1; l[last] != "" || last != len(lines) {
		t.Fatalf("%q: %d answers, the last of them %q", lines, last, l[last])
	}
	return l[:len(l)-1]
}

// is fails the test unless each line is answered as is awaited: lines and answers take turns.
func is(t *testing.T, script ...string) {
	t.Helper()
	var lines, want []string
	for i, l := range script {
		if i%2 == 0 {
			lines = append(lines, l)
		} else {
			want = append(want, l)
		}
	}
	for i, got := range run(t, lines...) {
		if got != want[i] {
			t.Errorf("%q: %q is answered %q, want %q", lines[:i], lines[i], got, want[i])
		}
	}
}

// times answers a line n times.
func times(n int, line string) []string {
	var l []string
	for range n {
		l = append(l, line)
	}
	return l
}

// joined answers all these lines, one behind the other.
func joined(l ...[]string) []string {
	var all []string
	for _, x := range l {
		all = append(all, x...)
	}
	return all
}

// TestConfig: the numbers of the chapter.
func TestConfig(t *testing.T) {
	want := yard.Config{
		Desk: desk.Config{Brain: brain.Config{Nodes: 4, Rows: 3, Quantum: 5, Grace: 6}, Size: 60, Images: 200},
		Air:  1000,
	}
	for range 2 {
		c := shell.Config()
		if c != want {
			t.Errorf("%+v, want %+v", c, want)
		}
		c.Air, c.Desk.Brain.Nodes = 1, 2
	}
	if _, e := yard.New(shell.Config()); e != api.OK {
		t.Error("no yard: error", e)
	}
}

// TestExample: submitted, sixty ticks: done.
func TestExample(t *testing.T) {
	is(t, "submit 1 2 5", "job 1", "calm 60", "ok", "query 1", "state 4 credit 5")
}

// TestNewYard: each Run has a yard of its own, in which nothing has happened.
func TestNewYard(t *testing.T) {
	for range 2 {
		is(t,
			"jobs", "now 0",
			"rows", "gen 0; 0 0 0 0; 0 0 0 0; 0 0 0 0",
			"nodes", "life 1 epoch 0; life 1 epoch 0; life 1 epoch 0; life 1 epoch 0",
			"air", "0",
			"submit 0 1 1", "job 1",
			"tick", "ok",
			"restart 2", "ok",
			"air", "8",
		)
	}
}

// TestLineEnds: there is an answer for each line, and behind the last one the end may be missing.
func TestLineEnds(t *testing.T) {
	for text, want := range map[string]string{
		"":               "",
		"\n":             "error 16\n",
		"\n\n":           "error 16\nerror 16\n",
		"air":            "0\n",
		"air\n":          "0\n",
		"air\n\n":        "0\nerror 16\n",
		"\nair":          "error 16\n0\n",
		"tick\nair":      "ok\n8\n",
		"tick\nair\n":    "ok\n8\n",
		"tick\n\nair\n":  "ok\nerror 16\n8\n",
		"tick\r\nair\n":  "error 16\n0\n",
		"tick\rair":      "error 16\n",
		"tick air":       "error 16\n",
		"tick;air":       "error 16\n",
		"air\n\x00":      "0\nerror 16\n",
		"air\n ":         "0\nerror 16\n",
		"\ufeffair\nair": "error 16\n0\n",
	} {
		if got, e := shell.Run(text); e != api.OK || got != want {
			t.Errorf("%q: %q, error %d, want %q", text, got, e, want)
		}
	}
}

// TestLength: a text has as many bytes as it may, and not one more.
func TestLength(t *testing.T) {
	for what, text := range map[string]string{
		"a line":       strings.Repeat("x", api.MaxText),
		"blanks":       strings.Repeat(" ", api.MaxText),
		"ends":         strings.Repeat("\n", api.MaxText),
		"noughts":      strings.Repeat("\x00", api.MaxText),
		"many bytes":   strings.Repeat("\xff", api.MaxText),
		"long runes":   strings.Repeat("\u20ac", api.MaxText/3) + "..",
		"a number":     "calm " + strings.Repeat("0", api.MaxText-5),
		"many numbers": "calm" + strings.Repeat(" 1", (api.MaxText-4)/2),
		"many words":   strings.Repeat("tick ", api.MaxText/5),
	} {
		if len(text) != api.MaxText {
			t.Fatalf("%s: %d bytes", what, len(text))
		}
		n := 1 + strings.Count(strings.TrimSuffix(text, "\n"), "\n")
		if got, e := shell.Run(text); e != api.OK || got != strings.Repeat("error 16\n", n) {
			t.Errorf("%s: error %d, %d bytes", what, e, len(got))
		}
		for _, more := range []string{text + "\n", "\n" + text, text + "x", text + text} {
			if got, e := shell.Run(more); e != api.ErrLong || got != "" {
				t.Errorf("%s: %d bytes: error %d, %d bytes are answered", what, len(more), e, len(got))
			}
		}
	}
	ticks := strings.Repeat("tick\n", api.MaxText/5)
	if got, e := shell.Run(ticks); e != api.OK || got != strings.Repeat("ok\n", api.MaxText/5) {
		t.Errorf("ticks: error %d, %d bytes", e, len(got))
	}
	if got, e := shell.Run(ticks + "\n"); e != api.ErrLong || got != "" {
		t.Errorf("ticks, and a byte: error %d, %q", e, got)
	}
}

// TestLongAnswers: an answer may be far longer than its text.
func TestLongAnswers(t *testing.T) {
	l := run(t, joined(times(64, "submit 3 4 10000"), times(700, "jobs"))...)
	if n := strings.Count(l[len(l)-1], ";"); n != 64 {
		t.Errorf("%d jobs are told", n)
	}
	for _, told := range l[65:] {
		if told != l[64] {
			t.Fatalf("%q, then %q", l[64], told)
		}
	}
}
