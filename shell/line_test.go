package shell_test

import (
	"slices"
	"strings"
	"testing"
)

// look answers lines that tell all that is to be told.
func look() []string { return []string{"jobs", "rows", "nodes", "air"} }

// begin answers lines behind which each kind of line would do something.
func begin() []string {
	return []string{"submit 1 2 50", "submit 0 4 50", "calm 12", "tick", "restart 1", "deaf 3"}
}

// wrong answers words that aren't numbers.
func wrong() []string {
	return []string{
		"", "00", "01", "000000001", "0000000001", "1000000000", "1234567890", "9999999999", "99999999999999999999",
		"18446744073709551617", "-1", "-0", "+1", "+0", "1.", "1.0", ".1", "1e1", "0x1", "0b1", "0o1", "a", "x1", "1x", "1_0", "1,0",
		"\t", "1\t", "\t1", "\r", "1\r", "1\x00", "\x00", "\xff", "1\xff", "\u0661", "\uff11", "\u00a01", "/", ":", "1/", "1:", "N", "tick",
	}
}

// forms answers how many numbers stand behind each line's word.
func forms() map[string]int {
	return map[string]int{
		"submit": 3, "cancel": 1, "query": 1, "tick": 0, "calm": 1, "land": 1, "echo": 1, "lose": 1, "restart": 1, "arm": 1,
		"crash": 2, "deaf": 1, "hear": 1, "jobs": 0, "rows": 0, "nodes": 0, "air": 0,
	}
}

// none fails the test unless each of the lines is none, and changes nothing.
func none(t *testing.T, lines []string) {
	t.Helper()
	was := run(t, joined(begin(), look())...)
	l := run(t, joined(begin(), lines, look())...)
	told := l[len(begin()) : len(begin())+len(lines)]
	for i, got := range told {
		if got != "error 16" {
			t.Errorf("%q is answered %q", lines[i], got)
		}
	}
	if !slices.Equal(l[len(begin())+len(lines):], was[len(begin()):]) {
		t.Errorf("%q: something has changed", lines)
	}
}

// TestNoLine: a line that is none of these is answered so, and does nothing.
func TestNoLine(t *testing.T) {
	none(t, []string{
		"", " ", "  ", "\t", "x", "0", "1", "-", "#", "# tick", "//", "ok", "error 16", "job 1", "hello", "help", "quit", "down",
		"Tick", "TICK", "ticks", "tic", "t", "tick.", "tick\t", "tick\r", "tick\x00", "\x00tick", "ti ck", "tickjobs", "ticktick",
		"tick;", "tick; tick", "tick tick", "jobs jobs", "ask", "crash", "calm", "Calm 5", "calm5", "calm=5", "calm(5)", "calm\t5",
		"submit", "submit 1,2,5", "submit TIER K W", "calm N", "query JOB", "land\u00a00", "land first", "hears 3", "hear", "undeaf 3",
		"job", "row", "node", "jobs;", "\xffjobs", "jobs\xff", "now", "state 1", "desk", "up", "lost 1",
	})
}

// TestWordsOfALine: between words stands one blank, and nothing ahead of them, or behind.
func TestWordsOfALine(t *testing.T) {
	for word, n := range forms() {
		line := word + strings.Repeat(" 1", n)
		lines := []string{" " + line, line + " ", "  " + line, line + "  ", " " + line + " ", line + " 1", line + " 0", line + " x", "1 " + line}
		lines = append(lines, strings.ToUpper(line), line[1:], word+"s"+strings.Repeat(" 1", n), line+" "+word, line+"\t", "\t"+line)
		if n == 0 {
			lines = append(lines, line+"1", line+"0")
		} else {
			lines = append(lines, word, word+" ", strings.TrimSuffix(line, " 1"), strings.TrimSuffix(line, "1"))
			lines = append(lines, strings.Replace(line, " ", "  ", 1), strings.Replace(line, " ", "\t", 1), strings.Replace(line, " ", "", 1))
		}
		if n > 1 {
			lines = append(lines, strings.TrimSuffix(line, " 1")+"  1", strings.TrimSuffix(line, " 1")+"1", strings.TrimSuffix(line, " 1")+"\t1")
		}
		for _, w := range wrong() {
			for place := range n {
				words := slices.Repeat([]string{"1"}, n)
				words[place] = w
				lines = append(lines, word+" "+strings.Join(words, " "))
			}
		}
		none(t, lines)
	}
}

// TestNumbers: the least number, and the greatest that has nine digits.
func TestNumbers(t *testing.T) {
	is(t,
		"calm 0", "ok", "calm 999999999", "error 1", "calm 10", "ok", "jobs", "now 10",
		"land 0", "error 6", "land 999999999", "error 6", "echo 999999999", "error 6", "lose 999999999", "error 6",
		"restart 0", "ok", "restart 999999999", "error 1", "deaf 999999999", "error 1", "hear 999999999", "error 1", "hear 0", "ok",
		"arm 999999999", "ok", "arm 0", "ok", "crash 999999999 999999999", "ok", "crash 0 0", "ok",
		"cancel 0", "error 6", "cancel 999999999", "error 6", "query 0", "error 6", "query 999999999", "error 6",
		"submit 0 999999999 999999999", "error 1", "submit 0 999999999 10000", "error 9", "submit 999999999 1 1", "error 1",
		"submit 0 0 0", "error 1", "submit 0 1 1", "job 1",
	)
}
