package shell_test

import (
	"fmt"
	"math/rand"
	"regexp"
	"strconv"
	"strings"
	"testing"

	"quadrille/api"
	"quadrille/note"
	"quadrille/shell"
	"quadrille/yard"
)

// twin is a yard that is told by hand what lines say.
type twin struct {
	t       *testing.T
	y       *yard.Yard
	done    uint32
	replies int
	forms   map[string]*regexp.Regexp
}

func newTwin(t *testing.T) *twin {
	t.Helper()
	y, e := yard.New(shell.Config())
	if e != api.OK {
		t.Fatal(e)
	}
	return &twin{t: t, y: y, forms: map[string]*regexp.Regexp{}}
}

// taken answers the numbers of a line, if it is of that form.
func (w *twin) taken(form, line string) ([]int, bool) {
	if w.forms[form] == nil {
		text := strings.ReplaceAll(form, "N", "(0|[1-9][0-9]{0,8})")
		w.forms[form] = regexp.MustCompile(`\A` + text + `\z`)
	}
	words := w.forms[form].FindStringSubmatch(line)
	if words == nil {
		return nil, false
	}
	var l []int
	for _, w := range words[1:] {
		n, _ := strconv.Atoi(w)
		l = append(l, n)
	}
	return l, true
}

// steps answers the forms of lines that are steps, and what they say.
func steps() map[string]func(l []int) yard.Step {
	of := func(kind byte) func(l []int) yard.Step {
		return func(l []int) yard.Step { return yard.Step{Kind: kind, N: l[0]} }
	}
	return map[string]func(l []int) yard.Step{
		"tick":      func([]int) yard.Step { return yard.Step{Kind: yard.Tick} },
		"calm N":    of(yard.Calm),
		"land N":    of(yard.Land),
		"echo N":    of(yard.Echo),
		"lose N":    of(yard.Lose),
		"restart N": of(yard.Restart),
		"arm N":     of(yard.Arm),
		"hear N":    of(yard.Deaf),
		"deaf N":    func(l []int) yard.Step { return yard.Step{Kind: yard.Deaf, N: l[0], On: true} },
		"crash N N": func(l []int) yard.Step {
			spelt := strconv.FormatInt(int64(l[0]), 4)
			fates := make([]byte, 64)
			for i := range spelt {
				fates[i] = spelt[len(spelt)-1-i] - '0'
			}
			return yard.Step{Kind: yard.Crash, Data: fates, Cut: l[1]}
		},
	}
}

// requests answers the forms of lines that ask, and what they ask for.
func requests() map[string]func(l []int) api.Request {
	return map[string]func(l []int) api.Request{
		"submit N N N": func(l []int) api.Request {
			q := api.Request{Kind: api.Submit, Tier: 255, K: l[1], W: l[2]}
			if l[0] < 256 {
				q.Tier = byte(l[0])
			}
			return q
		},
		"cancel N": func(l []int) api.Request { return api.Request{Kind: api.Cancel, Job: uint32(l[0])} },
		"query N":  func(l []int) api.Request { return api.Request{Kind: api.Query, Job: uint32(l[0])} },
	}
}

// answer does what a line says.
func (w *twin) answer(line string) string {
	switch line {
	case "jobs", "rows", "nodes":
		return w.tell(line)
	case "air":
		return fmt.Sprint(w.y.Air().Len())
	}
	for form, step := range steps() {
		if l, ok := w.taken(form, line); ok {
			return outcome(w.y.Do(step(l)))
		}
	}
	for form, request := range requests() {
		if l, ok := w.taken(form, line); ok {
			return w.ask(request(l))
		}
	}
	return "error 16"
}

// outcome answers how an error is told.
func outcome(e api.Errno) string {
	if e == api.OK {
		return "ok"
	}
	return fmt.Sprintf("error %d", e)
}

// ask asks for q.
func (w *twin) ask(q api.Request) string {
	w.t.Helper()
	if q.Kind != api.Query {
		q.Seq = w.done + 1
	}
	p, e := note.Request(q)
	if e != api.OK {
		w.t.Fatal(q, e)
	}
	if e := w.y.Do(yard.Step{Kind: yard.Ask, Data: p}); e != api.OK {
		return outcome(e)
	}
	w.replies++
	l := w.y.Replies()
	if len(l) != w.replies {
		w.t.Fatal(len(l), w.replies)
	}
	r, _ := note.ReadReply(l[len(l)-1])
	switch {
	case r.E != api.OK:
		return outcome(r.E)
	case q.Kind == api.Query:
		return fmt.Sprintf("state %d credit %d", r.State, r.Credit)
	}
	w.done++
	return fmt.Sprintf("job %d", r.Job)
}

// tell answers what is told of the jobs, the rows or the nodes.
func (w *twin) tell(what string) string {
	var l []string
	if what == "nodes" {
		for node := range 4 {
			h := w.y.Hand(node)
			text := fmt.Sprintf("life %d epoch %d", h.Life(), h.Epoch())
			for _, r := range h.Ranks() {
				text += fmt.Sprintf(" %d%s", r.Job, map[bool]string{true: "+"}[r.Run])
			}
			l = append(l, text)
		}
		return strings.Join(l, "; ")
	}
	d := w.y.Desk()
	if d == nil || !d.Up() {
		return "down"
	}
	if what == "jobs" {
		l = append(l, fmt.Sprint("now ", w.y.Now()))
		for _, j := range d.Table().Active() {
			l = append(l, fmt.Sprintf(" %d %d %d %d %d %d", j.ID, j.Tier, j.K, j.W, j.State, j.Credit))
		}
		return strings.Join(l, ";")
	}
	m := d.Brain().Matrix()
	l = append(l, fmt.Sprint("gen ", d.Brain().Gen()))
	for row := range 3 {
		l = append(l, fmt.Sprintf(" %d %d %d %d", m.At(row, 0), m.At(row, 1), m.At(row, 2), m.At(row, 3)))
	}
	return strings.Join(l, ";")
}

// anyLine answers any line; mostly one that does something.
func anyLine(r *rand.Rand) string {
	switch n := r.Intn(120); {
	case n < 12:
		return fmt.Sprint("submit ", r.Intn(5), " ", r.Intn(6), " ", r.Intn(40))
	case n < 15:
		return fmt.Sprint("cancel ", r.Intn(14))
	case n < 21:
		return fmt.Sprint("query ", r.Intn(14))
	case n < 33:
		return "tick"
	case n < 45:
		return fmt.Sprint("calm ", r.Intn(14))
	case n < 65:
		return fmt.Sprint("land ", r.Intn(10))
	case n < 69:
		return fmt.Sprint("echo ", r.Intn(12))
	case n < 73:
		return fmt.Sprint("lose ", r.Intn(12))
	case n < 75:
		return fmt.Sprint("restart ", r.Intn(5))
	case n < 78:
		return fmt.Sprint("arm ", r.Intn(20))
	case n < 82:
		return fmt.Sprint("crash ", r.Intn(1000000000)>>r.Intn(30), " ", r.Intn(150))
	case n < 85:
		return fmt.Sprint("deaf ", r.Intn(5))
	case n < 90:
		return fmt.Sprint("hear ", r.Intn(5))
	case n < 114:
		return look()[n%4]
	}
	return spoilt(r, "crash 1 2")
}

// spoilt answers a line of which something is another byte, or is missing, or comes twice.
func spoilt(r *rand.Rand, line string) string {
	if other := anyLine(r); other != "" {
		line = other
	}
	i := r.Intn(len(line))
	switch r.Intn(4) {
	case 0:
		return line[:i] + line[i+1:]
	case 1:
		return line[:i] + line[i:i+1] + line[i:]
	case 2:
		return line[:i] + string(rune(' '+r.Intn(95))) + line[i+1:]
	}
	return line[:i] + fmt.Sprint(r.Intn(1<<31), r.Intn(1<<31)) + line[i:]
}

// TestTwin: whatever a script says, it is answered as is said of a yard that is told the same by hand.
func TestTwin(t *testing.T) {
	count := map[string]int{}
	for seed := range int64(80) {
		r := rand.New(rand.NewSource(seed))
		w := newTwin(t)
		var lines []string
		for range 400 {
			lines = append(lines, anyLine(r))
		}
		for i, got := range run(t, lines...) {
			want := w.answer(lines[i])
			if got != want {
				t.Fatalf("seed %d, line %d: %q is answered %q, want %q", seed, i, lines[i], got, want)
			}
			front, _, _ := strings.Cut(want, " ")
			if front == "error" {
				front = want
			}
			count[front]++
			if strings.Contains(want, "+") {
				count["+"]++
			}
		}
	}
	for _, what := range []string{
		"ok", "job", "state", "now", "gen", "life", "down", "+", "error 1", "error 6", "error 9", "error 10", "error 13", "error 16",
	} {
		if count[what] < 20 {
			t.Errorf("%q is told %d times", what, count[what])
		}
	}
}

// TestTheSameAgain: of the same text there are the same answers, whatever was run in between.
func TestTheSameAgain(t *testing.T) {
	r := rand.New(rand.NewSource(9))
	var texts, answers []string
	for range 20 {
		var lines []string
		for range 300 {
			lines = append(lines, anyLine(r))
		}
		texts = append(texts, strings.Join(lines, "\n"))
		got, _ := shell.Run(texts[len(texts)-1])
		answers = append(answers, got)
	}
	for i, text := range texts {
		if got, e := shell.Run(text); e != api.OK || got != answers[i] {
			t.Errorf("text %d: error %d, and other answers", i, e)
		}
	}
}

// TestAnyBytes: whatever a text has, each line of it is answered.
func TestAnyBytes(t *testing.T) {
	r := rand.New(rand.NewSource(4))
	words := []string{"submit", "cancel", "query", "tick", "calm", "land", "crash", "jobs", "nodes", " ", " ", " ", " ", "\n", "\n", "\n", "0", "1", "9", "12", "\x00", "\xff", "\r"}
	for range 3000 {
		text := ""
		for range r.Intn(60) {
			if r.Intn(20) == 0 {
				text += string([]byte{byte(r.Intn(256))})
			} else {
				text += words[r.Intn(len(words))]
			}
		}
		want := strings.Count(text, "\n")
		if text != "" && !strings.HasSuffix(text, "\n") {
			want++
		}
		got, e := shell.Run(text)
		if n := strings.Count(got, "\n"); e != api.OK || n != want || got != "" && !strings.HasSuffix(got, "\n") {
			t.Fatalf("%q: %q, error %d: %d answers, want %d", text, got, e, n, want)
		}
	}
}
