package shell

import (
	"math"
	"strconv"

	"quadrille/api"
	"quadrille/note"
	"quadrille/yard"
)

// fates is how many of them a crash has.
const fates = 64

// session is a yard, and the client that asks in it.
type session struct {
	yard *yard.Yard
	done uint32 // how many of its submits and cancels were answered without error
}

// answer has a line be done, and answers what is said to it.
func (s *session) answer(line string) string {
	c, ok := read(line)
	if !ok {
		return said(api.ErrText)
	}
	switch c.word {
	case "submit", "cancel":
		return s.change(c)
	case "query":
		return s.query(c)
	case "jobs":
		return s.jobs()
	case "rows":
		return s.rows()
	case "nodes":
		return s.nodes()
	case "air":
		return strconv.Itoa(s.yard.Air().Len())
	}
	return said(s.yard.Do(step(c)))
}

// said answers the line of an error.
func said(e api.Errno) string {
	if e == api.OK {
		return "ok"
	}
	return "error " + strconv.Itoa(int(e))
}

// step answers what is to happen in the yard.
func step(c command) yard.Step {
	if c.word == "tick" {
		return yard.Step{Kind: yard.Tick}
	}
	n := c.numbers[0]
	switch c.word {
	case "calm":
		return yard.Step{Kind: yard.Calm, N: n}
	case "land":
		return yard.Step{Kind: yard.Land, N: n}
	case "echo":
		return yard.Step{Kind: yard.Echo, N: n}
	case "lose":
		return yard.Step{Kind: yard.Lose, N: n}
	case "restart":
		return yard.Step{Kind: yard.Restart, N: n}
	case "arm":
		return yard.Step{Kind: yard.Arm, N: n}
	case "crash":
		return yard.Step{Kind: yard.Crash, Data: digits(n), Cut: c.numbers[1]}
	}
	return yard.Step{Kind: yard.Deaf, N: n, On: c.word == "deaf"}
}

// digits answers those of n to the base 4, the lowest first, one for each fate.
func digits(n int) []byte {
	l := make([]byte, fates)
	for i := range l {
		l[i] = byte(n % 4)
		n /= 4
	}
	return l
}

// change has a job be submitted, or cancelled.
func (s *session) change(c command) string {
	q := api.Request{Seq: s.done + 1, Kind: api.Cancel}
	if c.word == "submit" {
		q.Kind = api.Submit
		q.Tier, q.K, q.W = byte(min(c.numbers[0], math.MaxUint8)), c.numbers[1], c.numbers[2]
	} else {
		q.Job = uint32(c.numbers[0])
	}
	r := s.ask(q)
	if r.E != api.OK {
		return said(r.E)
	}
	s.done++
	return "job" + spaced(int(r.Job))
}

// query has it be asked how far a job is.
func (s *session) query(c command) string {
	r := s.ask(api.Request{Kind: api.Query, Job: uint32(c.numbers[0])})
	if r.E != api.OK {
		return said(r.E)
	}
	return "state" + spaced(int(r.State)) + " credit" + spaced(r.Credit)
}

// ask answers the reply to q; where there is none it has the error of that.
func (s *session) ask(q api.Request) api.Reply {
	p, e := note.Request(q)
	if e != api.OK {
		return api.Reply{E: e}
	}
	if e := s.yard.Do(yard.Step{Kind: yard.Ask, Data: p}); e != api.OK {
		return api.Reply{E: e}
	}
	l := s.yard.Replies()
	r, e := note.ReadReply(l[len(l)-1])
	if e != api.OK {
		return api.Reply{E: e}
	}
	return r
}
