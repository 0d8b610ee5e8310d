package slab_test

import (
	"bytes"
	"math/rand"
	"testing"

	"quadrille/api"
	"quadrille/slab"
)

// change is a write of the model's that is under way.
type change struct {
	at int
	p  []byte
}

// model is a slab as the chapter says it: what was flushed, and changes upon it.
type model struct {
	flushed [][]byte
	way     []change
	on      bool
	toGo    int
	steps   int
}

func newModel(n int) *model {
	m := &model{on: true}
	for range n {
		m.flushed = append(m.flushed, make([]byte, api.Sector))
	}
	return m
}

func (m *model) step() bool {
	m.steps++
	goes := m.toGo == 1
	if m.toGo > 0 {
		m.toGo--
	}
	m.on = !goes
	return goes
}

func (m *model) write(i int, p []byte) api.Errno {
	if i < 0 || i >= len(m.flushed) {
		return api.ErrArg
	}
	if len(p) > api.Sector {
		return api.ErrLong
	}
	if !m.on {
		return api.ErrDown
	}
	m.way = append(m.way, change{i, append(bytes.Clone(p), make([]byte, api.Sector-len(p))...)})
	if m.step() {
		return api.ErrDown
	}
	return api.OK
}

func (m *model) read(i int) ([]byte, api.Errno) {
	if i < 0 || i >= len(m.flushed) {
		return nil, api.ErrArg
	}
	if !m.on {
		return nil, api.ErrDown
	}
	for k := len(m.way) - 1; k >= 0; k-- {
		if m.way[k].at == i {
			return m.way[k].p, api.OK
		}
	}
	return m.flushed[i], api.OK
}

func (m *model) flush() api.Errno {
	if !m.on || m.step() {
		return api.ErrDown
	}
	for _, c := range m.way {
		m.flushed[c.at] = c.p
	}
	m.way = nil
	return api.OK
}

func (m *model) crash(fates []byte, cut int) {
	for k, c := range m.way {
		fate := 0
		if k < len(fates) {
			fate = int(fates[k]) % 4
		}
		m.flushed[c.at] = torn(m.flushed[c.at], c.p, fate, cut)
	}
	m.way, m.on, m.toGo = nil, true, 0
}

// held fails the test unless slab and model tell the same.
func held(t *testing.T, s *slab.Slab, m *model) {
	t.Helper()
	if s.On() != m.on || s.Steps() != m.steps || s.Way() != len(m.way) || s.Len() != len(m.flushed) {
		t.Fatalf("On %v, Steps %d, Way %d, Len %d; the model: %v, %d, %d, %d",
			s.On(), s.Steps(), s.Way(), s.Len(), m.on, m.steps, len(m.way), len(m.flushed))
	}
	for i := -1; i <= len(m.flushed); i++ {
		p, e := s.Read(i)
		q, f := m.read(i)
		if e != f || !bytes.Equal(p, q) {
			t.Fatalf("Read(%d): error %d, % x; the model: %d, % x", i, e, p, f, q)
		}
	}
}

func TestAgainstTheModel(t *testing.T) {
	for seed := range 60 {
		r := rand.New(rand.NewSource(int64(seed)))
		n := 1 + r.Intn(5)
		s, m := made(t, n), newModel(n)
		for range 400 {
			var e, f api.Errno
			switch r.Intn(12) {
			case 0, 1:
				e, f = s.Flush(), m.flush()
			case 2:
				toGo := r.Intn(6)
				m.toGo = toGo
				e = s.Arm(toGo)
			case 3:
				fates := make([]byte, r.Intn(len(m.way)+2))
				r.Read(fates)
				cut := r.Intn(api.Sector+20) - 10
				e = s.Crash(fates, cut)
				m.crash(fates, cut)
			default:
				i := r.Intn(n+2) - 1
				p := make([]byte, r.Intn(api.Sector+3))
				r.Read(p)
				e, f = s.Write(i, p), m.write(i, p)
			}
			if e != f {
				t.Fatalf("error %d; the model's: %d", e, f)
			}
			held(t, s, m)
		}
	}
}
