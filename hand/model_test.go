package hand_test

import (
	"math/rand"
	"slices"
	"testing"

	"quadrille/api"
	"quadrille/hand"
	"quadrille/note"
	"quadrille/talk"
)

// model is a hand as all that its life was told, and a list of ranks.
type model struct {
	life, epoch, now, began uint32
	leases, gens            []uint32
	ranks                   []api.Rank // in the order in which they came
	end                     *talk.Talk
}

func newModel() *model {
	m := &model{}
	m.begin()
	return m
}

func (m *model) begin() {
	*m = model{life: m.life + 1, epoch: m.epoch, now: m.now, began: m.now, end: talk.New(theNode, m.epoch, m.life+1)}
}

func (m *model) bound() uint32 {
	return uint32(min(max(uint64(m.began)+8, uint64(slices.Max(append([]uint32{0}, m.leases...)))), 1<<32-1))
}

// find answers the rank of a job; nil: there is none.
func (m *model) find(job uint32) *api.Rank {
	for i := range m.ranks {
		if m.ranks[i].Job == job {
			return &m.ranks[i]
		}
	}
	return nil
}

// runs answers the rank that runs; nil: there is none.
func (m *model) runs() *api.Rank {
	for i := range m.ranks {
		if m.ranks[i].Run {
			return &m.ranks[i]
		}
	}
	return nil
}

func (m *model) tick(now uint32) []api.Packet {
	if now <= m.now {
		return nil
	}
	m.now = now
	if m.epoch > 0 && now > m.bound() {
		m.begin()
	}
	if r := m.runs(); r != nil {
		if r.To = now; r.From == 0 {
			r.From = now
		}
	}
	p, _ := note.Note(api.Note{Kind: api.Hello, Node: theNode, Epoch: m.epoch, Life: m.life, Tick: now})
	l := []api.Packet{{Node: theNode, Epoch: m.epoch, Life: m.life, Plain: true, Data: p}}
	if m.epoch > 0 {
		l = append(l, m.end.Tick()...)
	}
	return l
}

func (m *model) hear(k api.Packet) []api.Packet {
	if k.Node != theNode || k.Epoch == 0 || k.Epoch < m.epoch {
		return nil
	}
	if k.Epoch > m.epoch {
		m.epoch = k.Epoch
		m.begin()
	}
	if k.Plain {
		if n, e := note.ReadNote(k.Data); e == api.OK && n.Kind == api.Beat && n.Epoch == m.epoch {
			m.leases = append(m.leases, n.Tick)
		}
		return nil
	}
	p, told, answer, has := m.end.Hear(k)
	if !has {
		return nil
	}
	l := []api.Packet{answer}
	n, e := note.ReadNote(p)
	if !told || e != api.OK {
		return l
	}
	for _, n := range m.obey(n) {
		p, _ := note.Note(n)
		if k, e := m.end.Say(p); e == api.OK {
			l = append(l, k)
		}
	}
	return l
}

// obey answers what is said.
func (m *model) obey(n api.Note) []api.Note {
	r := m.find(n.Job)
	switch n.Kind {
	case api.Load:
		if r == nil && n.Job > 0 {
			m.ranks = append(m.ranks, api.Rank{Job: n.Job, Ver: n.Ver, Rank: n.Rank, Credit: n.Credit})
		}
		return []api.Note{{Kind: api.Loaded, Job: n.Job}}
	case api.Go:
		m.gens = append(m.gens, n.Gen)
		if r != nil && m.runs() == nil && n.Gen > 0 && n.Gen == slices.Max(m.gens) && m.bound() >= m.now && len(m.leases) > 0 {
			r.Run, r.Gen, r.From, r.To = true, n.Gen, 0, 0
		}
	case api.Stop:
		m.gens = append(m.gens, n.Gen)
		said := api.Note{Kind: api.Stopped, Gen: n.Gen}
		if r := m.runs(); r != nil && r.Gen <= n.Gen {
			r.Run = false
			said.Job, said.From, said.To = r.Job, r.From, r.To
		}
		return []api.Note{said}
	case api.Save:
		if r != nil && !r.Run {
			r.Ver, r.Credit = n.Ver, n.Credit
			return []api.Note{{Kind: api.Saved, Job: n.Job, Ver: n.Ver, Rank: r.Rank, Blob: hand.Blob(n.Job, r.Rank, n.Credit)}}
		}
	case api.Drop:
		m.ranks = slices.DeleteFunc(m.ranks, func(r api.Rank) bool { return r.Job == n.Job })
		return []api.Note{{Kind: api.Dropped, Job: n.Job}}
	case api.Warn:
		if r != nil {
			r.Warned = true
		}
	}
	return nil
}

// agree fails the test unless the hand is as the model.
func agree(t *testing.T, h *hand.Hand, m *model) {
	t.Helper()
	stands(t, h, m.life, m.epoch, m.now, m.bound())
	l := slices.Clone(m.ranks)
	slices.SortFunc(l, func(a, b api.Rank) int { return int(a.Job) - int(b.Job) })
	has(t, h, l...)
}

// some answers a note as the controller says it mostly, of few jobs and of generations near to gen.
func some(r *rand.Rand, gen uint32) api.Note {
	n := api.Note{Kind: byte(1 + r.Intn(12)), Job: uint32(r.Intn(6))}
	if r.Intn(3) > 0 {
		n.Kind = []byte{api.Load, api.Go, api.Stop, api.Save}[r.Intn(4)]
	}
	switch n.Kind {
	case api.Beat:
		return api.Note{Kind: n.Kind, Epoch: uint32(r.Intn(4)), Tick: uint32(r.Intn(200))}
	case api.Hello:
		return api.Note{Kind: n.Kind, Life: uint32(r.Intn(4))}
	case api.Load:
		n.Ver, n.Rank, n.Credit = uint32(r.Intn(9)), byte(r.Intn(16)), r.Intn(10001)
	case api.Go, api.Stop:
		n.Gen = uint32(max(0, int(gen)+r.Intn(6)-2))
		if n.Kind == api.Stop {
			n.Job = 0
		}
	case api.Save:
		n.Ver, n.Credit = uint32(r.Intn(9)), r.Intn(10001)
	}
	return n
}

// world is a hand, its model, and the controller's end of their talk.
type world struct {
	t     *testing.T
	r     *rand.Rand
	h     *hand.Hand
	m     *model
	end   *talk.Talk
	of    [2]uint32 // the epoch and the life of the end
	gen   uint32
	air   []api.Packet // to the hand
	loose int          // one of so many is something other than what the controller says
}

// land has k come at both, and what the hand sends at the controller's end mostly.
func (w *world) land(k api.Packet) {
	w.t.Helper()
	l := w.h.Hear(k)
	packets(w.t, "Hear", l, w.m.hear(k)...)
	for _, k := range l {
		w.back(k)
	}
}

// back has k come at the controller's end, if it isn't lost.
func (w *world) back(k api.Packet) {
	if w.r.Intn(4) == 0 {
		return
	}
	if _, _, answer, has := w.end.Hear(k); has {
		w.air = append(w.air, answer)
	}
}

// say has the controller say a note, in the talk of the hand's life mostly.
func (w *world) say() {
	if of := [2]uint32{w.m.epoch, w.m.life}; of != w.of && w.r.Intn(3) > 0 {
		w.of, w.end, w.gen = of, talk.New(theNode, of[0], of[1]), 0
	}
	n := some(w.r, w.gen)
	w.gen = max(w.gen, n.Gen)
	p, _ := note.Note(n)
	if w.r.Intn(40) == 0 {
		p = p[1:]
	}
	if k, e := w.end.Say(p); e == api.OK {
		w.air = append(w.air, k)
	}
}

// odd answers a packet as none says it.
func (w *world) odd() api.Packet {
	r := w.r
	n := api.Note{Kind: api.Beat, Epoch: w.m.epoch + uint32(r.Intn(2)*r.Intn(3)), Tick: w.m.now + uint32(r.Intn(12))}
	p, _ := note.Note(n)
	k := api.Packet{Node: theNode, Epoch: w.m.epoch, Life: w.m.life, Plain: true, Data: p}
	switch r.Intn(8) {
	case 0:
		k.Node = byte(r.Intn(5))
	case 1:
		k.Epoch = uint32(max(0, int(k.Epoch)+r.Intn(5)-3))
	case 2:
		k.Life += uint32(r.Intn(3))
		k.Plain, k.Seq, k.Ack = false, uint32(r.Intn(3)), uint32(r.Intn(3))
	case 3:
		k.Epoch, k.Life, k.Plain, k.Seq = k.Epoch+uint32(r.Intn(2)), k.Life+1, false, 1
	}
	return k
}

func (w *world) step() {
	r := w.r
	switch n := r.Intn(12); {
	case r.Intn(w.loose) == 0:
		w.land(w.odd())
	case n < 4:
		w.say()
	case n < 8 && len(w.air) > 0:
		i := r.Intn(min(2, len(w.air)))
		k := w.air[i]
		if r.Intn(5) > 0 {
			w.air = slices.Delete(w.air, i, i+1)
		}
		if r.Intn(5) > 0 {
			w.land(k)
		}
	case n < 10:
		now := uint32(max(0, int(w.m.now)+r.Intn(4)-1))
		l := w.h.Tick(now)
		packets(w.t, "Tick", l, w.m.tick(now)...)
		for _, k := range l {
			w.back(k)
		}
		w.air = append(w.air, w.end.Tick()...)
	case r.Intn(60) == 0:
		w.h.Restart()
		w.m.begin()
	case r.Intn(2) == 0:
		w.land(beat(w.t, max(1, w.m.epoch), w.m.now+uint32(r.Intn(12))))
	}
}

// TestAgainstModel holds what a hand answers and has, call by call, against a plain list of ranks and of what was told.
func TestAgainstModel(t *testing.T) {
	for seed := range int64(400) {
		r := rand.New(rand.NewSource(seed))
		w := &world{t: t, r: r, h: made(t), m: newModel(), end: talk.New(theNode, 0, 0), loose: 4 + r.Intn(100)}
		for range 400 {
			w.step()
			agree(t, w.h, w.m)
		}
	}
}
