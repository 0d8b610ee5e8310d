package talk_test

import (
	"bytes"
	"math/rand"
	"testing"

	"quadrille/api"
)

// model is an end as the chapter says it: all that it said stands in it for ever.
type model struct {
	said  []word
	heard uint32
	now   int
}

// word is what was said.
type word struct {
	data     []byte
	told     int // at the Tick of that number, or behind it
	answered bool
}

// waiting answers the places of all that isn't answered.
func (m *model) waiting() []int {
	var l []int
	for i, w := range m.said {
		if !w.answered {
			l = append(l, i)
		}
	}
	return l
}

func (m *model) say(data []byte) (api.Packet, api.Errno) {
	if len(data) > api.MaxBytes-64 {
		return api.Packet{}, api.ErrLong
	}
	if len(m.waiting()) == api.MaxQueue {
		return api.Packet{}, api.ErrFull
	}
	m.said = append(m.said, word{data, m.now, false})
	return packet(uint32(len(m.said)), m.heard, data), api.OK
}

func (m *model) mine(k api.Packet) bool {
	return k.Node == 3 && k.Epoch == 5 && k.Life == 7 && !k.Plain && uint64(k.Ack) <= uint64(len(m.said))
}

func (m *model) hear(k api.Packet) ([]byte, bool, api.Packet, bool) {
	if !m.mine(k) {
		return nil, false, api.Packet{}, false
	}
	for i := range m.said {
		m.said[i].answered = m.said[i].answered || uint32(i+1) <= k.Ack
	}
	if k.Seq == 0 {
		return nil, false, api.Packet{}, false
	}
	if uint64(k.Seq) == uint64(m.heard)+1 {
		m.heard++
		return k.Data, true, packet(0, m.heard, nil), true
	}
	return nil, false, packet(0, m.heard, nil), true
}

func (m *model) tick() []api.Packet {
	m.now++
	l := m.waiting()
	if len(l) == 0 || m.now-m.said[l[0]].told < 2 {
		return nil
	}
	var r []api.Packet
	for _, i := range l {
		m.said[i].told = m.now
		r = append(r, packet(uint32(i+1), m.heard, m.said[i].data))
	}
	return r
}

// some answers a packet as the end of the model may be sent one, most of them of its talk.
func (m *model) some(r *rand.Rand) api.Packet {
	k := packet(0, uint32(r.Intn(len(m.said)+1)), pattern(r.Intn(20), r.Intn(99)))
	switch r.Intn(10) {
	case 0, 1:
	case 2, 3:
		k.Seq = uint32(r.Intn(int(m.heard) + 5))
	default:
		k.Seq = m.heard + 1
	}
	if l := m.waiting(); len(l) > 0 && r.Intn(2) == 0 {
		k.Ack = uint32(l[0] + r.Intn(4))
	}
	switch r.Intn(30) {
	case 0:
		k.Node ^= 1 << r.Intn(8)
	case 1:
		k.Epoch ^= 1 << r.Intn(32)
	case 2:
		k.Life ^= 1 << r.Intn(32)
	case 3:
		k.Plain = true
	case 4:
		k.Ack = uint32(len(m.said)) + 1 + uint32(r.Intn(3))
	}
	return k
}

func TestAgainstTheModel(t *testing.T) {
	for seed := range 60 {
		r := rand.New(rand.NewSource(int64(seed)))
		m, a := &model{}, made()
		talks, hears := 1+r.Intn(30), 1+r.Intn(20)
		for range 600 {
			switch n := r.Intn(talks + hears + 12); {
			case n < talks:
				p := pattern(r.Intn(30), r.Intn(99))
				if r.Intn(20) == 0 {
					p = pattern(api.MaxBytes-66+r.Intn(5), 1)
				}
				want, f := m.say(p)
				if f != api.OK {
					saysNot(t, a, p, f)
					continue
				}
				says(t, a, p, want)
			case n < talks+hears:
				k := m.some(r)
				if a.Mine(k) != m.mine(k) {
					t.Fatalf("Mine(%v): %v", k, a.Mine(k))
				}
				p, ok, answer, has := m.hear(k)
				q, okToo, answerToo, hasToo := a.Hear(k)
				if !bytes.Equal(p, q) || ok != okToo || !same(answer, answerToo) || has != hasToo {
					t.Fatalf("Hear(%v): %v, %v, %v, %v; want %v, %v, %v, %v", k, q, okToo, answerToo, hasToo, p, ok, answer, has)
				}
			default:
				ticks(t, a, m.tick()...)
			}
			stands(t, a, len(m.waiting()), m.heard)
		}
	}
}
