package talk_test

import (
	"bytes"
	"math/rand"
	"testing"

	"quadrille/api"
	"quadrille/talk"
)

// pair is two ends of one talk, what each of them said and was told, and what is in the air to it.
type pair struct {
	t    *testing.T
	r    *rand.Rand
	ends [2]*talk.Talk
	said [2][][]byte
	told [2][][]byte
	air  [2][]api.Packet
}

func newPair(t *testing.T, seed int) *pair {
	return &pair{t: t, r: rand.New(rand.NewSource(int64(seed))), ends: [2]*talk.Talk{made(), made()}}
}

// say has that end say something, if it can.
func (p *pair) say(end int) {
	data := pattern(p.r.Intn(12), len(p.said[end])+end*1000)
	k, e := p.ends[end].Say(data)
	if e == api.ErrFull && p.ends[end].Open() == api.MaxQueue {
		return
	}
	if e != api.OK {
		p.t.Fatalf("Say: error %d", e)
	}
	p.said[end] = append(p.said[end], data)
	p.air[1-end] = append(p.air[1-end], k)
}

// tick has a tick pass at that end.
func (p *pair) tick(end int) {
	p.air[1-end] = append(p.air[1-end], p.ends[end].Tick()...)
}

// land has k come at that end.
func (p *pair) land(end int, k api.Packet) {
	data, ok, answer, has := p.ends[end].Hear(k)
	if has {
		p.air[1-end] = append(p.air[1-end], answer)
	}
	if !ok {
		return
	}
	n := len(p.told[end])
	if n >= len(p.said[1-end]) || !bytes.Equal(data, p.said[1-end][n]) {
		p.t.Fatalf("thing %d that came at end %d is %v; %d were said", n+1, end, data, len(p.said[1-end]))
	}
	p.told[end] = append(p.told[end], data)
}

// fate has some packet in the air to that end come, come and stay in the air, or get lost.
func (p *pair) fate(end int) {
	l := p.air[end]
	if len(l) == 0 {
		return
	}
	i := p.r.Intn(len(l))
	k := l[i]
	what := p.r.Intn(6)
	if what > 0 || len(l) > 200 {
		p.air[end] = append(l[:i:i], l[i+1:]...)
	}
	if what < 4 {
		p.land(end, k)
	}
}

// calm has all that is in the air come, once, in order, till nothing is in it.
func (p *pair) calm() {
	for len(p.air[0])+len(p.air[1]) > 0 {
		for end := range p.ends {
			l := p.air[end]
			p.air[end] = nil
			for _, k := range l {
				p.land(end, k)
			}
		}
	}
}

// check fails the test unless each end knows how far it is.
func (p *pair) check() {
	p.t.Helper()
	for end, a := range p.ends {
		n := len(p.said[end]) - len(p.told[1-end])
		if a.Open() < n || int(a.Heard()) != len(p.told[end]) {
			p.t.Fatalf("end %d: Open %d, Heard %d; %d things didn't come, %d came", end, a.Open(), a.Heard(), n, len(p.told[end]))
		}
	}
}

// allCame fails the test unless the first things that each end said have come, and are answered.
func (p *pair) allCame(first [2]int) {
	p.t.Helper()
	for end, a := range p.ends {
		if came := len(p.told[1-end]); came < first[end] || a.Open() > len(p.said[end])-first[end] {
			p.t.Fatalf("end %d: of %d things %d came, of %d in all %d aren't answered", end, first[end], came, len(p.said[end]), a.Open())
		}
	}
}

// storm has n things happen, in any order.
func (p *pair) storm(n int) {
	busy, lossy := 1+p.r.Intn(6), 1+p.r.Intn(12)
	for range n {
		end := p.r.Intn(2)
		switch x := p.r.Intn(busy + lossy + 2); {
		case x < busy:
			p.say(end)
		case x < busy+lossy:
			p.fate(end)
		default:
			p.tick(end)
		}
		p.check()
	}
}

func TestWhatComesIsTheBeginningOfWhatWasSaid(t *testing.T) {
	for seed := range 100 {
		newPair(t, seed).storm(800)
	}
}

func TestAllComesOnceNothingIsLost(t *testing.T) {
	for seed := range 300 {
		p := newPair(t, seed)
		for range 3 {
			p.storm(p.r.Intn(400))
			if p.r.Intn(2) == 0 {
				p.air = [2][]api.Packet{} // what flew ahead of the calm is lost, or comes in it
			}
			first := [2]int{len(p.said[0]), len(p.said[1])}
			p.calm()
			for range talk.Again {
				for _, end := range p.r.Perm(2) {
					if p.r.Intn(2) == 0 {
						p.say(end) // what is said in the calm puts off nothing
						p.calm()
					}
					p.tick(end)
					p.calm()
				}
				p.check()
			}
			p.allCame(first)
			for range talk.Again {
				p.tick(0)
				p.tick(1)
				p.calm()
			}
			p.allCame([2]int{len(p.said[0]), len(p.said[1])})
		}
	}
}

// TestAllComesThoughAllWasLost: full queues at both ends, and none of it came.
func TestAllComesThoughAllWasLost(t *testing.T) {
	p := newPair(t, 1)
	for range api.MaxQueue {
		p.say(0)
		p.say(1)
	}
	for range 7 {
		p.tick(0)
		p.tick(1)
	}
	p.air = [2][]api.Packet{}
	for range talk.Again {
		p.tick(0)
		p.tick(1)
		p.calm()
	}
	p.allCame([2]int{api.MaxQueue, api.MaxQueue})
	stands(t, p.ends[0], 0, api.MaxQueue)
	stands(t, p.ends[1], 0, api.MaxQueue)
}
