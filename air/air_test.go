package air_test

import (
	"bytes"
	"math"
	"math/rand"
	"slices"
	"testing"

	"quadrille/air"
	"quadrille/api"
)

// made answers an air with room for n.
func made(t *testing.T, n int) *air.Air {
	t.Helper()
	a, e := air.New(n)
	if e != api.OK || a == nil {
		t.Fatalf("New(%d): error %d", n, e)
	}
	return a
}

// answers fails the test unless the error is the one that is wanted.
func answers(t *testing.T, what string, got, want api.Errno) {
	t.Helper()
	if got != want {
		t.Fatalf("%s: error %d, want %d", what, got, want)
	}
}

// pattern answers n bytes that differ from one to the next, none of them 0.
func pattern(n, seed int) []byte {
	p := make([]byte, n)
	for i := range p {
		p[i] = byte(1 + (i*5+seed*31)%255)
	}
	return p
}

// scribble writes over all of p, its spare room too.
func scribble(p []byte) {
	p = p[:cap(p)]
	for i := range p {
		p[i] ^= 0xff
	}
}

// flies has o fly, under that number.
func flies(t *testing.T, a *air.Air, o api.Out, want uint64) {
	t.Helper()
	if id, e := a.Fly(o); e != api.OK || id != want {
		t.Fatalf("Fly: %d, error %d; want %d", id, e, want)
	}
}

// fliesNot fails the test unless Fly answers that error, and nothing beside it.
func fliesNot(t *testing.T, a *air.Air, want api.Errno) {
	t.Helper()
	if id, e := a.Fly(api.Out{To: 1, Data: []byte{1}}); e != want || id != 0 {
		t.Fatalf("Fly: %d, error %d; want error %d", id, e, want)
	}
}

// lands fails the test unless that number lands as o.
func lands(t *testing.T, a *air.Air, id uint64, o api.Out) {
	t.Helper()
	got, e := a.Land(id)
	if e != api.OK || got.To != o.To || !bytes.Equal(got.Data, o.Data) {
		t.Fatalf("Land(%d): %v, error %d; want %v", id, got, e, o)
	}
}

// echoes has that number fly once more, under another one.
func echoes(t *testing.T, a *air.Air, id, want uint64) {
	t.Helper()
	if got, e := a.Echo(id); e != api.OK || got != want {
		t.Fatalf("Echo(%d): %d, error %d; want %d", id, got, e, want)
	}
}

// echoesNot fails the test unless Echo answers that error, and nothing beside it.
func echoesNot(t *testing.T, a *air.Air, id uint64, want api.Errno) {
	t.Helper()
	if got, e := a.Echo(id); e != want || got != 0 {
		t.Fatalf("Echo(%d): %d, error %d; want error %d", id, got, e, want)
	}
}

// isGone fails the test unless none of that number flies.
func isGone(t *testing.T, a *air.Air, id uint64) {
	t.Helper()
	if o, e := a.Land(id); e != api.ErrNone || o.To != 0 || len(o.Data) != 0 {
		t.Fatalf("Land(%d): %v, error %d", id, o, e)
	}
	echoesNot(t, a, id, api.ErrNone)
	answers(t, "Lose", a.Lose(id), api.ErrNone)
}

// fly fails the test unless just these fly.
func fly(t *testing.T, a *air.Air, ids ...uint64) {
	t.Helper()
	if a.Len() != len(ids) {
		t.Fatalf("Len %d, want %d", a.Len(), len(ids))
	}
	for k, want := range ids {
		if id, ok := a.At(k); !ok || id != want {
			t.Fatalf("At(%d): %d, %v; want %d", k, id, ok, want)
		}
	}
	n := len(ids)
	for _, k := range []int{math.MinInt, math.MinInt32, -n - 1, -n, -1, n, n + 1, api.MaxAir, math.MaxInt} {
		if n > 0 && k == 0 || 0 <= k && k < n {
			continue
		}
		if id, ok := a.At(k); ok || id != 0 {
			t.Fatalf("At(%d): %d, %v", k, id, ok)
		}
	}
	id, ok := a.Oldest()
	if n == 0 && (ok || id != 0) || n > 0 && (!ok || id != ids[0]) {
		t.Fatalf("Oldest: %d, %v; of %v", id, ok, ids)
	}
}

func TestExample(t *testing.T) {
	a := made(t, 5)
	one := api.Out{To: 4, Data: []byte("a")}
	flies(t, a, one, 1)
	flies(t, a, api.Out{To: 5, Data: []byte("b")}, 2)
	echoes(t, a, 1, 3)
	lands(t, a, 1, one)
	if id, ok := a.Oldest(); id != 2 || !ok {
		t.Error("Oldest", id, ok)
	}
	if id, ok := a.At(1); id != 3 || !ok {
		t.Error("At(1)", id, ok)
	}
	fly(t, a, 2, 3)
}

func TestNew(t *testing.T) {
	for _, n := range []int{math.MinInt, math.MinInt32, -1, 0, api.MaxAir + 1, 2 * api.MaxAir, 1 << 32, math.MaxInt} {
		if a, e := air.New(n); e != api.ErrArg || a != nil {
			t.Errorf("New(%d): error %d, %v", n, e, a)
		}
	}
	for _, n := range []int{1, 2, 3, 100, api.MaxAir - 1, api.MaxAir} {
		a := made(t, n)
		fly(t, a)
		isGone(t, a, 0)
		isGone(t, a, 1)
		var ids []uint64
		for k := range n {
			flies(t, a, api.Out{To: k, Data: pattern(k%9, k)}, uint64(k+1))
			ids = append(ids, uint64(k+1))
		}
		fliesNot(t, a, api.ErrFull)
		echoesNot(t, a, 1, api.ErrFull)
		fly(t, a, ids...)
		for k := range n {
			lands(t, a, ids[k], api.Out{To: k, Data: pattern(k%9, k)})
		}
		fly(t, a)
	}
}

func TestNoNumberComesTwiceNorIsSpentInVain(t *testing.T) {
	a := made(t, 2)
	flies(t, a, api.Out{}, 1)
	flies(t, a, api.Out{}, 2)
	for range 5 {
		fliesNot(t, a, api.ErrFull)
		echoesNot(t, a, 2, api.ErrFull)
		echoesNot(t, a, 3, api.ErrNone)
	}
	answers(t, "Lose", a.Lose(2), api.OK)
	echoes(t, a, 1, 3)
	fly(t, a, 1, 3)
	isGone(t, a, 2)
	lands(t, a, 3, api.Out{})
	flies(t, a, api.Out{To: 7}, 4)
	fly(t, a, 1, 4)
	a.Clear()
	fly(t, a)
	for id := range uint64(7) {
		isGone(t, a, id)
	}
	flies(t, a, api.Out{To: 8}, 5)
	echoes(t, a, 5, 6)
	fly(t, a, 5, 6)
	fliesNot(t, a, api.ErrFull)
	a.Clear()
	a.Clear()
	fly(t, a)
	flies(t, a, api.Out{To: 9}, 7)
	lands(t, a, 7, api.Out{To: 9})
}

func TestNumbersThatFlyNot(t *testing.T) {
	a := made(t, 4)
	for id := range uint64(4) {
		flies(t, a, api.Out{To: int(id)}, id+1)
	}
	answers(t, "Lose", a.Lose(2), api.OK)
	for _, id := range []uint64{0, 2, 5, 6, 1 << 31, 1 << 32, 1<<32 + 1, 1 << 63, math.MaxUint64} {
		isGone(t, a, id)
	}
	flies(t, a, api.Out{To: 5}, 5)
	for _, id := range []uint64{0, 2, 6, 1<<32 + 1, math.MaxUint64} { // none of that number goes ahead of no room
		isGone(t, a, id)
	}
	fly(t, a, 1, 3, 4, 5)
}

func TestAnyDatagramFlies(t *testing.T) {
	a := made(t, 3)
	id := uint64(0)
	for _, to := range []int{math.MinInt, -2, -1, 0, 1, api.MaxNodes, math.MaxInt} {
		for _, n := range []int{0, 1, api.MaxBytes, api.MaxBytes + 1, 1 << 17} {
			o := api.Out{To: to, Data: pattern(n, to)}
			flies(t, a, o, id+1)
			echoes(t, a, id+1, id+2)
			echoes(t, a, id+2, id+3)
			lands(t, a, id+2, o)
			lands(t, a, id+3, o)
			lands(t, a, id+1, o)
			id += 3
		}
	}
	flies(t, a, api.Out{Data: []byte{}}, id+1)
	flies(t, a, api.Out{Data: nil}, id+2)
	lands(t, a, id+1, api.Out{})
	lands(t, a, id+2, api.Out{})
}

func TestNilAir(t *testing.T) {
	var a *air.Air
	for _, k := range []int{math.MinInt, -1, 0, 1, 2, math.MaxInt} {
		fliesNot(t, a, api.ErrNone)
		isGone(t, a, uint64(k))
		a.Clear()
		fly(t, a)
		if id, ok := a.At(k); ok || id != 0 {
			t.Fatalf("At(%d): %d, %v", k, id, ok)
		}
	}
}

func TestMemoryIsNotShared(t *testing.T) {
	a := made(t, 9)
	room := pattern(40, 7)
	want := api.Out{To: 3, Data: pattern(10, 7)}
	flies(t, a, api.Out{To: 3, Data: room[:10]}, 1)
	if !bytes.Equal(room, pattern(40, 7)) {
		t.Fatal("Fly changed what it was handed")
	}
	scribble(room)
	echoes(t, a, 1, 2)
	echoes(t, a, 2, 3)
	echoes(t, a, 1, 4)
	for _, id := range []uint64{2, 1, 4, 3} {
		o, e := a.Land(id)
		if e != api.OK || o.To != want.To || !bytes.Equal(o.Data, want.Data) {
			t.Fatalf("Land(%d): %v, error %d", id, o, e)
		}
		scribble(o.Data)
	}
}

// model is an air as the chapter says it.
type model struct {
	room int
	last uint64
	outs map[uint64]api.Out
}

// start has o fly, if there is room.
func (m *model) start(o api.Out) (uint64, api.Errno) {
	if len(m.outs) == m.room {
		return 0, api.ErrFull
	}
	m.last++
	m.outs[m.last] = o
	return m.last, api.OK
}

// ids answers those that fly, rising.
func (m *model) ids() []uint64 {
	var l []uint64
	for id := range m.last + 1 {
		if _, ok := m.outs[id]; ok {
			l = append(l, id)
		}
	}
	return l
}

// some answers the number of one that flies, flew, or is to come.
func (m *model) some(r *rand.Rand) uint64 {
	l := m.ids()
	if len(l) > 0 && r.Intn(4) > 0 {
		return l[r.Intn(len(l))]
	}
	return uint64(r.Intn(int(m.last) + 3))
}

func TestAgainstTheModel(t *testing.T) {
	for seed := range 40 {
		r := rand.New(rand.NewSource(int64(seed)))
		m := &model{room: 1 + r.Intn(12), outs: map[uint64]api.Out{}}
		a := made(t, m.room)
		for range 400 {
			id := m.some(r)
			o, there := m.outs[id]
			switch r.Intn(11) {
			case 0, 1, 2, 3:
				o := api.Out{To: r.Intn(20) - 1, Data: pattern(r.Intn(30), r.Intn(99))}
				got, e := a.Fly(o)
				if want, f := m.start(o); got != want || e != f {
					t.Fatalf("Fly: %d, error %d; want %d, error %d", got, e, want, f)
				}
			case 4, 5, 6:
				if !there {
					isGone(t, a, id)
					continue
				}
				lands(t, a, id, o)
				delete(m.outs, id)
			case 7, 8:
				if !there {
					isGone(t, a, id)
					continue
				}
				got, e := a.Echo(id)
				if want, f := m.start(o); got != want || e != f {
					t.Fatalf("Echo(%d): %d, error %d; want %d, error %d", id, got, e, want, f)
				}
			case 9:
				if !there {
					isGone(t, a, id)
					continue
				}
				answers(t, "Lose", a.Lose(id), api.OK)
				delete(m.outs, id)
			case 10:
				if r.Intn(10) == 0 {
					a.Clear()
					clear(m.outs)
				}
			}
			fly(t, a, m.ids()...)
		}
		l := m.ids()
		slices.Reverse(l)
		for _, id := range l {
			lands(t, a, id, m.outs[id])
		}
		fly(t, a)
	}
}
