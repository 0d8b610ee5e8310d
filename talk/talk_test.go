package talk_test

import (
	"bytes"
	"math"
	"testing"

	"quadrille/api"
	"quadrille/talk"
)

const mostData = api.MaxBytes - 64

// pattern answers n bytes that differ from one to the next, none of them 0.
func pattern(n, seed int) []byte {
	p := make([]byte, n)
	for i := range p {
		p[i] = byte(1 + (i*5+seed*31)%255)
	}
	return p
}

// scribble writes over all of p, its spare room too.
func scribble(p []byte) {
	p = p[:cap(p)]
	for i := range p {
		p[i] ^= 0xff
	}
}

// made answers an end of the talk that all tests have: node 3, epoch 5, life 7.
func made() *talk.Talk { return talk.New(3, 5, 7) }

// packet answers one of that talk.
func packet(seq, ack uint32, data []byte) api.Packet {
	return api.Packet{Node: 3, Epoch: 5, Life: 7, Seq: seq, Ack: ack, Data: data}
}

// same answers whether two packets are the same.
func same(a, b api.Packet) bool {
	return a.Node == b.Node && a.Epoch == b.Epoch && a.Life == b.Life && a.Seq == b.Seq && a.Ack == b.Ack && a.Plain == b.Plain && bytes.Equal(a.Data, b.Data)
}

// says has data said, as that packet.
func says(t *testing.T, a *talk.Talk, data []byte, want api.Packet) {
	t.Helper()
	if k, e := a.Say(data); e != api.OK || !same(k, want) {
		t.Fatalf("Say: %v, error %d; want %v", k, e, want)
	}
}

// saysNot fails the test unless Say answers that error, and nothing beside it.
func saysNot(t *testing.T, a *talk.Talk, data []byte, want api.Errno) {
	t.Helper()
	if k, e := a.Say(data); e != want || !same(k, api.Packet{}) {
		t.Fatalf("Say: %v, error %d; want error %d", k, e, want)
	}
}

// ticks fails the test unless Tick answers just these packets.
func ticks(t *testing.T, a *talk.Talk, want ...api.Packet) {
	t.Helper()
	l := a.Tick()
	if len(l) != len(want) {
		t.Fatalf("Tick: %v, want %v", l, want)
	}
	for i := range l {
		if !same(l[i], want[i]) {
			t.Fatalf("Tick: %v, want %v", l, want)
		}
	}
}

// tells has k heard, which tells data, and is answered that so many came.
func tells(t *testing.T, a *talk.Talk, k api.Packet, data []byte, came uint32) {
	t.Helper()
	p, ok, r, has := a.Hear(k)
	if !ok || !bytes.Equal(p, data) || !has || !same(r, packet(0, came, nil)) {
		t.Fatalf("Hear(%v): %v, %v, %v, %v; want %v, %d came", k, p, ok, r, has, data, came)
	}
}

// tellsNot has k heard, which tells nothing, and is answered that so many came.
func tellsNot(t *testing.T, a *talk.Talk, k api.Packet, came uint32) {
	t.Helper()
	p, ok, r, has := a.Hear(k)
	if ok || len(p) != 0 || !has || !same(r, packet(0, came, nil)) {
		t.Fatalf("Hear(%v): %v, %v, %v, %v; want nothing, %d came", k, p, ok, r, has, came)
	}
}

// isPassed has k heard, which tells nothing and isn't answered.
func isPassed(t *testing.T, a *talk.Talk, k api.Packet) {
	t.Helper()
	if p, ok, r, has := a.Hear(k); ok || len(p) != 0 || has || !same(r, api.Packet{}) {
		t.Fatalf("Hear(%v): %v, %v, %v, %v; want nothing", k, p, ok, r, has)
	}
}

// stands fails the test unless so many things aren't answered, and so many came.
func stands(t *testing.T, a *talk.Talk, open int, heard uint32) {
	t.Helper()
	if a.Open() != open || a.Heard() != heard {
		t.Fatalf("Open %d, Heard %d; want %d, %d", a.Open(), a.Heard(), open, heard)
	}
}

func TestExample(t *testing.T) {
	a, b := made(), made()
	one, two := packet(1, 0, []byte("a")), packet(2, 0, []byte("b"))
	says(t, a, one.Data, one)
	says(t, a, two.Data, two)
	tellsNot(t, b, two, 0)
	tells(t, b, one, []byte("a"), 1)
	ticks(t, a)
	ticks(t, a, one, two)
	tells(t, b, two, []byte("b"), 2)
	tellsNot(t, b, two, 2)
	stands(t, a, 2, 0)
	isPassed(t, a, packet(0, 2, nil))
	stands(t, a, 0, 0)
	stands(t, b, 0, 2)
}

func TestAgain(t *testing.T) {
	if talk.Again != 2 {
		t.Error(talk.Again)
	}
}

func TestNew(t *testing.T) {
	for node := range 256 {
		for _, epoch := range []uint32{0, 1, 1 << 31, math.MaxUint32} {
			for _, life := range []uint32{0, 2, 1 << 31, math.MaxUint32} {
				a := talk.New(byte(node), epoch, life)
				stands(t, a, 0, 0)
				ticks(t, a)
				ticks(t, a)
				ticks(t, a)
				k := api.Packet{Node: byte(node), Epoch: epoch, Life: life, Seq: 1, Data: []byte("a")}
				says(t, a, []byte("a"), k)
				if !a.Mine(k) {
					t.Fatalf("%v isn't of its own talk", k)
				}
				r := api.Packet{Node: byte(node), Epoch: epoch, Life: life, Ack: 1}
				if p, ok, got, has := a.Hear(k); string(p) != "a" || !ok || !has || !same(got, r) {
					t.Fatalf("Hear(%v): %v, %v, %v, %v", k, p, ok, got, has)
				}
			}
		}
	}
}

func TestAnythingOfALengthIsSaid(t *testing.T) {
	a := made()
	saysNot(t, a, pattern(mostData+1, 0), api.ErrLong)
	for i, n := range []int{0, 1, 2, 104, mostData - 1, mostData} {
		p := pattern(n, i)
		says(t, a, p, packet(uint32(i+1), 0, p))
		for _, n := range []int{mostData + 1, api.MaxBytes, 1 << 17} { // none of these spends a number
			saysNot(t, a, pattern(n, i), api.ErrLong)
		}
		stands(t, a, i+1, 0)
	}
	says(t, a, nil, packet(7, 0, nil))
	says(t, a, []byte{}, packet(8, 0, nil))
}

func TestSayTellsHowManyCame(t *testing.T) {
	a := made()
	says(t, a, nil, packet(1, 0, nil))
	for i := range uint32(5) {
		tells(t, a, packet(i+1, 0, []byte{9}), []byte{9}, i+1)
		tellsNot(t, a, packet(i+1, 0, []byte{9}), i+1)
		tellsNot(t, a, packet(i+3, 0, []byte{9}), i+1)
		says(t, a, []byte{byte(i)}, packet(i+2, i+1, []byte{byte(i)}))
	}
	stands(t, a, 6, 5)
}

func TestNoRoom(t *testing.T) {
	a := made()
	for i := range uint32(api.MaxQueue) {
		stands(t, a, int(i), 0)
		says(t, a, nil, packet(i+1, 0, nil))
	}
	full := func() {
		t.Helper()
		saysNot(t, a, nil, api.ErrFull)
		saysNot(t, a, pattern(mostData, 1), api.ErrFull)
		saysNot(t, a, pattern(mostData+1, 1), api.ErrLong)
		stands(t, a, api.MaxQueue, 0)
	}
	full()
	ticks(t, a)
	full()
	if l := a.Tick(); len(l) != api.MaxQueue || l[0].Seq != 1 || l[255].Seq != 256 {
		t.Fatal(len(l))
	}
	full()
	isPassed(t, a, packet(0, 1, nil))
	says(t, a, []byte("x"), packet(257, 0, []byte("x")))
	full()
	isPassed(t, a, packet(0, 250, nil))
	stands(t, a, 7, 0)
	for i := range uint32(api.MaxQueue - 7) {
		says(t, a, nil, packet(i+258, 0, nil))
	}
	full()
	isPassed(t, a, packet(0, 506, nil))
	stands(t, a, 0, 0)
	says(t, a, nil, packet(507, 0, nil))
}

func TestTellsAgainEverySecondTick(t *testing.T) {
	a := made()
	for range 5 { // Ticks ahead of it don't count
		ticks(t, a)
	}
	one := packet(1, 0, []byte("a"))
	says(t, a, one.Data, one)
	for range 6 {
		ticks(t, a)
		ticks(t, a, one)
	}
	isPassed(t, a, packet(0, 1, nil))
	for range 5 {
		ticks(t, a)
	}
}

func TestWhatIsSaidLaterGoesWithTheFirst(t *testing.T) {
	a := made()
	one, two, three := packet(1, 0, []byte("a")), packet(2, 0, []byte("b")), packet(3, 0, []byte("c"))
	says(t, a, one.Data, one)
	ticks(t, a)
	says(t, a, two.Data, two)
	ticks(t, a, one, two)
	ticks(t, a)
	says(t, a, three.Data, three)
	ticks(t, a, one, two, three)
	isPassed(t, a, packet(0, 2, nil))
	ticks(t, a)
	ticks(t, a, three)
	ticks(t, a)
	says(t, a, nil, packet(4, 0, nil))
	isPassed(t, a, packet(0, 3, nil)) // the fourth is the first now: it was told by Say, a Tick later
	ticks(t, a)
	ticks(t, a, packet(4, 0, nil))
}

func TestEachThingHasATimeOfItsOwn(t *testing.T) {
	a := made()
	one, two := packet(1, 0, []byte("a")), packet(2, 0, []byte("b"))
	says(t, a, one.Data, one)
	ticks(t, a)
	says(t, a, two.Data, two)
	isPassed(t, a, packet(0, 1, nil))
	ticks(t, a) // of the first one it would be time
	ticks(t, a, two)
	isPassed(t, a, packet(0, 1, nil)) // what is answered again changes nothing
	ticks(t, a)
	isPassed(t, a, packet(0, 0, nil))
	ticks(t, a, two)
	isPassed(t, a, packet(0, 2, nil))
	says(t, a, one.Data, packet(3, 0, one.Data)) // said behind a Tick, with nothing open: its own two
	ticks(t, a)
	ticks(t, a, packet(3, 0, one.Data))
}

func TestAnswersInPartPutNothingOff(t *testing.T) {
	a := made()
	for i := range uint32(4) {
		says(t, a, nil, packet(i+1, 0, nil))
	}
	ticks(t, a)
	isPassed(t, a, packet(0, 2, nil))
	ticks(t, a, packet(3, 0, nil), packet(4, 0, nil))
	ticks(t, a)
	isPassed(t, a, packet(0, 3, nil))
	ticks(t, a, packet(4, 0, nil))
}

func TestWhatIsToldAgainTellsHowManyCame(t *testing.T) {
	a := made()
	says(t, a, []byte("a"), packet(1, 0, []byte("a")))
	tells(t, a, packet(1, 0, nil), nil, 1)
	says(t, a, []byte("b"), packet(2, 1, []byte("b")))
	tells(t, a, packet(2, 0, nil), nil, 2)
	ticks(t, a)
	ticks(t, a, packet(1, 2, []byte("a")), packet(2, 2, []byte("b")))
	tells(t, a, packet(3, 1, nil), nil, 3)
	ticks(t, a)
	ticks(t, a, packet(2, 3, []byte("b")))
}

// strange answers packets that aren't of the talk of made, at an end that said n things.
func strange(seq, ack uint32, n uint32) []api.Packet {
	var l []api.Packet
	of := func(change func(k *api.Packet)) {
		k := packet(seq, ack, []byte("z"))
		change(&k)
		l = append(l, k)
	}
	for _, d := range []uint32{1, 2, 128, 255} {
		of(func(k *api.Packet) { k.Node += byte(d) })
	}
	for _, d := range []uint32{1, 1 << 8, 1 << 16, 1 << 31, math.MaxUint32} {
		of(func(k *api.Packet) { k.Epoch += d })
		of(func(k *api.Packet) { k.Life += d })
	}
	of(func(k *api.Packet) { k.Plain = true })
	of(func(k *api.Packet) { k.Epoch, k.Life = k.Life, k.Epoch })
	for _, x := range []uint32{n + 1, n + 2, n + 256, 1 << 31, math.MaxUint32} {
		of(func(k *api.Packet) { k.Ack = x })
	}
	return append(l, api.Packet{})
}

func TestMine(t *testing.T) {
	a := made()
	for n := range uint32(6) {
		for ack := range n + 1 {
			for _, seq := range []uint32{0, 1, 2, 300, math.MaxUint32} {
				for _, size := range []int{0, 1, mostData, mostData + 1, 1 << 17} {
					if k := packet(seq, ack, pattern(size, 0)); !a.Mine(k) {
						t.Fatalf("%v isn't of it, %d things were said", k, n)
					}
				}
				for _, k := range strange(seq, ack, n) {
					if a.Mine(k) {
						t.Fatalf("%v is of it, %d things were said", k, n)
					}
				}
			}
		}
		stands(t, a, int(n), 0) // asking changes nothing
		says(t, a, nil, packet(n+1, 0, nil))
	}
	isPassed(t, a, packet(0, 6, nil))
	for ack := range uint32(7) { // what is answered was said all the same
		if !a.Mine(packet(1, ack, nil)) {
			t.Fatalf("Ack %d isn't of it", ack)
		}
	}
}

func TestWhatIsNotMineDoesNothing(t *testing.T) {
	a := made()
	says(t, a, []byte("a"), packet(1, 0, []byte("a")))
	says(t, a, []byte("b"), packet(2, 0, []byte("b")))
	tells(t, a, packet(1, 0, []byte("c")), []byte("c"), 1)
	ticks(t, a)
	for _, seq := range []uint32{0, 1, 2, 3} {
		for ack := range uint32(3) {
			for _, k := range strange(seq, ack, 2) {
				isPassed(t, a, k)
				stands(t, a, 2, 1)
			}
		}
	}
	ticks(t, a, packet(1, 1, []byte("a")), packet(2, 1, []byte("b")))
	tells(t, a, packet(2, 1, []byte("d")), []byte("d"), 2)
	stands(t, a, 1, 2)
}

func TestHearsInOrderEachOnce(t *testing.T) {
	a := made()
	for i := range uint32(5) {
		for _, seq := range []uint32{i + 2, i + 3, i + 257, 1 << 31, math.MaxUint32} { // ahead of its turn
			tellsNot(t, a, packet(seq, 0, []byte("x")), i)
		}
		for seq := range i { // again
			tellsNot(t, a, packet(seq+1, 0, []byte("x")), i)
		}
		isPassed(t, a, packet(0, 0, []byte("x"))) // says nothing, whatever it has
		isPassed(t, a, packet(0, 0, nil))
		stands(t, a, 0, i)
		p := pattern(int(i)*3, int(i))
		tells(t, a, packet(i+1, 0, p), p, i+1)
	}
	tells(t, a, packet(6, 0, pattern(mostData, 0)), pattern(mostData, 0), 6)
	tells(t, a, packet(7, 0, pattern(mostData+1, 0)), pattern(mostData+1, 0), 7) // only Say minds how long a thing is
	tells(t, a, packet(8, 0, []byte{}), nil, 8)
}

func TestAnyPacketAnswers(t *testing.T) {
	a := made()
	for i := range uint32(8) {
		says(t, a, nil, packet(i+1, 0, nil))
	}
	isPassed(t, a, packet(0, 0, nil))
	stands(t, a, 8, 0)
	isPassed(t, a, packet(0, 1, nil)) // one that says nothing
	stands(t, a, 7, 0)
	tells(t, a, packet(1, 3, nil), nil, 1) // one that tells
	stands(t, a, 5, 1)
	tellsNot(t, a, packet(1, 4, nil), 1) // one that came already
	stands(t, a, 4, 1)
	tellsNot(t, a, packet(9, 6, nil), 1) // one ahead of its turn
	stands(t, a, 2, 1)
	for ack := range uint32(7) { // what was answered stays so
		isPassed(t, a, packet(0, ack, nil))
		tellsNot(t, a, packet(1, ack, nil), 1)
		stands(t, a, 2, 1)
	}
	isPassed(t, a, packet(0, 9, nil)) // more than it said
	stands(t, a, 2, 1)
	ticks(t, a)
	ticks(t, a, packet(7, 1, nil), packet(8, 1, nil))
	isPassed(t, a, packet(0, 8, nil))
	stands(t, a, 0, 1)
}

func TestNilTalk(t *testing.T) {
	var a *talk.Talk
	for _, n := range []int{0, 1, mostData, mostData + 1} {
		saysNot(t, a, pattern(n, 0), api.ErrNone)
	}
	for _, k := range []api.Packet{{}, {Seq: 1}, {Seq: 1, Data: []byte("a")}, packet(1, 0, nil)} {
		isPassed(t, a, k)
		if a.Mine(k) {
			t.Fatalf("%v is of it", k)
		}
	}
	ticks(t, a)
	ticks(t, a)
	stands(t, a, 0, 0)
}

func TestMemoryIsNotShared(t *testing.T) {
	a := made()
	room := pattern(40, 7)
	one, two := packet(1, 0, pattern(40, 7)[:10]), packet(2, 0, pattern(9, 8))
	k, _ := a.Say(room[:10])
	if !bytes.Equal(room, pattern(40, 7)) {
		t.Fatal("Say changed what it was handed")
	}
	scribble(room)
	if !same(k, one) {
		t.Fatal("the packet shares what Say was handed")
	}
	scribble(k.Data)
	says(t, a, two.Data, two)
	for range 3 {
		ticks(t, a)
		l := a.Tick()
		if len(l) != 2 || !same(l[0], one) || !same(l[1], two) {
			t.Fatalf("Tick: %v", l)
		}
		scribble(l[0].Data)
		if !same(l[1], two) {
			t.Fatal("two lists of one answer share")
		}
		scribble(l[1].Data)
		clear(l[:cap(l)])
	}
	b := made()
	room = pattern(40, 9)
	p, ok, _, _ := b.Hear(packet(1, 0, room[:12]))
	if !ok || !bytes.Equal(room, pattern(40, 9)) {
		t.Fatal("Hear changed what it was handed")
	}
	scribble(room)
	if !bytes.Equal(p, pattern(40, 9)[:12]) {
		t.Fatal("what is told shares what Hear was handed")
	}
	scribble(p)
	if !bytes.Equal(room[12:], inverted(pattern(40, 9)[12:])) {
		t.Fatal("what is told has what Hear was handed as its spare room")
	}
}

// inverted answers p with all its bits turned.
func inverted(p []byte) []byte {
	scribble(p)
	return p
}

func TestEndsAreApart(t *testing.T) {
	a, b := made(), made()
	says(t, a, []byte("a"), packet(1, 0, []byte("a")))
	tells(t, a, packet(1, 0, nil), nil, 1)
	stands(t, b, 0, 0)
	ticks(t, b)
	ticks(t, b)
	says(t, b, []byte("b"), packet(1, 0, []byte("b")))
	stands(t, a, 1, 1)
	ticks(t, a)
	ticks(t, a, packet(1, 1, []byte("a")))
}
