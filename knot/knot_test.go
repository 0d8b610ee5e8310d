package knot_test

import (
	"bytes"
	"encoding/binary"
	"hash/crc32"
	"math/rand"
	"testing"

	"quadrille/api"
	"quadrille/knot"
)

// pattern answers n bytes that differ from one to the next.
func pattern(n int) []byte {
	p := make([]byte, n)
	for i := range p {
		p[i] = byte(i*7 + i>>8 + 1)
	}
	return p
}

// model answers the knot of t as the chapter says it, by the library's sum.
func model(t []byte) []byte {
	k := binary.LittleEndian.AppendUint16(nil, uint16(len(t)))
	k = append(k, t...)
	return binary.LittleEndian.AppendUint32(k, crc32.Checksum(k, crc32.MakeTable(crc32.Castagnoli)))
}

// want fails the test unless what is got are these bytes (nil and empty are the same).
func want(t *testing.T, what string, got, bytesWanted []byte) {
	t.Helper()
	if !bytes.Equal(got, bytesWanted) {
		t.Errorf("%s: got % x, want % x", what, got, bytesWanted)
	}
}

// refused fails the test unless Untie and Next answer these errors, and nothing beside them.
func refused(t *testing.T, what string, p []byte, untie, next api.Errno) {
	t.Helper()
	if text, e := knot.Untie(p); e != untie || e != api.OK && len(text) != 0 {
		t.Errorf("%s: Untie: % x, error %d; want error %d", what, text, e, untie)
	}
	if text, rest, e := knot.Next(p); e != next || e != api.OK && len(text)+len(rest) != 0 {
		t.Errorf("%s: Next: % x, % x, error %d; want error %d", what, text, rest, e, next)
	}
}

func TestSumOfKnownBytes(t *testing.T) {
	for _, c := range []struct {
		p   []byte
		sum uint32
	}{
		{nil, 0},
		{[]byte{}, 0},
		{[]byte("123456789"), 0xe3069283},
		{[]byte("a"), 0xc1d04330},
		{make([]byte, 32), 0x8a9136aa},
		{bytes.Repeat([]byte{0xff}, 32), 0x62a8ab43},
	} {
		if sum := knot.Sum(c.p); sum != c.sum {
			t.Errorf("Sum of % x: %08x, want %08x", c.p, sum, c.sum)
		}
	}
}

func TestSumAgainstTheLibrary(t *testing.T) {
	table := crc32.MakeTable(crc32.Castagnoli)
	r := rand.New(rand.NewSource(1))
	for n := range 400 {
		p := make([]byte, n)
		r.Read(p)
		if sum := knot.Sum(p); sum != crc32.Checksum(p, table) {
			t.Fatalf("Sum of % x: %08x, want %08x", p, sum, crc32.Checksum(p, table))
		}
	}
	for b := range 256 {
		if sum := knot.Sum([]byte{byte(b)}); sum != crc32.Checksum([]byte{byte(b)}, table) {
			t.Errorf("Sum of %02x: %08x", b, sum)
		}
	}
	great := pattern(1 << 20)
	if sum := knot.Sum(great); sum != crc32.Checksum(great, table) {
		t.Errorf("Sum of 2^20 bytes: %08x", sum)
	}
}

func TestTieBytes(t *testing.T) {
	none, e := knot.Tie(nil)
	if e != api.OK || len(none) != 6 {
		t.Fatal(none, e)
	}
	want(t, "Tie of nothing", none, binary.LittleEndian.AppendUint32([]byte{0, 0}, knot.Sum([]byte{0, 0})))
	empty, e := knot.Tie([]byte{})
	if e != api.OK {
		t.Error(e)
	}
	want(t, "Tie of an empty text", empty, none)
	for _, n := range []int{1, 2, 3, 255, 256, 257, 300, api.MaxBytes - 1, api.MaxBytes} {
		k, e := knot.Tie(pattern(n))
		if e != api.OK {
			t.Errorf("Tie of %d bytes: error %d", n, e)
		}
		want(t, "Tie", k, model(pattern(n)))
	}
}

func TestTieOfTooMuch(t *testing.T) {
	for _, n := range []int{api.MaxBytes + 1, api.MaxBytes + 2, 1 << 16, 1<<16 + 3, 1 << 20} {
		if k, e := knot.Tie(make([]byte, n)); e != api.ErrLong || len(k) != 0 {
			t.Errorf("Tie of %d bytes: %d bytes, error %d", n, len(k), e)
		}
	}
}

func TestUntieTellsTheText(t *testing.T) {
	for n := range api.MaxBytes + 1 {
		if n > 40 && n%97 != 0 && n < api.MaxBytes-2 {
			continue
		}
		text, e := knot.Untie(model(pattern(n)))
		if e != api.OK {
			t.Errorf("Untie of %d bytes: error %d", n, e)
		}
		want(t, "Untie", text, pattern(n))
	}
}

func TestNextTellsTheTextAndTheRest(t *testing.T) {
	texts := [][]byte{[]byte("ab"), nil, pattern(300), pattern(api.MaxBytes), {0}}
	var p []byte
	for _, x := range texts {
		p = append(p, model(x)...)
	}
	for i, x := range texts {
		text, rest, e := knot.Next(p)
		if e != api.OK {
			t.Fatalf("Next %d: error %d", i, e)
		}
		want(t, "the text", text, x)
		want(t, "the rest", rest, p[len(model(x)):])
		p = rest
	}
	if len(p) != 0 {
		t.Errorf("% x is left", p)
	}
	refused(t, "no knot is left", p, api.ErrShort, api.ErrShort)

	text, rest, e := knot.Next(append(model([]byte("ab")), 0xff, 0xff, 0xff))
	if e != api.OK {
		t.Error("what stands behind isn't asked to be a knot:", e)
	}
	want(t, "the text", text, []byte("ab"))
	want(t, "the rest", rest, []byte{0xff, 0xff, 0xff})
}

func TestTooShort(t *testing.T) {
	refused(t, "nil", nil, api.ErrShort, api.ErrShort)
	refused(t, "no bytes", []byte{}, api.ErrShort, api.ErrShort)
	for _, n := range []int{0, 1, 5, 300, api.MaxBytes} {
		k := model(pattern(n))
		for cut := range k {
			refused(t, "a knot cut off", k[:cut], api.ErrShort, api.ErrShort)
		}
	}
	refused(t, "one byte", []byte{0xff}, api.ErrShort, api.ErrShort)
	refused(t, "two bytes", []byte{0xff, 7}, api.ErrShort, api.ErrShort)
	refused(t, "the greatest length", []byte{0, 8}, api.ErrShort, api.ErrShort)
}

func TestTooLong(t *testing.T) {
	refused(t, "one too many, the rest isn't there", []byte{1, 8}, api.ErrLong, api.ErrLong)
	refused(t, "ffff", []byte{0xff, 0xff, 1, 2, 3}, api.ErrLong, api.ErrLong)
	for _, n := range []int{api.MaxBytes + 1, api.MaxBytes + 256, 65535} {
		right := model(make([]byte, n))
		refused(t, "its sum is right", right, api.ErrLong, api.ErrLong)
		refused(t, "there is more behind it", append(right, 1), api.ErrLong, api.ErrLong)
	}
}

func TestWrongSum(t *testing.T) {
	for _, n := range []int{0, 1, 2, 30, api.MaxBytes} {
		k := model(pattern(n))
		for i := range k {
			if i < 2 { // the length: another one may go first
				continue
			}
			k[i] ^= 0x10
			refused(t, "a bit turned", k, api.ErrSum, api.ErrSum)
			refused(t, "a bit turned, and more behind", append(k[:len(k):len(k)], 1), api.ErrSum, api.ErrSum)
			k[i] ^= 0x10
		}
	}
	refused(t, "all noughts", make([]byte, 6), api.ErrSum, api.ErrSum)
}

func TestSomethingStandsBehind(t *testing.T) {
	for _, n := range []int{0, 3, api.MaxBytes} {
		for _, behind := range [][]byte{{0}, {7}, model(nil), model(pattern(n))} {
			refused(t, "more behind", append(model(pattern(n)), behind...), api.ErrForm, api.OK)
		}
	}
}

// turn turns the bits of mask, from the first-th bit of p on; a byte's lowest bit is its first.
func turn(p []byte, first int, mask uint32) {
	for i := range 32 {
		if mask>>i&1 == 1 {
			at := first + i
			p[at/8] ^= 1 << (at % 8)
		}
	}
}

// TestTurnedBits: a knot of which any bits within 32 that follow one another were turned is none.
func TestTurnedBits(t *testing.T) {
	r := rand.New(rand.NewSource(2))
	for _, n := range []int{0, 1, 2, 3, 9, 64, 255, 256} {
		k := model(pattern(n))
		for first := range len(k) * 8 {
			room := min(32, len(k)*8-first)
			masks := []uint32{1, 3, 5, 0x80000001, 0xffffffff, 0xaaaaaaaa, 0x82f63b78, 0x82f63b79, r.Uint32(), r.Uint32()}
			for i := range 32 {
				masks = append(masks, 1|1<<i)
			}
			for _, mask := range masks {
				mask &= uint32(uint64(1)<<room - 1)
				if mask == 0 {
					continue
				}
				turn(k, first, mask)
				if text, e := knot.Untie(k); e == api.OK || len(text) != 0 {
					t.Errorf("%d bytes, the bits %08x from %d on turned: % x, error %d", n, mask, first, text, e)
				}
				turn(k, first, mask)
			}
		}
		if _, e := knot.Untie(k); e != api.OK {
			t.Errorf("the knot of %d bytes isn't whole any more", n)
		}
	}
}

// TestTurnedBitsWithin: all masks of up to twelve bits that follow one another, at all places of a short knot.
func TestTurnedBitsWithin(t *testing.T) {
	k := model([]byte("quad"))
	for first := range len(k)*8 - 12 {
		for mask := uint32(1); mask < 1<<12; mask++ {
			turn(k, first, mask)
			if _, e := knot.Untie(k); e == api.OK {
				t.Errorf("the bits %03x from %d on turned: a knot", mask, first)
			}
			turn(k, first, mask)
		}
	}
}

func TestAnyBytesAreAnswered(t *testing.T) {
	r := rand.New(rand.NewSource(3))
	for range 20000 {
		p := make([]byte, r.Intn(40))
		r.Read(p)
		if len(p) > 1 {
			p[0], p[1] = byte(r.Intn(40)), byte(r.Intn(3)*r.Intn(9))
		}
		one, e := knot.Untie(p)
		two, f := knot.Untie(p)
		if e != f || !bytes.Equal(one, two) {
			t.Fatalf("Untie of % x: error %d, and then %d", p, e, f)
		}
		knot.Next(p)
	}
}

// scribble writes over all of p, and over its spare room.
func scribble(p []byte) {
	p = p[:cap(p)]
	for i := range p {
		p[i] = 0xee
	}
}

func TestArgumentsStayAsTheyAre(t *testing.T) {
	room := []byte("abcdefghijklmnop")
	k, _ := knot.Tie(room[:3])
	knot.Sum(room[:3])
	want(t, "Tie's", room, []byte("abcdefghijklmnop"))
	scribble(k)
	want(t, "Tie's, when its answer is written over", room, []byte("abcdefghijklmnop"))

	p := append(model([]byte("ab")), model([]byte("cd"))...)
	before := bytes.Clone(p)
	text, rest, _ := knot.Next(p)
	want(t, "Next's", p, before)
	scribble(text)
	want(t, "Next's, when its text is written over", p, before)
	want(t, "the rest, when the text is written over", rest, model([]byte("cd")))
	scribble(rest)
	want(t, "Next's, when its rest is written over", p, before)

	one := p[:len(model(nil))+2]
	text, e := knot.Untie(one)
	if e != api.OK {
		t.Fatal(e)
	}
	scribble(text)
	want(t, "Untie's, when its answer is written over", p, before)
}

func TestAnswersAreNewMemory(t *testing.T) {
	room := []byte("ab")
	k, _ := knot.Tie(room)
	other, _ := knot.Tie(room)
	scribble(room)
	want(t, "a knot, when its text is written over", k, model([]byte("ab")))
	scribble(other)
	want(t, "a knot, when another one is written over", k, model([]byte("ab")))

	p := append(bytes.Clone(k), 7)
	text, rest, _ := knot.Next(p)
	again, restAgain, _ := knot.Next(p)
	whole, _ := knot.Untie(k)
	scribble(rest)
	scribble(p)
	scribble(k)
	want(t, "a text, when all else is written over", text, []byte("ab"))
	scribble(text)
	want(t, "another text", again, []byte("ab"))
	want(t, "another rest", restAgain, []byte{7})
	want(t, "Untie's text", whole, []byte("ab"))
}
