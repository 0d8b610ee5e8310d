package note_test

import (
	"bytes"
	"slices"
	"testing"

	"quadrille/api"
	"quadrille/note"
)

// full answers a thing of each kind whose fields are all there, as its fields.
func full() [][]any {
	return [][]any{
		fieldsOf(1, api.Note{Kind: api.Saved, Job: 300, Ver: 2, Rank: 3, Blob: []byte("blob")}),
		fieldsOf(2, api.Request{Client: 2, Seq: 5, Kind: api.Submit, Tier: 1, K: 3, W: 70}),
		fieldsOf(3, api.Reply{Client: 2, Seq: 5, E: api.ErrFull, Job: 9, State: 1, Credit: 200}),
		fieldsOf(4, api.Packet{Node: 3, Epoch: 1, Life: 2, Seq: 9, Ack: 4, Data: []byte("data")}),
	}
}

// said answers what the four readers say of p; it fails the test if one tells something beside an error.
func said(t *testing.T, p []byte) [4]api.Errno {
	t.Helper()
	n, e1 := note.ReadNote(p)
	q, e2 := note.ReadRequest(p)
	r, e3 := note.ReadReply(p)
	k, e4 := note.ReadPacket(p)
	if e1 != api.OK && (n.Blob != nil || !like(n, api.Note{})) || e2 != api.OK && q != (api.Request{}) || e3 != api.OK && r != (api.Reply{}) || e4 != api.OK && (k.Data != nil || !like(k, api.Packet{})) {
		t.Errorf("% x: something beside an error: %+v %+v %+v %+v", p, n, q, r, k)
	}
	return [4]api.Errno{e1, e2, e3, e4}
}

func all(e api.Errno) [4]api.Errno { return [4]api.Errno{e, e, e, e} }

// isAll fails the test unless all four readers say e of p.
func isAll(t *testing.T, what string, p []byte, e api.Errno) {
	t.Helper()
	if got := said(t, p); got != all(e) {
		t.Errorf("%s: errors %v, want %d", what, got, e)
	}
}

func TestEachReaderReadsItsOwn(t *testing.T) {
	for i, fields := range full() {
		wanted := all(api.ErrForm)
		wanted[i] = api.OK
		if got := said(t, tied(spell(fields...))); got != wanted {
			t.Errorf("thing %d: errors %v, want %v", i+1, got, wanted)
		}
	}
}

func TestNoKnot(t *testing.T) {
	isAll(t, "nothing", nil, api.ErrShort)
	isAll(t, "one byte", []byte{9}, api.ErrShort)
	isAll(t, "too great a length", []byte{1, 8}, api.ErrLong)
	isAll(t, "the rest missing", []byte{0, 8}, api.ErrShort)
	for _, fields := range full() {
		p := tied(spell(fields...))
		for n := range p {
			isAll(t, "a front", p[:n], api.ErrShort)
		}
		isAll(t, "a byte behind", append(slices.Clone(p), 0), api.ErrForm)
		for i := 2; i < len(p); i++ {
			turned := slices.Clone(p)
			turned[i] ^= 4
			isAll(t, "a bit turned", turned, api.ErrSum)
		}
		turned := append(slices.Clone(p), 0)
		turned[len(p)-1] ^= 1
		isAll(t, "a bit turned, a byte behind", turned, api.ErrSum)
	}
}

// TestKnotsOfSomethingElse: the knot is right, what it holds isn't.
func TestKnotsOfSomethingElse(t *testing.T) {
	isAll(t, "an empty text", tied(nil), api.ErrForm)
	for _, fields := range full() {
		whole := spell(fields...)
		for n := range whole {
			isAll(t, "a front of the text", tied(whole[:n]), api.ErrForm)
		}
		isAll(t, "a byte behind the text", tied(append(slices.Clone(whole), 0)), api.ErrForm)
		isAll(t, "twice", tied(append(slices.Clone(whole), whole...)), api.ErrForm)
		for _, what := range []any{0, 5, 129, 255, 256 + 1, uint64(1) << 63, uint64(1)<<32 + 1} {
			isAll(t, "another thing", tied(spell(append([]any{what}, fields[1:]...)...)), api.ErrForm)
		}
		for i := range fields {
			if _, ok := fields[i].(text); ok {
				continue
			}
			longer := slices.Concat(spell(fields[:i]...), padded(spell(fields[i])), spell(fields[i+1:]...))
			isAll(t, "a number of more bytes than it takes", tied(longer), api.ErrForm)
		}
	}
}

// padded answers a number with a byte more than there must be.
func padded(n []byte) []byte {
	p := slices.Clone(n)
	p[len(p)-1] |= 0x80
	return append(p, 0)
}

// TestNumbersThatWrap: a number that would be right, if only its lower bits were looked at, is none.
func TestNumbersThatWrap(t *testing.T) {
	for what, fields := range full() {
		for i := 1; i < len(fields); i++ {
			n, ok := fields[i].(uint64)
			if !ok {
				m, isInt := fields[i].(int)
				if !isInt {
					continue
				}
				n = uint64(m)
			}
			for _, more := range []uint64{1 << 8, 1 << 32, 1 << 63} {
				if more == 1<<8 && !isByte(what, i) {
					continue
				}
				l := slices.Clone(fields)
				l[i] = n + more
				isAll(t, "a wrapped number", tied(spell(l...)), api.ErrForm)
			}
		}
	}
}

// isByte answers whether the i-th field of full's thing of that place has one byte.
func isByte(what, i int) bool {
	return slices.Contains([][]int{{1, 2, 9}, {1, 3, 4}, {1, 5}, {1, 6}}[what], i)
}

func TestTextsThatAreNotAllThere(t *testing.T) {
	for _, i := range []int{0, 3} {
		fields := full()[i]
		ahead := spell(fields[:len(fields)-1]...)
		isAll(t, "a text longer than the rest", tied(append(slices.Clone(ahead), 9, 'x')), api.ErrForm)
		isAll(t, "a text shorter than the rest", tied(append(slices.Clone(ahead), 1, 'x', 'y')), api.ErrForm)
	}
	packets().refusesFields(t, 4, 0, 0, 0, 0, 0, 2, text("x"))
	packets().refusesFields(t, 4, 0, 0, 0, 1, 0, 1, text("x"))
}

// TestNothingIsShared: what is handed in is neither changed nor kept, and each answer is new memory.
func TestNothingIsShared(t *testing.T) {
	room := bytes.Repeat([]byte{7}, 64)
	n := api.Note{Kind: api.Saved, Job: 1, Blob: room[:5]}
	k := api.Packet{Seq: 1, Data: room[:5]}
	for range 2 {
		p, _ := note.Note(n)
		q, _ := note.Packet(k)
		if !bytes.Equal(room, bytes.Repeat([]byte{7}, 64)) {
			t.Fatal("what was handed in is changed")
		}
		before := slices.Concat(p, q)
		a, e1 := note.ReadNote(p)
		b, e2 := note.ReadNote(p)
		c, e3 := note.ReadPacket(q)
		if e1 != api.OK || e2 != api.OK || e3 != api.OK {
			t.Fatal(e1, e2, e3)
		}
		scribble(a.Blob)
		if !bytes.Equal(before, slices.Concat(p, q)) {
			t.Fatal("the answer is a piece of what was handed in")
		}
		scribble(p)
		scribble(q)
		if !bytes.Equal(b.Blob, room[:5]) || !bytes.Equal(c.Data, room[:5]) || !bytes.Equal(room, bytes.Repeat([]byte{7}, 64)) {
			t.Fatal("answers share memory")
		}
	}
}

// scribble writes over p and its spare room.
func scribble(p []byte) {
	p = p[:cap(p)]
	for i := range p {
		p[i] = 0xee
	}
}

func FuzzRead(f *testing.F) {
	for _, fields := range full() {
		f.Add(spell(fields...))
	}
	f.Fuzz(func(t *testing.T, text []byte) {
		if len(text) > api.MaxBytes {
			return
		}
		p := tied(text)
		if n, e := note.ReadNote(p); e == api.OK {
			notes().isRight(t, n)
			same(t, p, notes(), n)
		}
		if q, e := note.ReadRequest(p); e == api.OK {
			same(t, p, requests(), q)
		}
		if r, e := note.ReadReply(p); e == api.OK {
			same(t, p, replies(), r)
		}
		if k, e := note.ReadPacket(p); e == api.OK {
			same(t, p, packets(), k)
		}
	})
}

// same fails the test unless p is just what x is written as.
func same[T any](t *testing.T, p []byte, k kind[T], x T) {
	t.Helper()
	if back, e := k.write(x); e != api.OK || !bytes.Equal(back, p) {
		t.Errorf("%s(%+v): % x, error %d; read from % x", k.name, x, back, e, p)
	}
}
