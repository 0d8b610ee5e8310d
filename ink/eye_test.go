package ink_test

import (
	"bytes"
	"encoding/binary"
	"math"
	"testing"

	"quadrille/api"
	"quadrille/ink"
)

// ends fails the test unless so many bytes are left and End answers e; asked twice, for asking changes nothing.
func ends(t *testing.T, what string, eye *ink.Eye, left int, e api.Errno) {
	t.Helper()
	for range 2 {
		if got := eye.Left(); got != left {
			t.Errorf("%s: Left %d, want %d", what, got, left)
		}
		if got := eye.End(); got != e {
			t.Errorf("%s: End %d, want %d", what, got, e)
		}
	}
}

// hasFailed fails the test unless the eye answers nothing to all that is asked.
func hasFailed(t *testing.T, what string, eye *ink.Eye) {
	t.Helper()
	ends(t, what, eye, 0, api.ErrForm)
	for range 2 {
		if n := eye.Num(); n != 0 {
			t.Errorf("%s: Num %d behind a failure", what, n)
		}
		if n := eye.Int(); n != 0 {
			t.Errorf("%s: Int %d behind a failure", what, n)
		}
		if eye.Bool() {
			t.Errorf("%s: Bool true behind a failure", what)
		}
		if x := eye.Text(); len(x) != 0 {
			t.Errorf("%s: Text % x behind a failure", what, x)
		}
	}
	ends(t, what, eye, 0, api.ErrForm)
}

func TestReadOfNothing(t *testing.T) {
	for _, p := range [][]byte{nil, {}} {
		ends(t, "nothing", ink.Read(p), 0, api.OK)
	}
}

func TestReadTellsWhatWasWritten(t *testing.T) {
	p := ink.New()
	p.Num(300)
	p.Int(math.MaxInt32)
	p.Bool(true)
	p.Bool(false)
	p.Text([]byte("ab"))
	p.Text(nil)
	p.Num(math.MaxUint64)
	eye := ink.Read(p.Bytes())
	ends(t, "ahead of all", eye, 23, api.ErrForm)
	if n := eye.Num(); n != 300 {
		t.Error("Num", n)
	}
	ends(t, "behind Num", eye, 21, api.ErrForm)
	if n := eye.Int(); n != math.MaxInt32 {
		t.Error("Int", n)
	}
	ends(t, "behind Int", eye, 16, api.ErrForm)
	if !eye.Bool() {
		t.Error("Bool: not true")
	}
	if eye.Bool() {
		t.Error("Bool: not false")
	}
	ends(t, "behind Bool", eye, 14, api.ErrForm)
	want(t, "Text", eye.Text(), []byte("ab"))
	ends(t, "behind Text", eye, 11, api.ErrForm)
	want(t, "Text of none", eye.Text(), nil)
	ends(t, "behind a Text of none", eye, 10, api.ErrForm)
	if n := eye.Num(); n != math.MaxUint64 {
		t.Error("Num", n)
	}
	ends(t, "behind all", eye, 0, api.OK)
	if n := eye.Num(); n != 0 {
		t.Error("Num behind all", n)
	}
	hasFailed(t, "behind all", eye)
}

func TestNumsAreReadBack(t *testing.T) {
	for _, n := range edges() {
		eye := ink.Read(append(binary.AppendUvarint(nil, n), 1, 2))
		if got := eye.Num(); got != n {
			t.Errorf("Num %d, want %d", got, n)
		}
		ends(t, "two behind it", eye, 2, api.ErrForm)
	}
}

func TestIntIsBelowTwoToThe31(t *testing.T) {
	for _, n := range edges() {
		eye := ink.Read(append(binary.AppendUvarint(nil, n), 1))
		got := eye.Int()
		if n > math.MaxInt32 {
			if got != 0 {
				t.Errorf("Int of %d: %d", n, got)
			}
			hasFailed(t, "a great Int", eye)
			continue
		}
		if got != int(n) {
			t.Errorf("Int %d, want %d", got, n)
		}
		ends(t, "one behind it", eye, 1, api.ErrForm)
	}
}

func TestBoolIsNoughtOrOne(t *testing.T) {
	for _, n := range edges() {
		eye := ink.Read(append(binary.AppendUvarint(nil, n), 1))
		got := eye.Bool()
		if got != (n == 1) {
			t.Errorf("Bool of %d: %t", n, got)
		}
		if n > 1 {
			hasFailed(t, "a Bool above 1", eye)
			continue
		}
		ends(t, "one behind it", eye, 1, api.ErrForm)
	}
}

func TestTextsAreReadBack(t *testing.T) {
	for _, n := range []int{0, 1, 2, 127, 128, 300, 20000} {
		text := bytes.Repeat([]byte{0xa5}, n)
		p := append(binary.AppendUvarint(nil, uint64(n)), text...)
		eye := ink.Read(p)
		want(t, "Text", eye.Text(), text)
		ends(t, "all of it", eye, 0, api.OK)

		eye = ink.Read(append(bytes.Clone(p), 7))
		want(t, "Text", eye.Text(), text)
		ends(t, "one behind it", eye, 1, api.ErrForm)

		eye = ink.Read(p[:len(p)-1])
		want(t, "Text that isn't all there", eye.Text(), nil)
		hasFailed(t, "Text that isn't all there", eye)
	}
}

// TestNoNumber: what is no number fails whoever reads it, though there is more behind it.
func TestNoNumber(t *testing.T) {
	ff := bytes.Repeat([]byte{0xff}, 20)
	noughts := bytes.Repeat([]byte{0x80}, 20)
	for _, p := range [][]byte{
		{},
		{0x80},
		{0xff},
		{0x80, 0},
		{0x81, 0},
		{0xff, 0},
		{0x80, 0x80, 0},
		{0x80, 0, 5},
		{0x80, 0x80},
		append(bytes.Clone(noughts[:9]), 0),
		append(bytes.Clone(noughts[:9]), 2),
		append(bytes.Clone(noughts[:9]), 0x7f),
		append(bytes.Clone(ff[:9]), 2),
		append(bytes.Clone(ff[:9]), 3),
		append(bytes.Clone(ff[:9]), 0x81, 0),
		append(bytes.Clone(ff[:9]), 0x81, 1),
		append(bytes.Clone(noughts[:10]), 1),
		append(bytes.Clone(noughts[:10]), 0, 1, 1, 1),
		ff[:9],
		ff[:10],
		ff,
		noughts,
	} {
		for kind, ask := range map[string]func(*ink.Eye) bool{
			"Num":  func(e *ink.Eye) bool { return e.Num() == 0 },
			"Int":  func(e *ink.Eye) bool { return e.Int() == 0 },
			"Bool": func(e *ink.Eye) bool { return !e.Bool() },
			"Text": func(e *ink.Eye) bool { return len(e.Text()) == 0 },
		} {
			eye := ink.Read(p)
			if !ask(eye) {
				t.Errorf("%s of % x answers something", kind, p)
			}
			hasFailed(t, kind, eye)
		}
	}
}

// TestAllShortBytes: of all strings of one and of two bytes, and of those with a third one, just the library's numbers are read, if fewer bytes wouldn't do.
func TestAllShortBytes(t *testing.T) {
	for n := range 1 << 16 {
		one, two := byte(n), byte(n>>8)
		if two == 0 {
			readsAsTheLibrary(t, []byte{one})
		}
		readsAsTheLibrary(t, []byte{one, two})
		for _, three := range []byte{0, 1, 0x7f, 0x80, 0x81, 0xff} {
			readsAsTheLibrary(t, []byte{one, two, three})
		}
	}
}

func readsAsTheLibrary(t *testing.T, p []byte) {
	t.Helper()
	n, size := binary.Uvarint(p)
	left, e := len(p)-size, api.ErrForm
	switch {
	case size <= 0 || size > 1 && p[size-1] == 0:
		n, left = 0, 0
	case left == 0:
		e = api.OK
	}
	eye := ink.Read(p)
	got := eye.Num()
	if got != n || eye.Left() != left || eye.End() != e {
		t.Errorf("% x: Num %d, Left %d, End %d; want %d, %d, %d", p, got, eye.Left(), eye.End(), n, left, e)
	}
}

func TestTextOfHugeLength(t *testing.T) {
	for _, n := range []uint64{4, 300, math.MaxInt32, math.MaxUint32, math.MaxInt64, math.MaxInt64 + 1, math.MaxUint64 - 1, math.MaxUint64} {
		eye := ink.Read(append(binary.AppendUvarint(nil, n), 'a', 'b', 'c'))
		want(t, "Text", eye.Text(), nil)
		hasFailed(t, "Text", eye)
	}
}

func TestFailureComesLate(t *testing.T) {
	eye := ink.Read([]byte{5, 2, 1, 1, 1})
	if n := eye.Num(); n != 5 {
		t.Error("Num", n)
	}
	if eye.Bool() {
		t.Error("Bool of 2")
	}
	hasFailed(t, "a Bool of 2", eye)
}

func TestNilEye(t *testing.T) {
	var eye *ink.Eye
	for range 2 {
		if eye.Num() != 0 || eye.Int() != 0 || eye.Bool() || len(eye.Text()) != 0 || eye.Left() != 0 {
			t.Error("a nil eye answers something")
		}
		if e := eye.End(); e != api.ErrNone {
			t.Error("End of a nil eye:", e)
		}
	}
}

func TestReadKeepsNothing(t *testing.T) {
	room := []byte{2, 'a', 'b', 7, 'x', 'y'}
	eye := ink.Read(room[:4])
	text := eye.Text()
	scribble(text)
	want(t, "the caller's room", room, []byte{2, 'a', 'b', 7, 'x', 'y'})
	if n := eye.Num(); n != 7 {
		t.Error("an answer shares memory with what is read:", n)
	}

	eye = ink.Read(room[:4])
	scribble(room)
	want(t, "written over behind Read", eye.Text(), []byte("ab"))
	if n := eye.Num(); n != 7 {
		t.Error("written over behind Read:", n)
	}
	ends(t, "written over behind Read", eye, 0, api.OK)
}

func TestTextsAreNewMemory(t *testing.T) {
	eye := ink.Read([]byte{2, 'a', 'b', 2, 'c', 'd', 0, 1, 'e'})
	one := eye.Text()
	scribble(one)
	two := eye.Text()
	want(t, "the second text", two, []byte("cd"))
	scribble(one)
	want(t, "the second text, behind the first one", two, []byte("cd"))
	scribble(two)
	scribble(eye.Text())
	want(t, "the last text", eye.Text(), []byte("e"))
	ends(t, "all of it", eye, 0, api.OK)
}

// TestTheSameAgain: what is answered hangs on what was told, on nothing else.
func TestTheSameAgain(t *testing.T) {
	p := []byte{0xac, 2, 1, 2, 'a', 'b', 0x80, 0}
	for range 3 {
		a, b := ink.Read(p), ink.Read(p)
		for range 2 {
			if x, y := a.Num(), b.Num(); x != y {
				t.Errorf("Num %d and %d", x, y)
			}
		}
		want(t, "Text", a.Text(), b.Text())
		if a.Left() != b.Left() || a.End() != b.End() {
			t.Error("Left, End")
		}
		hasFailed(t, "the one", func() *ink.Eye { a.Num(); return a }())
		if b.Left() != 2 {
			t.Error("the other one fails, too")
		}
	}
}
