package note_test

import (
	"bytes"
	"encoding/binary"
	"hash/crc32"
	"reflect"
	"testing"

	"quadrille/api"
)

// text is a text among a thing's fields.
type text []byte

// spell answers the bytes of fields as layer 1 has them: numbers of seven bits a byte, texts with their length ahead.
func spell(fields ...any) []byte {
	var p []byte
	for _, f := range fields {
		switch x := f.(type) {
		case text:
			p = binary.AppendUvarint(p, uint64(len(x)))
			p = append(p, x...)
		case int:
			p = binary.AppendUvarint(p, uint64(x))
		case uint64:
			p = binary.AppendUvarint(p, x)
		}
	}
	return p
}

// tied answers the knot of t by the library's sum.
func tied(t []byte) []byte {
	k := binary.LittleEndian.AppendUint16(nil, uint16(len(t)))
	k = append(k, t...)
	return binary.LittleEndian.AppendUint32(k, crc32.Checksum(k, crc32.MakeTable(crc32.Castagnoli)))
}

// fieldsOf answers a thing's fields in the order of its type, its number ahead.
func fieldsOf(what int, x any) []any {
	l := []any{what}
	v := reflect.ValueOf(x)
	for i := range v.NumField() {
		switch f := v.Field(i); f.Kind() {
		case reflect.Uint8, reflect.Uint32:
			l = append(l, f.Uint())
		case reflect.Int:
			l = append(l, int(f.Int()))
		case reflect.Bool:
			n := 0
			if f.Bool() {
				n = 1
			}
			l = append(l, n)
		case reflect.Slice:
			l = append(l, text(f.Bytes()))
		}
	}
	return l
}

// like answers whether two things are the same, an empty text and none being one.
func like(a, b any) bool {
	v, w := reflect.ValueOf(a), reflect.ValueOf(b)
	for i := range v.NumField() {
		if v.Field(i).Kind() == reflect.Slice {
			if !bytes.Equal(v.Field(i).Bytes(), w.Field(i).Bytes()) {
				return false
			}
		} else if !v.Field(i).Equal(w.Field(i)) {
			return false
		}
	}
	return true
}

// front answers the first bytes of p: enough to tell in a message.
func front(p []byte) []byte { return p[:min(len(p), 64)] }

// kind is a kind of things as bytes: the number ahead, what writes it and what reads it.
type kind[T any] struct {
	name  string
	what  int
	write func(T) ([]byte, api.Errno)
	read  func([]byte) (T, api.Errno)
}

// isRight fails the test unless x's bytes are as the chapter says, and are read back.
func (k kind[T]) isRight(t *testing.T, x T) {
	t.Helper()
	wanted := tied(spell(fieldsOf(k.what, x)...))
	p, e := k.write(x)
	if e != api.OK || !bytes.Equal(p, wanted) {
		t.Errorf("%s(%+v): % x, error %d; want % x", k.name, x, front(p), e, front(wanted))
	}
	if back, e := k.read(wanted); e != api.OK || !like(back, x) {
		t.Errorf("Read%s of %+v: %+v, error %d", k.name, x, back, e)
	}
}

// isWrong fails the test unless x is refused, as itself and as the bytes that it would have.
func (k kind[T]) isWrong(t *testing.T, x T) {
	t.Helper()
	if p, e := k.write(x); e != api.ErrForm || len(p) != 0 {
		t.Errorf("%s(%+v): % x, error %d; want ErrForm", k.name, x, front(p), e)
	}
	spelt := spell(fieldsOf(k.what, x)...)
	if len(spelt) > api.MaxBytes {
		k.refuses(t, tied(spelt), api.ErrLong)
	} else {
		k.refuses(t, tied(spelt), api.ErrForm)
	}
}

// refuses fails the test unless the bytes are refused with that error, and nothing is told beside it.
func (k kind[T]) refuses(t *testing.T, p []byte, wanted api.Errno) {
	t.Helper()
	var none T
	if x, e := k.read(p); e != wanted || !reflect.DeepEqual(x, none) {
		t.Errorf("Read%s(% x): %+v, error %d; want error %d", k.name, front(p), x, e, wanted)
	}
}

// refusesFields fails the test unless the knot of these fields is refused with ErrForm.
func (k kind[T]) refusesFields(t *testing.T, fields ...any) {
	t.Helper()
	k.refuses(t, tied(spell(fields...)), api.ErrForm)
}
