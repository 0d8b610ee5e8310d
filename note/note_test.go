package note_test

import (
	"bytes"
	"math"
	"reflect"
	"slices"
	"testing"

	"quadrille/api"
	"quadrille/note"
)

const most = math.MaxUint32

func notes() kind[api.Note] { return kind[api.Note]{"Note", 1, note.Note, note.ReadNote} }

// named answers the fields that each kind of note names.
func named() map[byte][]string {
	return map[byte][]string{
		api.Beat:    {"Epoch", "Tick"},
		api.Hello:   {"Node", "Epoch", "Life", "Tick"},
		api.Load:    {"Job", "Ver", "Rank", "Credit"},
		api.Loaded:  {"Job"},
		api.Go:      {"Gen", "Job"},
		api.Stop:    {"Gen"},
		api.Stopped: {"Gen", "Job", "From", "To"},
		api.Save:    {"Job", "Ver", "Credit"},
		api.Saved:   {"Job", "Ver", "Rank", "Blob"},
		api.Drop:    {"Job"},
		api.Dropped: {"Job"},
		api.Warn:    {"Job", "Tick"},
	}
}

// values answers the values that a field of that name may have, the least and the greatest ones among them.
func values(field string) []any {
	switch field {
	case "Node", "Rank":
		return []any{byte(0), byte(1), byte(15)}
	case "Credit":
		return []any{0, 1, 127, 128, 10000}
	case "Blob":
		return []any{[]byte(nil), []byte{}, []byte("x"), []byte{0}, bytes.Repeat([]byte{0xff}, 127), bytes.Repeat([]byte{1}, 128), bytes.Repeat([]byte{7}, 1024)}
	}
	return []any{uint32(0), uint32(1), uint32(127), uint32(128), uint32(1 << 31), uint32(most - 1), uint32(most)}
}

// beyond answers the values next to those that a field may have.
func beyond(field string) []any {
	switch field {
	case "Node", "Rank":
		return []any{byte(16), byte(17), byte(128), byte(255)}
	case "Credit":
		return []any{-1, 10001, math.MinInt, math.MaxInt, math.MaxInt32, 1 << 32}
	case "Blob":
		return []any{make([]byte, 1025), make([]byte, 1900), make([]byte, 4000)}
	}
	return nil
}

// with answers n, that field of it being v.
func with(n api.Note, field string, v any) api.Note {
	reflect.ValueOf(&n).Elem().FieldByName(field).Set(reflect.ValueOf(v))
	return n
}

func TestNoteBytes(t *testing.T) {
	p, e := note.Note(api.Note{Kind: api.Beat, Epoch: 3, Tick: 9})
	front := []byte{14, 0, 1, 1, 0, 3, 0, 9, 0, 0, 0, 0, 0, 0, 0, 0}
	if e != api.OK || len(p) != 20 || !bytes.Equal(p[:16], front) {
		t.Errorf("% x, error %d", p, e)
	}
	if x, e := note.ReadRequest(p); e != api.ErrForm || x != (api.Request{}) {
		t.Error("a note read as a request", x, e)
	}
}

func TestNotesOfEachKind(t *testing.T) {
	for k, fields := range named() {
		n := api.Note{Kind: k}
		notes().isRight(t, n)
		all, big := n, n
		for i, f := range fields {
			for _, v := range values(f) {
				notes().isRight(t, with(n, f, v))
			}
			all = with(all, f, values(f)[1+i%2])
			big = with(big, f, values(f)[len(values(f))-1])
		}
		notes().isRight(t, all)
		notes().isRight(t, big)
	}
}

// TestNotesOfTooMuch: what a kind doesn't name is 0, and what it names within its bounds.
func TestNotesOfTooMuch(t *testing.T) {
	typ := reflect.TypeFor[api.Note]()
	for k, fields := range named() {
		for i := 1; i < typ.NumField(); i++ {
			f := typ.Field(i).Name
			for _, v := range beyond(f) {
				notes().isWrong(t, with(api.Note{Kind: k}, f, v))
			}
			if slices.Contains(fields, f) {
				continue
			}
			for _, v := range values(f) {
				n := with(api.Note{Kind: k}, f, v)
				if like(n, api.Note{Kind: k}) {
					notes().isRight(t, n)
				} else {
					notes().isWrong(t, n)
				}
			}
		}
	}
}

func TestNotesOfNoKind(t *testing.T) {
	for k := range 256 {
		if _, ok := named()[byte(k)]; !ok {
			notes().isWrong(t, api.Note{Kind: byte(k)})
			notes().isWrong(t, api.Note{Kind: byte(k), Job: 3})
		}
	}
}

func requests() kind[api.Request] {
	return kind[api.Request]{"Request", 2, note.Request, note.ReadRequest}
}

func TestRequests(t *testing.T) {
	for _, q := range []api.Request{
		{Kind: api.Submit},
		{Client: 7, Seq: most, Kind: api.Submit, Tier: 255, K: math.MaxInt32, W: math.MaxInt32},
		{Client: 2, Seq: 5, Kind: api.Submit, Tier: 1, K: 3, W: 70},
		{Kind: api.Submit, Tier: 4},
		{Kind: api.Submit, K: 17},
		{Kind: api.Submit, W: 10001},
		{Kind: api.Cancel},
		{Client: 7, Seq: 1, Kind: api.Cancel, Job: most},
		{Kind: api.Query},
		{Client: 7, Seq: 128, Kind: api.Query, Job: 1},
	} {
		requests().isRight(t, q)
	}
	for _, q := range []api.Request{
		{},
		{Kind: 4},
		{Kind: 255},
		{Kind: 0, K: 1},
		{Client: 8, Kind: api.Submit},
		{Client: 255, Kind: api.Query},
		{Client: 8, Kind: api.Cancel},
		{Kind: api.Submit, K: -1},
		{Kind: api.Submit, W: -1},
		{Kind: api.Submit, K: math.MaxInt32 + 1},
		{Kind: api.Submit, W: math.MaxInt32 + 1},
		{Kind: api.Submit, K: math.MaxInt},
		{Kind: api.Submit, W: math.MinInt},
		{Kind: api.Submit, Job: 1},
		{Kind: api.Submit, Job: most},
		{Kind: api.Cancel, Tier: 1},
		{Kind: api.Cancel, K: 1},
		{Kind: api.Cancel, W: 1},
		{Kind: api.Cancel, K: -1},
		{Kind: api.Query, Tier: 1},
		{Kind: api.Query, K: 1},
		{Kind: api.Query, W: 1},
		{Kind: api.Query, W: math.MaxInt},
	} {
		requests().isWrong(t, q)
	}
}

func replies() kind[api.Reply] { return kind[api.Reply]{"Reply", 3, note.Reply, note.ReadReply} }

func TestReplies(t *testing.T) {
	for _, r := range []api.Reply{
		{},
		{Client: 7, Seq: most, E: api.ErrText, Job: most, State: api.Cancelled, Credit: 10000},
		{Client: 2, Seq: 5, E: api.ErrFull},
		{E: api.ErrArg, Credit: 1},
		{State: api.Done, Job: 1},
	} {
		replies().isRight(t, r)
	}
	for _, r := range []api.Reply{
		{Client: 8},
		{Client: 255},
		{E: -1},
		{E: 17},
		{E: math.MaxInt},
		{E: math.MinInt},
		{State: api.Cancelled + 1},
		{State: 255},
		{Credit: -1},
		{Credit: 10001},
		{Credit: math.MaxInt},
	} {
		replies().isWrong(t, r)
	}
}

func packets() kind[api.Packet] {
	return kind[api.Packet]{"Packet", 4, note.Packet, note.ReadPacket}
}

func TestPackets(t *testing.T) {
	for _, k := range []api.Packet{
		{},
		{Plain: true},
		{Data: []byte{}},
		{Node: 3, Epoch: 1, Life: 2, Seq: 9, Ack: 4, Data: []byte("x")},
		{Node: 15, Epoch: most, Life: most, Ack: most, Plain: true, Data: bytes.Repeat([]byte{9}, 1984)},
		{Node: 15, Epoch: most, Life: most, Seq: most, Ack: most, Data: bytes.Repeat([]byte{9}, 1984)},
		{Seq: 1},
	} {
		packets().isRight(t, k)
	}
	for _, k := range []api.Packet{
		{Node: 16},
		{Node: 255, Plain: true},
		{Seq: 1, Plain: true},
		{Seq: most, Plain: true, Data: []byte("x")},
		{Data: make([]byte, 1985)},
		{Plain: true, Data: make([]byte, 2020)},
		{Data: make([]byte, 3000)},
	} {
		packets().isWrong(t, k)
	}
}
