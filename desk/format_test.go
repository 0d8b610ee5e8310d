package desk_test

import (
	"bytes"
	"testing"

	"quadrille/api"
	"quadrille/brain"
	"quadrille/desk"
	"quadrille/jobs"
	"quadrille/scroll"
	"quadrille/slab"
)

// wrong answers Configs that no desk can have, on a slab of so many sectors as one of plain(3) takes.
func wrong() map[string]desk.Config {
	l := map[string]desk.Config{"nothing": {}}
	put := func(name string, change func(c *desk.Config)) {
		c := plain(3)
		change(&c)
		l[name] = c
	}
	put("no nodes", func(c *desk.Config) { c.Brain.Nodes = 0 })
	put("too many nodes", func(c *desk.Config) { c.Brain.Nodes = api.MaxNodes + 1 })
	put("no rows", func(c *desk.Config) { c.Brain.Rows = 0 })
	put("too many rows", func(c *desk.Config) { c.Brain.Rows = api.MaxRows + 1 })
	put("no quantum", func(c *desk.Config) { c.Brain.Quantum = 0 })
	put("too long a quantum", func(c *desk.Config) { c.Brain.Quantum = 1001 })
	put("no grace", func(c *desk.Config) { c.Brain.Grace = 0 })
	put("too long a grace", func(c *desk.Config) { c.Brain.Grace = 1001 })
	put("no size", func(c *desk.Config) { c.Size = 0 })
	put("a size below 0", func(c *desk.Config) { c.Size, c.Images = -5, 100 })
	put("no images", func(c *desk.Config) { c.Images = 0 })
	put("images below 0", func(c *desk.Config) { c.Images = -1 })
	put("a sector too few", func(c *desk.Config) { c.Images++ })
	put("two sectors too few", func(c *desk.Config) { c.Size++ })
	put("too great a size", func(c *desk.Config) { c.Size = api.MaxSectors + 1 })
	put("too many images", func(c *desk.Config) { c.Images = api.MaxSectors + 1 })
	put("a size that wraps", func(c *desk.Config) { c.Size = 1 << 62 })
	put("a size that wraps to below 0", func(c *desk.Config) { c.Size = 1<<63 - 1 })
	put("images that wrap", func(c *desk.Config) { c.Images = 1<<63 - 1 })
	return l
}

func TestWrongConfig(t *testing.T) {
	for name, c := range wrong() {
		s := formatted(t, plain(3))
		was := contents(t, s)
		if e := desk.Format(s, c); e != api.ErrArg {
			t.Errorf("%s: Format: error %d", name, e)
		}
		if d, e := desk.Open(s, c, 0); e != api.ErrArg || d != nil {
			t.Errorf("%s: Open: %v, error %d", name, d, e)
		}
		if !bytes.Equal(contents(t, s), was) {
			t.Errorf("%s: the slab has changed", name)
		}
		if e := desk.Format(nil, c); e != api.ErrNone {
			t.Errorf("%s: Format of no slab: error %d", name, e)
		}
		if d, e := desk.Open(nil, c, 0); e != api.ErrNone || d != nil {
			t.Errorf("%s: Open of no slab: %v, error %d", name, d, e)
		}
	}
	if e := desk.Format(nil, plain(3)); e != api.ErrNone {
		t.Errorf("Format of no slab: error %d", e)
	}
}

// contents answers all that stands on a slab.
func contents(t *testing.T, s *slab.Slab) []byte {
	t.Helper()
	var l []byte
	for i := range s.Len() {
		p, e := s.Read(i)
		if e != api.OK {
			t.Fatal("Read: error", e)
		}
		l = append(l, p...)
	}
	return l
}

func TestEdgesOfConfig(t *testing.T) {
	for _, c := range []desk.Config{
		{Brain: brain.Config{Nodes: 1, Rows: 1, Quantum: 1, Grace: 1}, Size: 1, Images: 1},
		{Brain: brain.Config{Nodes: api.MaxNodes, Rows: api.MaxRows, Quantum: 1000, Grace: 1000}, Size: 1000, Images: 2000},
		{Brain: brain.Config{Nodes: 1, Rows: 1, Quantum: 1, Grace: 1}, Size: 1, Images: api.MaxSectors - 4},
	} {
		d := opened(t, formatted(t, c), c, 0)
		if d.Epoch() != 1 || d.Table().Next() != 1 || len(d.Out()) != 0 {
			t.Errorf("%+v: epoch %d, next job %d", c, d.Epoch(), d.Table().Next())
		}
	}
}

// TestFormat: a desk that was just formatted has no jobs, all its nodes are Away, and nothing is said.
func TestFormat(t *testing.T) {
	c := plain(3)
	d := opened(t, formatted(t, c), c, 7)
	none, _ := jobs.New(3)
	if !bytes.Equal(d.Table().Bytes(), none.Bytes()) {
		t.Errorf("the table is %x, want %x", d.Table().Bytes(), none.Bytes())
	}
	if d.Epoch() != 1 || !d.Up() || len(d.Out()) != 0 || len(d.Brain().Jobs()) != 0 {
		t.Error("epoch", d.Epoch(), "jobs", d.Brain().Jobs())
	}
	for node := range 3 {
		if d.Book().State(node) != 0 || d.Brain().Matrix().IsUp(node) {
			t.Errorf("node %d isn't Away", node)
		}
	}
	if n, m := d.Brain().Matrix().Size(); n != 2 || m != 3 {
		t.Errorf("%d rows, %d nodes", n, m)
	}
}

// TestFormatDown: where the power goes in it, Format answers ErrDown, and there is a desk without jobs behind it, or none.
func TestFormatDown(t *testing.T) {
	c := plain(2)
	off := blank(t, c)
	off.Arm(1)
	off.Flush()
	if e := desk.Format(off, c); e != api.ErrDown {
		t.Error("with the power off: error", e)
	}
	for n := 1; ; n++ {
		for fate := range byte(4) {
			s := blank(t, c)
			s.Arm(n)
			e := desk.Format(s, c)
			if e == api.OK && n > 2 {
				return
			}
			if e != api.ErrDown {
				t.Fatalf("step %d: error %d", n, e)
			}
			s.Crash([]byte{fate, fate, fate}, 60)
			d, e := desk.Open(s, c, 0)
			if e != api.ErrForm && (e != api.OK || d.Table().Next() != 1) {
				t.Fatalf("step %d: Open: error %d", n, e)
			}
			if e := desk.Format(s, c); e != api.OK {
				t.Fatalf("step %d: Format again: error %d", n, e)
			}
			opened(t, s, c, 0)
		}
	}
}

// TestFormatAgainDown: where an earlier desk is on the slab Format answers ErrDown wherever the power goes, and can be done again.
func TestFormatAgainDown(t *testing.T) {
	c := plain(2)
	for n := 1; ; n++ {
		s := formatted(t, c)
		asked(t, opened(t, s, c, 0), api.Request{Seq: 1, Kind: api.Submit, K: 1, W: 3})
		s.Arm(n)
		e := desk.Format(s, c)
		if e == api.OK && n > 6 {
			return
		}
		if e != api.ErrDown || s.On() {
			t.Fatalf("step %d: error %d", n, e)
		}
		s.Crash([]byte{0, 1, 2, 3, 1, 1}, 60)
		if e := desk.Format(s, c); e != api.OK || opened(t, s, c, 0).Table().Next() != 1 {
			t.Fatalf("step %d: Format again: error %d", n, e)
		}
	}
}

// TestFormatAgain: of an earlier desk on the slab nothing is left, neither its jobs nor what they had come to.
func TestFormatAgain(t *testing.T) {
	for turns := range 4 { // each opening changes which of the roots is the later one
		w := made(t, plain(2))
		w.submit(0, 1, 20)
		w.submit(0, 2, 30)
		w.credited(1, 5)
		for range turns {
			w.reopen()
		}
		if e := desk.Format(w.s, w.c); e != api.OK {
			t.Fatal("Format: error", e)
		}
		d := opened(t, w.s, w.c, w.now)
		if d.Epoch() != 1 || d.Table().Next() != 1 || len(d.Brain().Jobs()) != 0 || len(storeOf(t, w.s, w.c).List()) != 0 {
			t.Fatalf("%d turns: epoch %d, next job %d, images %v", turns, d.Epoch(), d.Table().Next(), storeOf(t, w.s, w.c).List())
		}
		if r, e := asked(t, d, api.Request{Seq: 1, Kind: api.Submit, K: 1, W: 20}); e != api.OK || r.Job != 1 {
			t.Fatal(r, e)
		}
		d = opened(t, w.s, w.c, w.now)
		if j, ok := d.Table().Job(1); !ok || j.Credit != 0 {
			t.Fatalf("%d turns: %+v has what another job has come to", turns, j)
		}
	}
}

// TestFormatAlone: what stands behind a desk's sectors is left alone.
func TestFormatAlone(t *testing.T) {
	c := plain(2)
	s, _ := slab.New(sectors(c) + 1)
	s.Write(sectors(c), []byte("behind"))
	s.Write(5, []byte("within"))
	s.Flush()
	if e := desk.Format(s, c); e != api.OK {
		t.Fatal("error", e)
	}
	p, _ := s.Read(sectors(c))
	q, _ := s.Read(5)
	if !bytes.HasPrefix(p, []byte("behind")) || bytes.HasPrefix(q, []byte("within")) {
		t.Errorf("behind it: %q, within: %q", p, q)
	}
}

// TestOpenForm: a snapshot or a record that is none.
func TestOpenForm(t *testing.T) {
	c := plain(2)
	none, _ := jobs.New(2)
	for name, p := range map[string][]byte{
		"empty": nil, "a byte": {1}, "letters": []byte("snapshot"), "more than a table": append(none.Bytes(), 0),
	} {
		s := blank(t, c)
		scroll.Format(s, c.Size, p)
		if d, e := desk.Open(s, c, 0); e != api.ErrForm || d != nil {
			t.Errorf("%s: error %d", name, e)
		}
	}
	for name, records := range map[string][][]byte{
		"empty": {nil}, "a byte": {{1}}, "another": {{0}}, "letters": {[]byte("record")}, "noughts": {make([]byte, 40)},
		"job 7 is Done":   {{2, 7}},
		"of another kind": {{3, 1}},
		"a table":         {none.Bytes()},
	} {
		s := formatted(t, c)
		l, _ := scroll.Open(s, c.Size)
		if e := l.Add(records); e != api.OK {
			t.Fatal(name, e)
		}
		if d, e := desk.Open(s, c, 0); e != api.ErrForm || d != nil {
			t.Errorf("%s: error %d", name, e)
		}
	}
}

// TestOpenWrongRecords: each record that there is, with bytes behind it, a byte less, or done twice, is none.
func TestOpenWrongRecords(t *testing.T) {
	w := made(t, plain(2))
	w.submit(1, 2, 9)
	w.submit(0, 1, 3)
	w.credited(1, 1)
	w.until("Done", func() bool { return w.job(2).State == api.Done })
	w.cancel(1)
	l, e := scroll.Open(w.s, w.c.Size)
	if e != api.OK || len(l.Records()) != 4 {
		t.Fatalf("error %d, records %x", e, l.Records())
	}
	records := l.Records()
	try := func(what string, list [][]byte, want api.Errno) {
		t.Helper()
		s := formatted(t, w.c)
		l, _ := scroll.Open(s, w.c.Size)
		l.Add(list)
		if d, e := desk.Open(s, w.c, 0); e != want || (d == nil) != (want != api.OK) {
			t.Errorf("%s: error %d, want %d", what, e, want)
		}
	}
	try("as they are", records, api.OK)
	for i, p := range records {
		ahead := records[:i:i]
		try("with a nought behind", append(ahead, append(p[:len(p):len(p)], 0)), api.ErrForm)
		try("a byte shorter", append(ahead, p[:len(p)-1]), api.ErrForm)
		try("twice", append(ahead, p, p), api.ErrForm)
		try("alone", [][]byte{p}, []api.Errno{api.OK, api.ErrForm, api.ErrForm, api.ErrForm}[i])
	}
	last := func(p []byte, b ...byte) []byte { return append(p[:len(p)-1:len(p)-1], b...) }
	try("job 1 is Done", [][]byte{records[0], last(records[2], 1)}, api.OK)
	try("a number too great by 2^32 is Done", [][]byte{records[0], last(records[2], 0x81, 0x80, 0x80, 0x80, 0x10)}, api.ErrForm)
	try("cancelled with all of its ticks", append(records[:3:3], last(records[3], 9)), api.OK)
	try("cancelled with more than its ticks", append(records[:3:3], last(records[3], 10)), api.ErrForm)
	try("submitted with a credit", [][]byte{last(records[0], 1)}, api.ErrForm)
	c := w.c
	c.Brain.Nodes = 1
	if d, e := desk.Open(w.s, c, 0); e != api.ErrForm || d != nil {
		t.Errorf("a job of 2 nodes, on one: error %d", e)
	}
}
