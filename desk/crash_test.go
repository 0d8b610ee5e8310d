package desk_test

import (
	"bytes"
	"slices"
	"strconv"
	"testing"

	"quadrille/api"
	"quadrille/desk"
	"quadrille/jobs"
)

// allFates answers all fates of n writes.
func allFates(n int) [][]byte {
	l := [][]byte{nil}
	for range n {
		var longer [][]byte
		for _, fates := range l {
			for fate := range byte(4) {
				longer = append(longer, append(slices.Clone(fates), fate))
			}
		}
		l = longer
	}
	return l
}

// anyOf tells whether a table is one of these.
func anyOf(t *jobs.Table, l ...*jobs.Table) bool {
	return slices.ContainsFunc(l, func(x *jobs.Table) bool { return bytes.Equal(x.Bytes(), t.Bytes()) })
}

// crashed has a desk be opened behind a crash, which is to have one of these tables, and the same when it is opened again.
func crashed(w *world, what string, fates []byte, cut int, l ...*jobs.Table) {
	w.t.Helper()
	epoch := w.d.Epoch()
	w.crash(fates, cut)
	if !anyOf(w.d.Table(), l...) {
		w.t.Fatalf("%s, fates %v: the table is %x, was %x", what, fates, w.d.Table().Bytes(), l[0].Bytes())
	}
	if w.d.Epoch() <= epoch {
		w.t.Fatalf("%s, fates %v: epoch %d behind %d", what, fates, w.d.Epoch(), epoch)
	}
	was := w.d.Table()
	w.reopen()
	if !anyOf(w.d.Table(), was) || !slices.Equal(w.d.Table().Active(), was.Active()) {
		w.t.Fatalf("%s, fates %v: opened again it is another", what, fates)
	}
}

// TestCrashInAsk: wherever the power goes in a request, there is no reply, nothing is told to have changed, and it is done, or not, once it is opened again.
func TestCrashInAsk(t *testing.T) {
	for name, made := range map[string]func() (*world, api.Request){
		"submit": func() (*world, api.Request) {
			return made(t, plain(2)), api.Request{Seq: 1, Kind: api.Submit, K: 1, W: 3}
		},
		"submit, with a snapshot": func() (*world, api.Request) {
			c := plain(2)
			c.Size = 3
			w := made(t, c)
			w.submit(0, 1, 3)
			w.submit(0, 2, 3)
			return w, api.Request{Seq: 3, Kind: api.Submit, K: 1, W: 3}
		},
		"cancel": func() (*world, api.Request) {
			w := made(t, plain(2))
			w.submit(0, 1, 50)
			w.credited(1, 3)
			return w, api.Request{Seq: 2, Kind: api.Cancel, Job: 1}
		},
		"cancel, with a snapshot": func() (*world, api.Request) {
			c := plain(2)
			c.Size = 2
			w := made(t, c)
			w.submit(0, 1, 50)
			w.credited(1, 3)
			return w, api.Request{Seq: 2, Kind: api.Cancel, Job: 1}
		},
	} {
		most := 0
		for n := 1; cutAsk(t, name, made, n); n++ {
			most = n
		}
		if most < 2 {
			t.Errorf("%s: %d steps", name, most)
		}
	}
}

// cutAsk has the power go at the n-th step of a request; false: it has fewer.
func cutAsk(t *testing.T, name string, made func() (*world, api.Request), n int) bool {
	t.Helper()
	for way, fates := 0, [][]byte{nil}; len(fates) > 0; fates = fates[1:] {
		w, q := made()
		was, would := w.d.Table(), w.d.Table()
		would.Do(q)
		known := w.d.Brain().Jobs()
		w.s.Arm(n)
		r, e := w.ask(q)
		if e == api.OK {
			if r.E != api.OK || !anyOf(w.d.Table(), would) {
				t.Fatalf("%s: %+v", name, r)
			}
			return false
		}
		what := name + ", step " + strconv.Itoa(n)
		if e != api.ErrDown || w.d.Up() || !anyOf(w.d.Table(), was) || !slices.Equal(w.d.Brain().Jobs(), known) || len(w.d.Out()) > 0 {
			t.Fatalf("%s: error %d, or something is told", what, e)
		}
		if way == 0 && w.s.Way() > 0 {
			way = w.s.Way()
			fates = append(fates, allFates(way)...)
		}
		crashed(w, what, fates[0], 70, was, would)
		again, e := w.ask(q)
		want, _ := would.Copy().Do(q)
		if e != api.OK || again != want || !anyOf(w.d.Table(), would) {
			t.Fatalf("%s, fates %v: asked again: %+v, error %d", what, fates[0], again, e)
		}
	}
	return true
}

// scene has a world of two nodes in which jobs come, run, are sent away, are cancelled and come to their end; it goes on till the power has gone, and answers what may be there behind the crash, what was told ahead of it first; none: the power has stayed.
func scene(w *world) []*jobs.Table {
	w.t.Helper()
	for i := range 70 {
		was := w.d.Table()
		if q, ok := script(i); ok {
			q.Seq = w.seqs[0] + 1
			w.seqs[0]++
			would := w.d.Table()
			would.Do(q)
			if _, e := w.ask(q); e == api.ErrDown {
				return []*jobs.Table{was, would}
			}
			w.send()
		}
		w.tick()
		for len(w.air) > 0 && w.d.Up() {
			w.land(0)
		}
		if !w.d.Up() {
			return orDone(w.d.Table())
		}
	}
	return nil
}

// script answers what is asked ahead of the i-th tick; false: nothing is.
func script(i int) (api.Request, bool) {
	switch i {
	case 0:
		return api.Request{Kind: api.Submit, K: 1, W: 2}, true
	case 1:
		return api.Request{Kind: api.Submit, K: 2, W: 7}, true
	case 2:
		return api.Request{Kind: api.Submit, K: 1, W: 2}, true
	case 3:
		return api.Request{Kind: api.Submit, K: 1, W: 30}, true
	case 24:
		return api.Request{Kind: api.Submit, Tier: 2, K: 2, W: 4}, true
	case 40:
		return api.Request{Kind: api.Cancel, Job: 4}, true
	}
	return api.Request{}, false
}

// orDone answers a table, and what it would be if one of its active jobs were Done.
func orDone(was *jobs.Table) []*jobs.Table {
	l := []*jobs.Table{was}
	for _, j := range was.Active() {
		x := was.Copy()
		x.Finish(j.ID)
		l = append(l, x)
	}
	return l
}

// TestCrashes: wherever the power goes, with areas that find room for all and with such as are full again and again, what was told is there, and the rest comes to its end.
func TestCrashes(t *testing.T) {
	for _, size := range []int{30, 3} {
		c := desk.Config{Brain: plain(2).Brain, Size: size, Images: 24}
		c.Brain.Rows = 1 // so that one has to make room
		dones, steps := map[int]bool{}, 0
		for n := 1; ; n++ {
			w := made(t, c)
			w.s.Arm(n)
			l := scene(w)
			if l == nil {
				steps = n
				break
			}
			crashed(w, "step "+strconv.Itoa(n), []byte{byte(n), byte(n / 4), byte(n / 16), byte(n / 3)}, n%128, l...)
			dones[len(w.d.Table().Over())] = true
			w.until("over", func() bool { return len(w.d.Table().Active()) == 0 })
		}
		if steps < 60 || len(dones) < 5 {
			t.Errorf("size %d: %d steps, %v were over", size, steps, dones)
		}
	}
}
