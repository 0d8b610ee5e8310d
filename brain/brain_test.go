package brain_test

import (
	"slices"
	"strconv"
	"strings"
	"testing"

	"quadrille/api"
	"quadrille/brain"
)

// two is a brain's numbers: two nodes, one row.
func two() brain.Config { return brain.Config{Nodes: 2, Rows: 1, Quantum: 5, Grace: 3} }

// told answers all that is told of a brain and stays.
func told(b *brain.Brain) string {
	var s strings.Builder
	num := func(l ...int) {
		for _, n := range l {
			s.WriteString(strconv.Itoa(n) + " ")
		}
		s.WriteString(";")
	}
	for _, id := range b.Jobs() {
		j, _ := b.Job(id)
		until, warned := b.Warned(id)
		num(int(id), int(j.ID), int(j.Tier), j.K, j.W, int(j.State), j.Credit, int(until))
		if warned {
			s.WriteString("warned")
		}
	}
	m := b.Matrix()
	rowCount, nodeCount := m.Size()
	for row := range rowCount {
		for node := range nodeCount {
			num(int(m.At(row, node)))
			if m.IsUp(node) {
				s.WriteString("up")
			}
		}
	}
	num(int(b.Gen()))
	for _, id := range b.Members() {
		num(int(id))
	}
	if b.Resting() {
		s.WriteString("rests")
	}
	return s.String()
}

// keeps fails the test unless do is answered the error, and nothing that is told has changed.
func keeps(t *testing.T, b *brain.Brain, what string, want api.Errno, do func() api.Errno) {
	t.Helper()
	was := told(b)
	if e := do(); e != want {
		t.Fatalf("%s: error %d, want %d", what, e, want)
	}
	if is := told(b); is != was {
		t.Fatalf("%s: %s, was %s", what, is, was)
	}
	if o, x, l := b.Take(), b.Images(), b.Done(); len(o)+len(x)+len(l) > 0 {
		t.Fatalf("%s: ordered %+v, images %+v, done %v", what, o, x, l)
	}
}

// TestExample is the chapter's.
func TestExample(t *testing.T) {
	w := made(t, two(), 0)
	w.add(api.Job{ID: 1, K: 2, W: 3}, 0)
	w.tick()
	for node := range 2 {
		if in := w.nodes[node].in; len(in) != 1 || in[0].Kind != api.Load {
			t.Fatalf("node %d is told %+v, not to load", node, in)
		}
	}
	w.calm()
	w.tick()
	for node := range 2 {
		if in := w.nodes[node].in; len(in) != 1 || in[0].Kind != api.Go || in[0].Gen != 1 || in[0].Job != 1 {
			t.Fatalf("node %d is told %+v, not to go", node, in)
		}
	}
	for range 10 {
		w.calm()
		w.tick()
	}
	if !slices.Equal(w.done, []uint32{1}) || len(w.b.Jobs()) > 0 || !w.b.Resting() {
		t.Fatalf("done %v, known %v", w.done, w.b.Jobs())
	}
}

func TestNew(t *testing.T) {
	for _, x := range []struct {
		c brain.Config
		e api.Errno
	}{
		{brain.Config{Nodes: 1, Rows: 1, Quantum: 1, Grace: 1}, api.OK},
		{brain.Config{Nodes: 16, Rows: 8, Quantum: 1000, Grace: 1000}, api.OK},
		{brain.Config{Nodes: 0, Rows: 1, Quantum: 1, Grace: 1}, api.ErrArg},
		{brain.Config{Nodes: -1, Rows: 1, Quantum: 1, Grace: 1}, api.ErrArg},
		{brain.Config{Nodes: 17, Rows: 8, Quantum: 5, Grace: 5}, api.ErrArg},
		{brain.Config{Nodes: 4, Rows: 0, Quantum: 5, Grace: 5}, api.ErrArg},
		{brain.Config{Nodes: 4, Rows: -1, Quantum: 5, Grace: 5}, api.ErrArg},
		{brain.Config{Nodes: 4, Rows: 9, Quantum: 5, Grace: 5}, api.ErrArg},
		{brain.Config{Nodes: 4, Rows: 3, Quantum: 0, Grace: 5}, api.ErrArg},
		{brain.Config{Nodes: 4, Rows: 3, Quantum: -5, Grace: 5}, api.ErrArg},
		{brain.Config{Nodes: 4, Rows: 3, Quantum: 1001, Grace: 5}, api.ErrArg},
		{brain.Config{Nodes: 4, Rows: 3, Quantum: 5, Grace: 0}, api.ErrArg},
		{brain.Config{Nodes: 4, Rows: 3, Quantum: 5, Grace: -1}, api.ErrArg},
		{brain.Config{Nodes: 4, Rows: 3, Quantum: 5, Grace: 1001}, api.ErrArg},
	} {
		b, e := brain.New(x.c, 7)
		if e != x.e || (b == nil) != (e != api.OK) {
			t.Fatalf("New(%+v): %v, error %d, want %d", x.c, b, e, x.e)
		}
		if b == nil {
			continue
		}
		if l, n := b.Matrix().Size(); l != x.c.Rows || n != x.c.Nodes || b.Matrix().IsUp(0) || b.Matrix().IsUp(n-1) {
			t.Fatalf("New(%+v): a matrix of %d rows, %d nodes", x.c, l, n)
		}
		if len(b.Jobs())+len(b.Members())+len(b.Take())+len(b.Images())+len(b.Done()) > 0 || b.Gen() != 0 || !b.Resting() {
			t.Fatalf("New(%+v): %s", x.c, told(b))
		}
	}
}

func TestAdd(t *testing.T) {
	b, _ := brain.New(brain.Config{Nodes: 3, Rows: 2, Quantum: 5, Grace: 3}, 0)
	right := api.Job{ID: 5, Tier: 3, K: 3, W: 10000, State: api.Placed, Credit: 9999}
	if e := b.Add(right, 4); e != api.OK {
		t.Fatalf("Add: error %d", e)
	}
	right.State = api.Queued
	if j, ok := b.Job(5); !ok || j != right {
		t.Fatalf("%+v, %v, want %+v", j, ok, right)
	}
	for _, x := range []struct {
		what string
		job  api.Job
		e    api.Errno
	}{
		{"no ID", api.Job{K: 1, W: 1}, api.ErrArg},
		{"K 0", api.Job{ID: 6, W: 1}, api.ErrArg},
		{"K below 0", api.Job{ID: 6, K: -1, W: 1}, api.ErrArg},
		{"K above the nodes", api.Job{ID: 6, K: 4, W: 1}, api.ErrArg},
		{"W 0", api.Job{ID: 6, K: 1}, api.ErrArg},
		{"W below 0", api.Job{ID: 6, K: 1, W: -1, Credit: -1}, api.ErrArg},
		{"W above MaxWall", api.Job{ID: 6, K: 1, W: 10001}, api.ErrArg},
		{"Credit below 0", api.Job{ID: 6, K: 1, W: 1, Credit: -1}, api.ErrArg},
		{"Credit above W", api.Job{ID: 6, K: 1, W: 1, Credit: 2}, api.ErrArg},
		{"Tier above MaxTier", api.Job{ID: 6, Tier: 4, K: 1, W: 1}, api.ErrArg},
		{"wrong, and there already", api.Job{ID: 5, K: 0, W: 1}, api.ErrArg},
		{"there already", api.Job{ID: 5, K: 1, W: 1}, api.ErrTwice},
		{"there already, and all run", api.Job{ID: 5, K: 1, W: 1, Credit: 1}, api.ErrTwice},
	} {
		keeps(t, b, x.what, x.e, func() api.Errno { return b.Add(x.job, 0) })
	}
}

// TestAddAllRun: a job all of which is published is Done at once.
func TestAddAllRun(t *testing.T) {
	b, _ := brain.New(two(), 100)
	for _, id := range []uint32{7, 3} {
		if e := b.Add(api.Job{ID: id, K: 1, W: 4, Credit: 4}, 1); e != api.OK {
			t.Fatalf("Add: error %d", e)
		}
		if _, ok := b.Job(id); ok || len(b.Jobs()) > 0 {
			t.Fatalf("%v: known still, though no node has a rank of it", b.Jobs())
		}
		keepsCancel(t, b, id)
	}
	l := b.Done()
	slices.Sort(l)
	if !slices.Equal(l, []uint32{3, 7}) || len(b.Done()) > 0 {
		t.Fatalf("done %v", l)
	}
}

// keepsCancel fails the test unless there is nothing to cancel of a job. (What is Done is told to nobody by that.)
func keepsCancel(t *testing.T, b *brain.Brain, job uint32) {
	t.Helper()
	was := told(b)
	if e := b.Cancel(job); e != api.ErrNone || told(b) != was {
		t.Fatalf("Cancel(%d): error %d, %s, was %s", job, e, told(b), was)
	}
}

func TestNodes(t *testing.T) {
	b, _ := brain.New(two(), 0)
	for _, node := range []int{-1, 2, 1 << 40} {
		keeps(t, b, "Up of no node", api.ErrArg, func() api.Errno { return b.Up(node) })
		keeps(t, b, "Lost of no node", api.ErrArg, func() api.Errno { return b.Lost(node) })
		keeps(t, b, "Hear of no node", api.ErrArg, func() api.Errno { return b.Hear(node, api.Note{Kind: api.Loaded, Job: 1}) })
	}
	keeps(t, b, "Lost of who isn't up", api.ErrState, func() api.Errno { return b.Lost(1) })
	keeps(t, b, "Hear of who isn't up", api.ErrState, func() api.Errno { return b.Hear(1, api.Note{Kind: 99}) })
	if e := b.Up(1); e != api.OK || !b.Matrix().IsUp(1) || b.Matrix().IsUp(0) {
		t.Fatalf("Up: error %d", e)
	}
	keeps(t, b, "Up twice", api.ErrState, func() api.Errno { return b.Up(1) })
	keeps(t, b, "Hear", api.OK, func() api.Errno { return b.Hear(1, api.Note{Kind: 99}) })
	if e := b.Lost(1); e != api.OK || b.Matrix().IsUp(1) {
		t.Fatalf("Lost: error %d", e)
	}
	keeps(t, b, "Lost twice", api.ErrState, func() api.Errno { return b.Lost(1) })
}

func TestTick(t *testing.T) {
	b, _ := brain.New(two(), 0)
	keeps(t, b, "Tick(0)", api.ErrStale, func() api.Errno { return b.Tick(0) })
	keeps(t, b, "Tick(7)", api.OK, func() api.Errno { return b.Tick(7) })
	keeps(t, b, "Tick(7) again", api.ErrStale, func() api.Errno { return b.Tick(7) })
	keeps(t, b, "Tick(6)", api.ErrStale, func() api.Errno { return b.Tick(6) })
	keeps(t, b, "the last Tick", api.OK, func() api.Errno { return b.Tick(api.MaxTick) })
	keeps(t, b, "the last Tick again", api.ErrStale, func() api.Errno { return b.Tick(api.MaxTick) })
}

// TestHold: nothing is ordered up to that tick, whatever there is to be done.
func TestHold(t *testing.T) {
	w := made(t, two(), 6)
	w.add(api.Job{ID: 1, K: 2, W: 3}, 0)
	w.add(api.Job{ID: 2, K: 1, W: 3}, 0)
	w.lost(1)
	w.up(1)
	w.cancel(2)
	if _, ok := w.b.Job(2); ok {
		t.Fatal("cancelled, of no rank, and known")
	}
	for range 6 {
		w.tick()
		if len(w.nodes[0].in) > 0 {
			t.Fatalf("tick %d: %+v", w.now, w.nodes[0].in)
		}
	}
	w.tick()
	if len(w.nodes[0].in) != 1 || len(w.nodes[1].in) != 1 {
		t.Fatal("nothing is ordered behind the tick up to which it holds")
	}
	b, _ := brain.New(two(), api.MaxTick)
	b.Up(0)
	b.Add(api.Job{ID: 1, K: 1, W: 1}, 0)
	keeps(t, b, "a Tick up to the last one", api.OK, func() api.Errno { return b.Tick(api.MaxTick) })
}

// TestTickOver: ticks that are left out do no harm.
func TestTickOver(t *testing.T) {
	w := made(t, two(), 9)
	w.add(api.Job{ID: 1, K: 2, W: 8}, 0)
	for range 20 {
		w.now += 99
		w.tick()
		w.calm()
	}
	if !slices.Equal(w.done, []uint32{1}) {
		t.Fatal(told(w.b))
	}
}

// TestTake: what was ordered comes once, in order, and not to whom it was lost.
func TestTake(t *testing.T) {
	b, _ := brain.New(two(), 0)
	b.Up(0)
	b.Up(1)
	b.Add(api.Job{ID: 1, K: 2, W: 5, Credit: 2}, 3)
	b.Tick(1)
	b.Lost(1)
	b.Up(1)
	want := []brain.Order{
		{To: 0, Note: api.Note{Kind: api.Load, Job: 1, Ver: 3, Credit: 2}},
		{To: 0, Note: api.Note{Kind: api.Drop, Job: 1}},
	}
	l := b.Take()
	if !slices.EqualFunc(l, want, func(x, y brain.Order) bool { return x.To == y.To && same(x.Note, y.Note) }) {
		t.Fatalf("%+v, want %+v", l, want)
	}
	if l := b.Take(); len(l) > 0 {
		t.Fatalf("again: %+v", l)
	}
}

// TestNil: a nil brain has nothing, and does nothing.
func TestNil(t *testing.T) {
	var b *brain.Brain
	for what, e := range map[string]api.Errno{
		"Add": b.Add(api.Job{}, 0), "Cancel": b.Cancel(1), "Up": b.Up(-1), "Lost": b.Lost(-1),
		"Hear": b.Hear(-1, api.Note{}), "Tick": b.Tick(0), "Published": b.Published(1, 1, true),
	} {
		if e != api.ErrNone {
			t.Errorf("%s: error %d", what, e)
		}
	}
	if len(b.Take())+len(b.Images())+len(b.Done())+len(b.Jobs())+len(b.Members()) > 0 {
		t.Error("there are things of a nil brain")
	}
	j, known := b.Job(1)
	until, warned := b.Warned(1)
	if j != (api.Job{}) || known || until != 0 || warned || b.Matrix() != nil || b.Gen() != 0 || b.Resting() {
		t.Error("a nil brain knows of things")
	}
}

// TestUnknown: what isn't known is told as nothing.
func TestUnknown(t *testing.T) {
	w := made(t, two(), 0)
	w.add(api.Job{ID: 2, K: 1, W: 1}, 0)
	for _, id := range []uint32{0, 1, 3, 1<<32 - 1} {
		j, known := w.b.Job(id)
		until, warned := w.b.Warned(id)
		if j != (api.Job{}) || known || until != 0 || warned {
			t.Fatalf("%d: %+v, %v, warned up to %d, %v", id, j, known, until, warned)
		}
		keeps(t, w.b, "Cancel", api.ErrNone, func() api.Errno { return w.b.Cancel(id) })
		keeps(t, w.b, "Published", api.ErrNone, func() api.Errno { return w.b.Published(id, 1, true) })
	}
}

// TestApart: answers are memory of their own.
func TestApart(t *testing.T) {
	w := made(t, two(), 0)
	for id := range uint32(3) {
		w.add(api.Job{ID: id + 1, K: 1, W: 1}, 0)
	}
	for range 2 {
		w.tick()
		w.calm()
	}
	was := told(w.b)
	spoil := func(l []uint32) {
		l = l[:cap(l)]
		for i := range l {
			l[i] = 77
		}
	}
	spoil(w.b.Jobs())
	spoil(w.b.Members())
	m := w.b.Matrix()
	m.Up(0, false)
	m.Remove(1)
	if told(w.b) != was {
		t.Fatalf("%s, was %s", told(w.b), was)
	}
}
