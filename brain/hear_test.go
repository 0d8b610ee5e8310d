package brain_test

import (
	"testing"

	"quadrille/api"
	"quadrille/brain"
)

// odd answers notes that no brain awaits from a node that is told nothing.
func odd() []api.Note {
	l := []api.Note{{}, {Kind: 13}, {Kind: 255, Job: 1}}
	for kind := byte(1); kind <= 12; kind++ {
		for _, job := range []uint32{0, 1, 2, 9} {
			for _, gen := range []uint32{0, 1, 2} {
				l = append(l, api.Note{Kind: kind, Job: job, Gen: gen, Ver: 1, From: 1, To: 9, Blob: []byte{1}})
			}
		}
	}
	return l
}

// deafTo fails the test unless a node may say these, and nothing comes of it.
func deafTo(t *testing.T, b *brain.Brain, node int, l ...api.Note) {
	t.Helper()
	for _, n := range l {
		keeps(t, b, "Hear", api.OK, func() api.Errno { return b.Hear(node, n) })
	}
}

// TestNotAwaited: what isn't awaited does nothing, at whatever stage a job is.
func TestNotAwaited(t *testing.T) {
	w := made(t, brain.Config{Nodes: 3, Rows: 1, Quantum: 3, Grace: 3}, 0)
	w.add(api.Job{ID: 1, K: 2, W: 3}, 0)
	idle := func() {
		t.Helper()
		deafTo(t, w.b, 2, odd()...) // it has no rank, as the job stands at 0 and 1
	}
	all := func(do func(node int) bool) {
		for node := range 2 {
			for do(node) {
			}
		}
	}
	deafTo(t, w.b, 0, odd()...)
	idle()
	w.tick() // Load
	stopped := api.Note{Kind: api.Stopped, Gen: 0, Job: 1, From: 1, To: 3}
	saved := api.Note{Kind: api.Saved, Job: 1, Ver: 1}
	dropped := api.Note{Kind: api.Dropped, Job: 1}
	loaded := api.Note{Kind: api.Loaded, Job: 1}
	deafTo(t, w.b, 0, stopped, saved, dropped, api.Note{Kind: api.Loaded, Job: 2})
	idle()
	all(w.deliver)
	w.hear(0)
	deafTo(t, w.b, 0, stopped, saved, dropped, loaded)
	idle()
	if s, _ := w.state(1); s != api.Loading {
		t.Fatalf("state %d, and node 1 hasn't said Loaded", s)
	}
	w.hear(1)
	if s, _ := w.state(1); s != api.Placed {
		t.Fatalf("state %d, and all have said Loaded", s)
	}
	deafTo(t, w.b, 1, stopped, saved, dropped, loaded)
	w.tick() // Go
	all(w.deliver)
	stopped.Gen = 1
	deafTo(t, w.b, 0, stopped, saved, dropped, loaded)
	idle()
	for range 3 {
		w.tick() // at the last one Stop
	}
	stopped.Gen = 2
	deafTo(t, w.b, 0, stopped, saved, dropped, loaded)
	stopped.Gen = 0
	deafTo(t, w.b, 0, stopped)
	all(w.deliver)
	w.hear(0)
	stopped.Gen = 1
	deafTo(t, w.b, 0, stopped, saved, dropped, loaded)
	w.hear(1) // Save
	saved.Ver = 2
	deafTo(t, w.b, 0, stopped, saved, dropped, loaded)
	saved.Ver = 0
	deafTo(t, w.b, 0, saved)
	idle()
	w.calm()
	if len(w.done) != 1 {
		t.Fatal("isn't Done")
	}
	deafTo(t, w.b, 0, odd()...)
}

// TestSavedByAnother: a rank's blob is its own alone.
func TestSavedByAnother(t *testing.T) {
	w := made(t, two(), 0)
	w.add(api.Job{ID: 1, K: 2, W: 3}, 0)
	w.until("Saved", w.says(0, api.Saved))
	deafTo(t, w.b, 0, api.Note{Kind: api.Saved, Job: 1, Ver: 1, Rank: 1, Blob: []byte{7}})
	w.until("Done", w.isDone(1))
}
