package hand_test

import (
	"bytes"
	"math"
	"testing"

	"quadrille/api"
	"quadrille/hand"
)

func TestLoad(t *testing.T) {
	s := joined(t, 20)
	s.tell(api.Note{Kind: api.Load, Job: 5, Ver: 7, Rank: 15, Credit: api.MaxWall}, api.Note{Kind: api.Loaded, Job: 5})
	s.tell(api.Note{Kind: api.Load, Job: 2}, api.Note{Kind: api.Loaded, Job: 2})
	s.tell(api.Note{Kind: api.Load, Job: math.MaxUint32, Ver: math.MaxUint32}, api.Note{Kind: api.Loaded, Job: math.MaxUint32})
	last := []api.Rank{{Job: 2}, {Job: 5, Ver: 7, Rank: 15, Credit: api.MaxWall}, {Job: math.MaxUint32, Ver: math.MaxUint32}}
	has(t, s.Hand, last...)
	s.tell(api.Note{Kind: api.Load, Job: 5, Ver: 8, Rank: 1, Credit: 3}, api.Note{Kind: api.Loaded, Job: 5}) // it stays as it is
	s.tell(api.Note{Kind: api.Load, Ver: 8, Rank: 1, Credit: 3}, api.Note{Kind: api.Loaded})                 // no job
	has(t, s.Hand, last...)
}

// TestLoadOfOneThatRuns: it runs on.
func TestLoadOfOneThatRuns(t *testing.T) {
	s := joined(t, 20)
	s.load(5)
	s.run(4, 5)
	s.pass(2)
	s.tell(api.Note{Kind: api.Load, Job: 5, Ver: 1}, api.Note{Kind: api.Loaded, Job: 5})
	has(t, s.Hand, api.Rank{Job: 5, Run: true, Gen: 4, From: 1, To: 2})
	s.halt(4, 5, 1, 2)
	s.tell(api.Note{Kind: api.Drop, Job: 5}, api.Note{Kind: api.Dropped, Job: 5})
	s.load(5) // nothing is left of what it was
	has(t, s.Hand, api.Rank{Job: 5})
}

// TestGoNeedsARank: of a job that it has none of nothing runs.
func TestGoNeedsARank(t *testing.T) {
	s := joined(t, 20)
	s.run(1, 5)
	s.run(1, 0)
	has(t, s.Hand)
	s.load(5)
	s.run(1, 6)
	s.run(1, 0)
	has(t, s.Hand, api.Rank{Job: 5})
	s.run(1, 5)
	has(t, s.Hand, api.Rank{Job: 5, Run: true, Gen: 1})
}

// TestGoOfOneAtATime: while one runs no other one does, nor does itself begin anew.
func TestGoOfOneAtATime(t *testing.T) {
	s := joined(t, 20)
	s.load(5, 6)
	s.run(1, 5)
	s.pass(1)
	s.run(2, 6)
	s.run(3, 5)
	s.pass(2)
	has(t, s.Hand, api.Rank{Job: 5, Run: true, Gen: 1, From: 1, To: 2}, api.Rank{Job: 6})
	s.halt(3, 5, 1, 2)
	s.run(2, 6) // 3 was told
	has(t, s.Hand, api.Rank{Job: 5, Gen: 1, From: 1, To: 2}, api.Rank{Job: 6})
	s.run(3, 6)
	s.pass(3)
	has(t, s.Hand, api.Rank{Job: 5, Gen: 1, From: 1, To: 2}, api.Rank{Job: 6, Run: true, Gen: 3, From: 3, To: 3})
}

// TestGoBeginsTheCountAnew: From and To are of the last generation alone.
func TestGoBeginsTheCountAnew(t *testing.T) {
	s := joined(t, 20)
	s.tell(api.Note{Kind: api.Load, Job: 5, Ver: 2, Rank: 3, Credit: 4}, api.Note{Kind: api.Loaded, Job: 5})
	s.run(1, 5)
	s.pass(3)
	s.halt(1, 5, 1, 3)
	s.pass(5)
	has(t, s.Hand, api.Rank{Job: 5, Ver: 2, Rank: 3, Credit: 4, Gen: 1, From: 1, To: 3})
	s.run(2, 5)
	has(t, s.Hand, api.Rank{Job: 5, Ver: 2, Rank: 3, Credit: 4, Run: true, Gen: 2})
	s.halt(2, 5, 0, 0) // it didn't run in any tick
	s.run(2, 5)        // the same generation isn't older
	s.Tick(7)
	s.halt(2, 5, 7, 7)
}

// TestGoOfAGeneration: not of 0, nor of one below the greatest that was told, by a Go or by a Stop.
func TestGoOfAGeneration(t *testing.T) {
	s := joined(t, 20)
	s.load(5)
	s.run(0, 5)
	has(t, s.Hand, api.Rank{Job: 5})
	s.halt(4, 0, 0, 0)
	s.run(3, 5)
	has(t, s.Hand, api.Rank{Job: 5})
	s.run(4, 5)
	has(t, s.Hand, api.Rank{Job: 5, Run: true, Gen: 4})
	s.halt(5, 5, 0, 0)
	s.halt(2, 0, 0, 0) // 5 stays the greatest
	s.run(4, 5)
	has(t, s.Hand, api.Rank{Job: 5, Gen: 4})
	s.run(9, 77) // nothing comes of it, but it was told
	s.run(2, 77)
	s.run(8, 5)
	has(t, s.Hand, api.Rank{Job: 5, Gen: 4})
	s.run(9, 5)
	has(t, s.Hand, api.Rank{Job: 5, Run: true, Gen: 9})
	s.halt(math.MaxUint32, 5, 0, 0)
	s.run(math.MaxUint32-1, 5)
	has(t, s.Hand, api.Rank{Job: 5, Gen: 9})
	s.run(math.MaxUint32, 5)
	has(t, s.Hand, api.Rank{Job: 5, Run: true, Gen: math.MaxUint32})
}

// TestGoNeedsALease: of its life.
func TestGoNeedsALease(t *testing.T) {
	h := made(t)
	h.Hear(api.Packet{Node: theNode, Epoch: 1, Plain: true})
	s := met(t, h)
	s.load(5)
	s.run(1, 5)
	has(t, h, api.Rank{Job: 5})
	h.Hear(beat(t, 1, 3)) // though its bound is later than that
	s.run(1, 5)
	has(t, h, api.Rank{Job: 5, Run: true, Gen: 1})
	h.Restart()
	s = met(t, h)
	s.load(5)
	s.run(1, 5)
	has(t, h, api.Rank{Job: 5})
	h.Hear(beat(t, 1, 0)) // a lease of 0 is one
	s.run(1, 5)
	has(t, h, api.Rank{Job: 5, Run: true, Gen: 1})
}

// TestStop: of who runs in a generation that isn't above.
func TestStop(t *testing.T) {
	s := joined(t, 20)
	s.halt(0, 0, 0, 0)
	s.halt(7, 0, 0, 0)
	s.load(5, 6)
	s.run(8, 5)
	s.pass(4)
	s.halt(0, 0, 0, 0)
	s.halt(7, 0, 0, 0)
	has(t, s.Hand, api.Rank{Job: 5, Run: true, Gen: 8, From: 1, To: 4}, api.Rank{Job: 6})
	s.pass(6)
	s.halt(8, 5, 1, 6)
	has(t, s.Hand, api.Rank{Job: 5, Gen: 8, From: 1, To: 6}, api.Rank{Job: 6})
	s.pass(7)
	s.halt(8, 0, 0, 0) // once it doesn't run there is none
	has(t, s.Hand, api.Rank{Job: 5, Gen: 8, From: 1, To: 6}, api.Rank{Job: 6})
	s.run(9, 6)
	s.Tick(9)
	s.halt(math.MaxUint32, 6, 9, 9)
}

func TestSave(t *testing.T) {
	s := joined(t, 20)
	s.tell(api.Note{Kind: api.Save, Job: 5, Ver: 2, Credit: 6})
	s.tell(api.Note{Kind: api.Save})
	has(t, s.Hand)
	s.tell(api.Note{Kind: api.Load, Job: 5, Ver: 9, Rank: 15, Credit: 4}, api.Note{Kind: api.Loaded, Job: 5})
	s.load(6)
	s.tell(api.Note{Kind: api.Save, Job: 5, Ver: 2, Credit: 6}, api.Note{Kind: api.Saved, Job: 5, Ver: 2, Rank: 15, Blob: []byte{5, 15, 6}})
	has(t, s.Hand, api.Rank{Job: 5, Ver: 2, Rank: 15, Credit: 6}, api.Rank{Job: 6})
	s.run(1, 5)
	s.pass(2)
	s.tell(api.Note{Kind: api.Save, Job: 5, Ver: 3, Credit: 8}) // it runs
	s.tell(api.Note{Kind: api.Save, Job: 6, Ver: 3}, api.Note{Kind: api.Saved, Job: 6, Ver: 3, Blob: []byte{6, 0, 0}})
	has(t, s.Hand, api.Rank{Job: 5, Ver: 2, Rank: 15, Credit: 6, Run: true, Gen: 1, From: 1, To: 2}, api.Rank{Job: 6, Ver: 3})
	s.halt(1, 5, 1, 2)
	s.tell(api.Note{Kind: api.Save, Job: 5, Ver: 3, Credit: api.MaxWall}, api.Note{Kind: api.Saved, Job: 5, Ver: 3, Rank: 15, Blob: hand.Blob(5, 15, api.MaxWall)})
	has(t, s.Hand, api.Rank{Job: 5, Ver: 3, Rank: 15, Credit: api.MaxWall, Gen: 1, From: 1, To: 2}, api.Rank{Job: 6, Ver: 3})
}

func TestDrop(t *testing.T) {
	s := joined(t, 20)
	s.tell(api.Note{Kind: api.Drop, Job: 5}, api.Note{Kind: api.Dropped, Job: 5})
	s.tell(api.Note{Kind: api.Drop}, api.Note{Kind: api.Dropped})
	s.load(5, 6, 7)
	s.run(3, 6)
	s.tell(api.Note{Kind: api.Drop, Job: 7}, api.Note{Kind: api.Dropped, Job: 7})
	has(t, s.Hand, api.Rank{Job: 5}, api.Rank{Job: 6, Run: true, Gen: 3})
	s.tell(api.Note{Kind: api.Drop, Job: 6}, api.Note{Kind: api.Dropped, Job: 6}) // though it runs
	has(t, s.Hand, api.Rank{Job: 5})
	s.tell(api.Note{Kind: api.Drop, Job: 6}, api.Note{Kind: api.Dropped, Job: 6})
	s.run(2, 5) // the generation was told all the same
	has(t, s.Hand, api.Rank{Job: 5})
	s.run(3, 5)
	has(t, s.Hand, api.Rank{Job: 5, Run: true, Gen: 3})
}

func TestWarn(t *testing.T) {
	s := joined(t, 20)
	s.tell(api.Note{Kind: api.Warn, Job: 5, Tick: 9})
	s.tell(api.Note{Kind: api.Warn})
	has(t, s.Hand)
	s.load(5, 6)
	s.tell(api.Note{Kind: api.Warn, Job: 6, Tick: 9})
	has(t, s.Hand, api.Rank{Job: 5}, api.Rank{Job: 6, Warned: true})
	s.run(1, 5)
	s.tell(api.Note{Kind: api.Warn, Job: 5})
	has(t, s.Hand, api.Rank{Job: 5, Run: true, Gen: 1, Warned: true}, api.Rank{Job: 6, Warned: true})
	s.pass(11) // the tick that it names does nothing
	s.halt(1, 5, 1, 11)
	s.run(2, 6)
	s.tell(api.Note{Kind: api.Save, Job: 5, Ver: 1}, api.Note{Kind: api.Saved, Job: 5, Ver: 1, Blob: []byte{5, 0, 0}})
	has(t, s.Hand, api.Rank{Job: 5, Ver: 1, Gen: 1, From: 1, To: 11, Warned: true}, api.Rank{Job: 6, Run: true, Gen: 2, Warned: true})
	s.tell(api.Note{Kind: api.Drop, Job: 5}, api.Note{Kind: api.Dropped, Job: 5})
	s.load(5)
	has(t, s.Hand, api.Rank{Job: 5}, api.Rank{Job: 6, Run: true, Gen: 2, Warned: true})
}

func TestBlob(t *testing.T) {
	for _, x := range []struct {
		job    uint32
		rank   byte
		credit int
		want   []byte
	}{
		{0, 0, 0, []byte{0, 0, 0}},
		{5, 1, 6, []byte{5, 1, 6}},
		{300, 15, 10000, []byte{0xac, 0x02, 15, 0x90, 0x4e}},
		{math.MaxUint32, 255, math.MaxInt32, []byte{0xff, 0xff, 0xff, 0xff, 0x0f, 0xff, 0x01, 0xff, 0xff, 0xff, 0xff, 0x07}},
		{5, 1, -1, nil},
		{5, 1, math.MinInt, nil},
	} {
		if got := hand.Blob(x.job, x.rank, x.credit); !bytes.Equal(got, x.want) {
			t.Errorf("Blob(%d, %d, %d): %x, want %x", x.job, x.rank, x.credit, got, x.want)
		}
	}
}

// TestRanks are told by rising jobs, however they came.
func TestRanks(t *testing.T) {
	s := joined(t, 20)
	var want []api.Rank
	for i := range uint32(100) {
		s.load((i*37)%100 + 1)
		want = append(want, api.Rank{Job: i + 1})
	}
	has(t, s.Hand, want...)
}
