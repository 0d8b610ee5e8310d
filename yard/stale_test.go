package yard

import (
	"testing"

	"quadrille/api"
	"quadrille/brain"
	"quadrille/desk"
)

// TestLastTick: behind the last tick there is none, and nothing happens. No test can wait for that one.
func TestLastTick(t *testing.T) {
	y, e := New(Config{Desk: desk.Config{Brain: brain.Config{Nodes: 2, Rows: 1, Quantum: 1, Grace: 1}, Size: 5, Images: 5}, Air: 50})
	if e != api.OK {
		t.Fatal("error", e)
	}
	y.now = api.MaxTick - 5
	if e := y.Do(Step{Kind: Crash}); e != api.OK { // a desk at that tick
		t.Fatal("Crash: error", e)
	}
	for _, x := range []struct {
		s    Step
		want api.Errno
		now  uint32
	}{
		{Step{Kind: Calm, N: 6}, api.ErrStale, api.MaxTick - 5},
		{Step{Kind: Calm, N: 401}, api.ErrArg, api.MaxTick - 5},
		{Step{Kind: Calm, N: 3}, api.OK, api.MaxTick - 2},
		{Step{Kind: Tick}, api.OK, api.MaxTick - 1},
		{Step{Kind: Calm, N: 1}, api.OK, api.MaxTick},
		{Step{Kind: Calm, N: 1}, api.ErrStale, api.MaxTick},
		{Step{Kind: Calm}, api.OK, api.MaxTick},
		{Step{Kind: Tick}, api.ErrStale, api.MaxTick},
		{Step{Kind: Restart}, api.OK, api.MaxTick},
		{Step{Kind: Crash}, api.OK, api.MaxTick},
	} {
		if e := y.Do(x.s); e != x.want || y.Now() != x.now {
			t.Errorf("%+v: error %d, want %d; tick %d, want %d", x.s, e, x.want, y.Now(), x.now)
		}
	}
	if h := y.Hand(1); h.Now() != api.MaxTick || h.Epoch() != 2 || y.Air().Len() != 0 {
		t.Errorf("tick %d, epoch %d, %d fly", h.Now(), h.Epoch(), y.Air().Len())
	}
}
