package note

import (
	"math"

	"quadrille/api"
)

const (
	mostBlob = api.MaxBytes / 2
	mostData = api.MaxBytes - 64
)

// The fields of a note behind its Kind, in their order, as bits.
const (
	node = 1 << iota
	epoch
	life
	tick
	gen
	job
	ver
	rank
	credit
	from
	to
	blob
)

// numbers answers the numbers of a note behind its Kind, in their order.
func numbers(n api.Note) []uint64 {
	return []uint64{
		uint64(n.Node), uint64(n.Epoch), uint64(n.Life), uint64(n.Tick), uint64(n.Gen), uint64(n.Job),
		uint64(n.Ver), uint64(n.Rank), uint64(n.Credit), uint64(n.From), uint64(n.To),
	}
}

// given answers which fields of a note aren't 0.
func given(n api.Note) int {
	has := 0
	for i, x := range numbers(n) {
		if x != 0 {
			has |= node << i
		}
	}
	if len(n.Blob) > 0 {
		has |= blob
	}
	return has
}

// named answers which fields a kind of note names, and whether there is such a kind.
func named(kind byte) (int, bool) {
	switch kind {
	case api.Beat:
		return epoch | tick, true
	case api.Hello:
		return node | epoch | life | tick, true
	case api.Load:
		return job | ver | rank | credit, true
	case api.Loaded, api.Drop, api.Dropped:
		return job, true
	case api.Go:
		return gen | job, true
	case api.Stop:
		return gen, true
	case api.Stopped:
		return gen | job | from | to, true
	case api.Save:
		return job | ver | credit, true
	case api.Saved:
		return job | ver | rank | blob, true
	case api.Warn:
		return job | tick, true
	}
	return 0, false
}

func rightNote(n api.Note) bool {
	may, ok := named(n.Kind)
	return ok && given(n)&^may == 0 && n.Node < api.MaxNodes && n.Rank < api.MaxNodes && rightCredit(n.Credit) && len(n.Blob) <= mostBlob
}

func rightRequest(q api.Request) bool {
	if q.Client >= api.MaxClients {
		return false
	}
	switch q.Kind {
	case api.Submit:
		return rightAsked(q.K) && rightAsked(q.W) && q.Job == 0
	case api.Cancel, api.Query:
		return q.Tier == 0 && q.K == 0 && q.W == 0
	}
	return false
}

func rightReply(r api.Reply) bool {
	return r.Client < api.MaxClients && r.E >= api.OK && r.E <= api.ErrText && r.State <= api.Cancelled && rightCredit(r.Credit)
}

func rightPacket(k api.Packet) bool {
	return k.Node < api.MaxNodes && len(k.Data) <= mostData && !(k.Plain && k.Seq != 0)
}

func rightCredit(n int) bool { return n >= 0 && n <= api.MaxWall }

// rightAsked answers whether a job may ask for so many nodes or ticks, as far as bytes can tell them.
func rightAsked(n int) bool { return n >= 0 && n <= math.MaxInt32 }
