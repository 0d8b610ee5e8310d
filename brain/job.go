package brain

import (
	"slices"

	"quadrille/api"
	"quadrille/cap"
)

// How far the next image of a job has come.
const (
	unasked = iota
	asked   // its ranks were told to save
	whole   // all of them have said their blobs
	told    // it was told, and waits for being published, or not
)

// job is a job that is known.
type job struct {
	api.Job
	ver       uint32 // its images have had versions up to this one
	work      int
	cancelled bool
	over      bool // it is Done

	// These are of where it stands.
	nodes  []int       // rising: the place in the list is the rank
	ranks  set[int]    // the nodes that have a rank of it
	loads  set[int]    // those that haven't said Loaded
	ran    [][2]uint32 // the stretches in which ranks ran, of those that have stopped
	last   uint32      // the generation in which it ran last, or behind which it was placed
	warned bool
	until  uint32 // the tick up to which it has grace

	// These are of its next image.
	image byte
	saved int      // its credit
	saves set[int] // the nodes that haven't said Saved
	blobs [][]byte
}

// waits tells whether it is to be placed.
func (j *job) waits() bool { return j.State == api.Queued }

// goes tells whether it is to make room.
func (j *job) goes() bool { return j.warned || j.State == api.Leaving }

// returns tells whether it waits, or will wait once it has made room.
func (j *job) returns() bool {
	return j.waits() || j.goes() && !j.cancelled && !j.over
}

// ready tells whether it may be told to Go at rest.
func (j *job) ready() bool {
	return j.State == api.Placed && !j.warned && j.left() > 0
}

// forget has its work be what is published of it.
func (j *job) forget() {
	j.work = j.Credit
	j.ran = nil
	if j.image != told { // that one may be published yet
		j.image = unasked
	}
}

// count adds to its work the ticks in which all its ranks ran, which have stopped now.
func (j *job) count() {
	ticks := 0
	if len(j.ran) == j.K { // else one of them didn't run at all
		ticks = cap.Overlap(j.ran)
	}
	j.ran = nil
	if ticks > 0 {
		j.work = min(cap.Add(j.work, ticks), j.W)
		if j.image != told {
			j.image = unasked // what there is of one is of less work
		}
	}
}

// say takes in the blob of the rank at a node, if it is awaited.
func (j *job) say(node int, n api.Note) {
	rank := slices.Index(j.nodes, node)
	if j.image != asked || n.Ver != j.next() || int(n.Rank) != rank || !j.saves.drop(node) {
		return
	}
	j.blobs[rank] = slices.Clone(n.Blob)
	if j.saves.empty() {
		j.image = whole
	}
}

// left answers how many ticks it has to run yet.
func (j *job) left() int { return cap.Left(j.W, j.work) }

// next answers the version that comes next.
func (j *job) next() uint32 { return j.ver + 1 }
