package jobs

import (
	"cmp"
	"slices"

	"quadrille/api"
)

// past is how a table can have come about: the jobs that aren't known any more ended first; then those did that are known to be over, in their order.
type past struct {
	*Table
	lost    int64 // how many jobs aren't known any more
	submits int64 // how many jobs must have been submitted for these to have ended: their greatest number
	dropped int64 // how many of these were Cancelled
	askers  []asker
}

// asker is a client: how often it asked, and how many jobs must have been submitted, and how many of those that are known to be over must have ended, for its last request to have come.
type asker struct {
	asked   int64
	submits int64
	ends    int
}

// isPossible tells whether any Submits, Cancels and Finishes lead to the table.
func (t *Table) isPossible() bool {
	if !t.isApart() || !t.isAskedOnce() {
		return false
	}
	p := past{Table: t, lost: int64(t.last) - int64(len(t.active)+len(t.over)), submits: int64(t.last)}
	for p.submits > 0 && t.knows(uint32(p.submits)) {
		p.submits--
	}
	// All that clients asked were Submits and Cancels; of which job isn't known was one that is lost.
	p.dropped = -int64(t.last) - cancels(t.over)
	for i, r := range t.replies {
		p.dropped += int64(r.Seq)
		if hasAsked(r) {
			p.askers = append(p.askers, t.latest(i))
		}
	}
	return 0 <= p.dropped && p.dropped <= p.lost && p.isOrdered()
}

// isOrdered tells whether all can have come in some order.
func (p past) isOrdered() bool {
	if p.lost > 0 && p.submits-(p.lost-1) > api.MaxJobs {
		return false
	}
	// By how many have ended of those that are known to be over: whether so many can have, once so many jobs were submitted.
	can := make([]bool, len(p.over)+1)
	can[0] = true
	for submits := p.submits; submits <= int64(p.last); submits++ {
		for ends := range can {
			byEnd := ends > 0 && can[ends-1] && int64(p.over[ends-1].ID) <= submits
			can[ends] = (can[ends] || byEnd) && p.hasRoom(submits, ends)
		}
	}
	return can[len(p.over)]
}

// hasRoom tells whether no more than MaxJobs are active behind so many Submits and ends, and whether as much was asked by then as was by the clients whose last request has come.
func (p past) hasRoom(submits int64, ends int) bool {
	asked := submits + p.dropped + cancels(p.over[:ends])
	for _, a := range p.askers {
		if a.submits <= submits && a.ends <= ends {
			asked -= a.asked
		}
	}
	return asked >= 0 && submits-p.lost-int64(ends) <= api.MaxJobs
}

// latest answers the i-th client, its last request being as late as it can be: a Cancel, where that may be.
func (t *Table) latest(i int) asker {
	r := t.replies[i]
	a := asker{asked: int64(r.Seq)}
	switch {
	case !t.mayBeCancelled(r.Job) || t.isOutdone(i):
		a.submits = int64(r.Job)
	case t.knows(r.Job):
		a.ends = place(t.over, r.Job) + 1
	default: // it ended ahead of all that are known
		a.ends = 1
	}
	return a
}

// isOutdone tells whether another client than the i-th with the same job asked more often. That one's was the Cancel then: the other way round is possible only if this is.
func (t *Table) isOutdone(i int) bool {
	r := t.replies[i]
	for j, x := range t.replies {
		if x.Job == r.Job && (x.Seq > r.Seq || x.Seq == r.Seq && j > i) {
			return true
		}
	}
	return false
}

// isAskedOnce tells whether no more clients have a job last than it had requests: a Submit, and a Cancel at most.
func (t *Table) isAskedOnce() bool {
	count := map[uint32]int{}
	for _, r := range t.replies {
		if !hasAsked(r) {
			continue
		}
		count[r.Job]++
		if count[r.Job] > 2 || count[r.Job] == 2 && !t.mayBeCancelled(r.Job) {
			return false
		}
	}
	return true
}

// isApart tells whether each job is there once, and the active ones by rising numbers.
func (t *Table) isApart() bool {
	all := slices.Concat(t.active, t.over)
	slices.SortFunc(all, byNumber)
	once := slices.CompactFunc(all, func(a, b api.Job) bool { return a.ID == b.ID })
	return len(once) == len(t.active)+len(t.over) && slices.IsSortedFunc(t.active, byNumber)
}

// byNumber compares jobs by their numbers.
func byNumber(a, b api.Job) int {
	return cmp.Compare(a.ID, b.ID)
}

// knows tells whether a job is known.
func (t *Table) knows(job uint32) bool {
	_, ok := t.Job(job)
	return ok
}

// mayBeCancelled tells whether a job was Cancelled, as far as it is known.
func (t *Table) mayBeCancelled(job uint32) bool {
	j, ok := t.Job(job)
	return !ok || j.State == api.Cancelled
}

// cancels answers how many of the jobs are Cancelled.
func cancels(l []api.Job) int64 {
	var n int64
	for _, j := range l {
		if j.State == api.Cancelled {
			n++
		}
	}
	return n
}
