package plan

import (
	"slices"

	"quadrille/cap"
)

// copied answers the profile in memory of its own.
func copied(p Profile) Profile {
	own := make(Profile, len(p))
	for row, cells := range p {
		own[row] = make([]int, len(cells))
		copy(own[row], cells)
	}
	return own
}

// taken answers a profile of its own, all times of which are within their bounds.
func taken(p Profile) Profile {
	own := copied(p)
	for _, cells := range own {
		for node, time := range cells {
			cells[node] = cap.Keep(time, 0, cap.Top)
		}
	}
	return own
}

// first answers when and where an ask of k nodes starts.
func (p Profile) first(k int) Start {
	var s Start
	for row, cells := range p {
		if time, ok := soonest(cells, k); ok && (!s.OK || time < s.At) {
			s = Start{At: time, Row: row, OK: true}
		}
	}
	if s.OK {
		s.Nodes = pick(p[s.Row], k, s.At)
	}
	return s
}

// reserve has the cells of a start be free behind it alone; those that there aren't are left out.
func (p Profile) reserve(s Start, length int) {
	if !s.OK || s.Row < 0 || s.Row >= len(p) {
		return
	}
	cells, end := p[s.Row], cap.Add(s.At, max(length, 1))
	for _, node := range s.Nodes {
		if node >= 0 && node < len(cells) {
			cells[node] = end
		}
	}
}

// soonest answers the least time at which k of the cells are free; false: there aren't so many, or k is below 1.
func soonest(cells []int, k int) (int, bool) {
	if k < 1 || k > len(cells) {
		return 0, false
	}
	times := slices.Sorted(slices.Values(cells))
	return times[k-1], true
}

// pick answers the k cells that are free the soonest, rising; the last of them is free at the time.
func pick(cells []int, k, time int) []int {
	// Of the cells that are free just at the time only as many are picked as the sooner ones leave.
	left := k
	for _, t := range cells {
		if t < time {
			left--
		}
	}
	var nodes []int
	for node, t := range cells {
		switch {
		case t < time:
			nodes = append(nodes, node)
		case t == time && left > 0:
			left--
			nodes = append(nodes, node)
		}
	}
	return nodes
}
