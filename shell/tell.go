package shell

import (
	"strconv"
	"strings"
)

// down is told where the controller can't be looked at.
const down = "down"

// jobs tells of those that are active.
func (s *session) jobs() string {
	d := s.yard.Desk()
	if !d.Up() {
		return down
	}
	text := "now" + spaced(int(s.yard.Now()))
	for _, j := range d.Table().Active() {
		text += ";" + spaced(int(j.ID), int(j.Tier), j.K, j.W, int(j.State), j.Credit)
	}
	return text
}

// rows tells of the matrix, cell by cell.
func (s *session) rows() string {
	d := s.yard.Desk()
	if !d.Up() {
		return down
	}
	text := "gen" + spaced(int(d.Brain().Gen()))
	m := d.Brain().Matrix()
	rows, nodes := m.Size()
	for row := range rows {
		text += ";"
		for node := range nodes {
			text += spaced(int(m.At(row, node)))
		}
	}
	return text
}

// nodes tells of their daemons.
func (s *session) nodes() string {
	var l []string
	for node := 0; s.yard.Hand(node) != nil; node++ {
		l = append(l, s.node(node))
	}
	return strings.Join(l, "; ")
}

// node tells of one's daemon, and of the ranks that it has.
func (s *session) node(node int) string {
	h := s.yard.Hand(node)
	text := "life" + spaced(int(h.Life())) + " epoch" + spaced(int(h.Epoch()))
	for _, r := range h.Ranks() {
		text += spaced(int(r.Job))
		if r.Run {
			text += "+"
		}
	}
	return text
}

// spaced answers numbers, with a blank ahead of each.
func spaced(l ...int) string {
	text := ""
	for _, n := range l {
		text += " " + strconv.Itoa(n)
	}
	return text
}
