package brain

import (
	"cmp"
	"slices"
)

// set is things in rising order, each once.
type set[T cmp.Ordered] struct {
	things []T
}

// setOf answers a set of these.
func setOf[T cmp.Ordered](things []T) set[T] {
	var s set[T]
	for _, x := range things {
		s.add(x)
	}
	return s
}

// add has x be in it.
func (s *set[T]) add(x T) {
	if place, has := slices.BinarySearch(s.things, x); !has {
		s.things = slices.Insert(s.things, place, x)
	}
}

// drop has x not be in it any more, and answers whether it was.
func (s *set[T]) drop(x T) bool {
	place, has := slices.BinarySearch(s.things, x)
	if has {
		s.things = slices.Delete(s.things, place, place+1)
	}
	return has
}

// has tells whether x is in it.
func (s *set[T]) has(x T) bool {
	_, has := slices.BinarySearch(s.things, x)
	return has
}

// empty tells whether nothing is in it.
func (s *set[T]) empty() bool { return len(s.things) == 0 }

// list answers all that is in it, in memory of its own.
func (s *set[T]) list() []T { return slices.Clone(s.things) }
