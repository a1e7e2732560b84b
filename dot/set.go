package dot

import (
	"maps"
	"slices"

	"tranter/api"
)

type set map[api.Dot]struct{}

func setOf(lists ...[]api.Dot) set {
	s := set{}
	for _, l := range lists {
		for _, d := range l {
			s[d] = struct{}{}
		}
	}
	return s
}

func (s set) has(d api.Dot) bool {
	_, is := s[d]
	return is
}

// inOrder sorts, since a map has no order of its own that is the same each time.
func (s set) inOrder() []api.Dot {
	return slices.SortedFunc(maps.Keys(s), Compare)
}

func Sort(l []api.Dot) []api.Dot {
	return setOf(l).inOrder()
}

func Union(a, b []api.Dot) []api.Dot {
	return setOf(a, b).inOrder()
}

// Both deletes from what Sort made, which is nobody else's memory.
func Both(a, b []api.Dot) []api.Dot {
	inB := setOf(b)
	return slices.DeleteFunc(Sort(a), func(d api.Dot) bool { return !inB.has(d) })
}

func Minus(a, b []api.Dot) []api.Dot {
	return slices.DeleteFunc(Sort(a), setOf(b).has)
}
