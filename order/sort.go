package order

import (
	"iter"
	"slices"

	"tranter/api"
)

// ranking knows the operations whose indices are sorted, so that no operation is moved before its place is known.
type ranking struct {
	ops []api.Op
}

func (r ranking) compare(i, j int) int {
	return Compare(r.ops[i], r.ops[j])
}

func Sort(l []api.Op) []api.Op {
	places := slices.SortedFunc(firsts(l), ranking{l}.compare)
	sorted := make([]api.Op, len(places))
	for i, place := range places {
		sorted[i] = copyOf(l[place])
	}
	return sorted
}

// firsts produces the index of each dot's first operation. No two of these have the same place in the order, so that sorting them leaves nothing open.
func firsts(l []api.Op) iter.Seq[int] {
	return func(yield func(int) bool) {
		there := placesOf(l)
		for i, o := range l {
			if there[o.Dot] == i && !yield(i) {
				return
			}
		}
	}
}

// placesOf returns for each dot where it occurs first.
func placesOf(l []api.Op) map[api.Dot]int {
	there := make(map[api.Dot]int, len(l))
	for i, o := range l {
		if _, is := there[o.Dot]; !is {
			there[o.Dot] = i
		}
	}
	return there
}
