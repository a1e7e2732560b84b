package vector

import (
	"slices"

	"tranter/api"
)

// combine starts from the first vector: it knows no number that all others leave as they are.
func combine[V ~[api.MaxReplicas]N, N any](two func(a, b N) N, l ...V) V {
	var all V
	for i, v := range l {
		if i == 0 {
			all = v
			continue
		}
		for r := range all {
			all[r] = two(all[r], v[r])
		}
	}
	return all
}

func Merge(l ...api.Vector) api.Vector {
	return combine(func(a, b uint32) uint32 { return max(a, b) }, l...)
}

func Meet(l ...api.Vector) api.Vector {
	return combine(func(a, b uint32) uint32 { return min(a, b) }, l...)
}

// Tops compares with the tops so far alone: each vector that it left out is below one of them. One seen before costs a lookup, and no comparison.
func Tops(l []api.Vector) []api.Vector {
	seen := map[api.Vector]struct{}{}
	var tops []api.Vector
	for _, v := range l {
		if _, is := seen[v]; is {
			continue
		}
		seen[v] = struct{}{}
		if slices.ContainsFunc(tops, func(top api.Vector) bool { return Above(top, v) }) {
			continue
		}
		tops = slices.DeleteFunc(tops, func(top api.Vector) bool { return Above(v, top) })
		tops = append(tops, v)
	}
	return tops
}
