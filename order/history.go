package order

import (
	"tranter/api"
	"tranter/op"
	"tranter/vector"
)

// History checks all forms ahead of all else, so that the error does not depend on the order of the list.
func History(l []api.Op, n int) api.Errno {
	if n < 1 || n > api.MaxReplicas {
		return api.ErrArg
	}
	for _, o := range l {
		if e := op.Check(o, n); e != api.OK {
			return e
		}
	}
	there := placesOf(l)
	if len(there) < len(l) {
		return api.ErrState
	}
	for _, o := range l {
		if !follows(o, l, there) {
			return api.ErrState
		}
	}
	return api.OK
}

// follows looks at the last operation alone of those that o's Dep covers, for each replica. That is enough if it holds for the whole list: a valid Dep covers the preceding number of the operation's own replica, so that step by step all preceding ones are there, without a gap, and have no more in their Deps, and lesser Times.
func follows(o api.Op, l []api.Op, there map[api.Dot]int) bool {
	for r, last := range o.Dep {
		if last == 0 {
			continue
		}
		i, is := there[api.Dot{R: uint8(r), N: last}]
		if !is || !vector.Above(o.Dep, l[i].Dep) || o.Time <= l[i].Time {
			return false
		}
	}
	return true
}
