package buffer_test

import (
	"slices"
	"testing"

	"tranter/api"
	"tranter/buffer"
)

// isBefore says whether b's Dep covers a's dot.
func isBefore(a, b api.Op) bool {
	return b.Dep[a.Dot.R] >= a.Dot.N
}

// causesFirst says that nothing is there twice, nor earlier than what is before it.
func causesFirst(t *testing.T, l []api.Op) {
	t.Helper()
	for i, o := range l {
		for _, later := range l[i+1:] {
			if o.Dot == later.Dot {
				t.Fatalf("%v: %v twice", dotsOf(l), o.Dot)
			}
			if isBefore(later, o) {
				t.Fatalf("%v: %v is before %v", dotsOf(l), later.Dot, o.Dot)
			}
		}
	}
}

// putInParts puts the list, a few operations in each call, and returns all that was handed on.
func putInParts(t *testing.T, b *buffer.Buffer, l []api.Op, most int, roll func(below int) int) []api.Op {
	t.Helper()
	var handed []api.Op
	for len(l) > 0 {
		count := min(1+roll(most), len(l))
		handed = append(handed, put(t, b, l[:count]...)...)
		l = l[count:]
	}
	return handed
}

func TestCausesFirst(t *testing.T) { // P11.3: also of operations that are no history, and of dots that occur twice
	roll := dice(1)
	handed := 0
	for range 3000 {
		n := 1 + roll(4)
		b := made(t, n, api.Vector{})
		l := putInParts(t, b, anyOps(n, 5+roll(30), roll), 4, roll)
		causesFirst(t, l)
		var known api.Vector
		for _, o := range l {
			known[o.Dot.R]++
			if known[o.Dot.R] != o.Dot.N {
				t.Fatalf("%v: a gap ahead of %v", dotsOf(l), o.Dot)
			}
		}
		if b.Has() != known {
			t.Fatalf("Has is %v, and %v was handed on", b.Has(), dotsOf(l))
		}
		handed += len(l)
	}
	if handed < 10000 {
		t.Errorf("of the samples: %d handed on", handed)
	}
}

// firsts returns the first one of each dot.
func firsts(l []api.Op) []api.Op {
	var kept []api.Op
	for _, o := range l {
		if !slices.Contains(dotsOf(kept), o.Dot) {
			kept = append(kept, o)
		}
	}
	return kept
}

// permutations calls f with the list in each order.
func permutations(l []api.Op, f func(l []api.Op)) {
	if len(l) == 0 {
		f(nil)
		return
	}
	for i, o := range l {
		permutations(slices.Concat(l[:i], l[i+1:]), func(rest []api.Op) { f(append([]api.Op{o}, rest...)) })
	}
}

func TestAllOrders(t *testing.T) { // P11.3: what is handed on, all in all, is the same in each order of the list, however it is parted, whatever comes twice
	roll := dice(2)
	fewer, more := 0, 0
	for range 120 {
		n := 2 + roll(2)
		l := firsts(anyOps(n, 7, roll))
		l = l[:min(len(l), 5)]
		whole := made(t, n, api.Vector{})
		want := slices.SortedFunc(slices.Values(put(t, whole, l...)), plainCompare)
		permutations(l, func(l []api.Op) {
			for _, most := range []int{1, 3} {
				b := made(t, n, api.Vector{})
				twice := slices.Concat(l, shuffled(l, roll)[:roll(len(l)+1)])
				handed := putInParts(t, b, twice, most, roll)
				causesFirst(t, handed)
				if !sameAll(slices.SortedFunc(slices.Values(handed), plainCompare), want) {
					t.Fatalf("%v in another order: %v, want %v", l, dotsOf(handed), dotsOf(want))
				}
				stands(t, b, whole.Has(), whole.Waits()...)
			}
		})
		if len(want) < len(l) {
			fewer++
		}
		if len(want) > 1 {
			more++
		}
	}
	if fewer < 30 || more < 30 {
		t.Errorf("of the samples: %d with operations that wait, %d with several that do not", fewer, more)
	}
}

func TestHistories(t *testing.T) { // P11.4, P11.3: everything is handed on, and nothing waits
	roll := dice(3)
	for range 1500 {
		n := 1 + roll(8)
		l := makeHistory(n, roll(40), roll)
		var has api.Vector
		for _, o := range l {
			has[o.Dot.R]++
		}
		inOrder := slices.SortedFunc(slices.Values(l), plainCompare)
		for _, most := range []int{1, 6} {
			b := made(t, n, api.Vector{})
			handed := putInParts(t, b, shuffled(l, roll), most, roll)
			causesFirst(t, handed)
			if !sameAll(slices.SortedFunc(slices.Values(handed), plainCompare), inOrder) {
				t.Fatalf("%v: %v was handed on", dotsOf(l), dotsOf(handed))
			}
			stands(t, b, has)
		}
		b := made(t, n, api.Vector{})
		if handed := put(t, b, shuffled(l, roll)...); !sameAll(handed, inOrder) { // the order of a history has causes first
			t.Fatalf("%v at once: %v was handed on", dotsOf(l), dotsOf(handed))
		}
		stands(t, b, has)
	}
}

func TestBeginnings(t *testing.T) { // P11.1, P11.4: of a buffer that has handed on a beginning of a history, the rest is handed on
	roll := dice(4)
	for range 500 {
		n := 1 + roll(8)
		l := makeHistory(n, roll(40), roll)
		var v api.Vector
		split := roll(len(l) + 1)
		for _, o := range l[:split] {
			v[o.Dot.R]++
		}
		b := made(t, n, v)
		handed := putInParts(t, b, shuffled(l, roll), 5, roll)
		causesFirst(t, handed)
		rest := slices.SortedFunc(slices.Values(l[split:]), plainCompare)
		if !sameAll(slices.SortedFunc(slices.Values(handed), plainCompare), rest) || len(b.Waits()) != 0 {
			t.Fatalf("%v after %v: %v was handed on", dotsOf(l), v, dotsOf(handed))
		}
	}
}

func TestManyOperations(t *testing.T) { // R1, P11.4: a long history, in no order or from its end on, one by one or at once, is handed on soon
	roll := dice(5)
	made8 := makeHistory(8, 1<<16, roll)
	backward := slices.Clone(made8)
	slices.Reverse(backward)
	for _, l := range [][]api.Op{made8, backward, shuffled(made8, roll)} {
		b := made(t, 8, api.Vector{})
		if got := put(t, b, l...); len(got) != len(l) || len(b.Waits()) != 0 {
			t.Errorf("at once: %d were handed on", len(got))
		}
		b = made(t, 8, api.Vector{})
		count := 0
		for _, o := range l {
			count += len(put(t, b, o))
		}
		if count != len(l) || len(b.Waits()) != 0 {
			t.Errorf("one by one: %d were handed on", count)
		}
	}
}
