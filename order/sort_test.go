package order_test

import (
	"math"
	"slices"
	"testing"

	"tranter/api"
	"tranter/op"
	"tranter/order"
)

// plainSort takes the least one of what is left, again and again, of the first ones of their dots.
func plainSort(l []api.Op) []api.Op {
	var left, sorted []api.Op
	for _, o := range l {
		if !slices.Contains(dotsOf(left), o.Dot) {
			left = append(left, o)
		}
	}
	for len(left) > 0 {
		least := 0
		for i := range left {
			if plainCompare(left[i], left[least]) < 0 {
				least = i
			}
		}
		sorted = append(sorted, left[least])
		left = slices.Delete(left, least, least+1)
	}
	return sorted
}

// anyList returns operations, with any names of few, so that some occur twice.
func anyList(roll func(below int) int) []api.Op {
	l := make([]api.Op, roll(25))
	for i := range l {
		l[i] = api.Op{Dot: api.Dot{R: uint8(roll(10)), N: uint32(roll(4))}, Time: uint64(roll(5)), Who: uint32(roll(1000)), Kind: uint8(roll(12))}
		for range roll(4) {
			l[i].Lines = append(l[i].Lines, api.Claim{Line: api.Dot{N: uint32(roll(9))}})
		}
	}
	return l
}

func TestSort(t *testing.T) { // P10.2: in the order; the first one of each dot
	roll := dice(1)
	twice := 0
	for range 3000 {
		l := anyList(roll)
		want := plainSort(l)
		got := order.Sort(l)
		if !sameAll(got, want) {
			t.Fatalf("Sort(%v) is %v, want %v", l, got, want)
		}
		if len(want) < len(l) {
			twice++
		}
	}
	if twice < 1000 {
		t.Errorf("%d samples with a dot twice", twice)
	}
	if len(order.Sort(nil)) != 0 || len(order.Sort([]api.Op{})) != 0 {
		t.Error("no operations")
	}
}

func TestSortSameDot(t *testing.T) { // P10.2: the first one in the list, whatever the order says
	for _, times := range [][]uint64{{5, 1, 9}, {1, 5, 9}, {9, 5, 1}, {5, 5, 5}} {
		var l []api.Op
		for i, time := range times {
			o := genesis(1, 1, time)
			o.Who = uint32(i + 1)
			l = append(l, o, genesis(0, uint32(i+1), 5))
		}
		got := order.Sort(l)
		i := slices.Index(dotsOf(got), api.Dot{R: 1, N: 1})
		if len(got) != 4 || i < 0 || got[i].Time != times[0] || got[i].Who != 1 {
			t.Errorf("%v: %v", times, got)
		}
		if !slices.IsSortedFunc(got, plainCompare) {
			t.Errorf("%v: not sorted: %v", times, got)
		}
	}
}

func TestSortEdges(t *testing.T) { // P10.2, R1: any names, any Times
	roll := dice(2)
	l := edgeOps()
	for range 20 {
		l = shuffled(l, roll)
		if got := order.Sort(l); !sameAll(got, plainSort(l)) {
			t.Fatal("not sorted")
		}
	}
	a, b := genesis(0, math.MaxUint32, math.MaxUint64), genesis(255, 0, 0)
	if got := order.Sort([]api.Op{a, b}); !sameAll(got, []api.Op{b, a}) {
		t.Error(got)
	}
}

func TestCut(t *testing.T) { // P10.2: those that are covered, in the order of the list, also twice
	roll := dice(4)
	if len(order.Cut(nil, api.Vector{1})) != 0 {
		t.Error("no operations")
	}
	var kept, left int
	for range 3000 {
		l := anyList(roll)
		var v api.Vector
		for r := range v {
			v[r] = uint32(roll(4))
		}
		var want []api.Op
		for _, o := range l {
			if o.Dot.R < 8 && o.Dot.N > 0 && o.Dot.N <= v[o.Dot.R] {
				want = append(want, o)
			} else {
				left++
			}
		}
		if got := order.Cut(l, v); !sameAll(got, want) {
			t.Fatalf("Cut(%v, %v) is %v, want %v", l, v, got, want)
		}
		kept += len(want)
	}
	if kept < 5000 || left < 5000 {
		t.Errorf("of the samples: %d kept, %d left out", kept, left)
	}
}

func TestCutEdges(t *testing.T) { // P10.2: no dot that is not valid is covered, by no vector
	var full api.Vector
	for r := range full {
		full[r] = math.MaxUint32
	}
	for _, o := range edgeOps() {
		want := 0
		if o.Dot.R < 8 && o.Dot.N > 0 {
			want = 1
		}
		if got := order.Cut([]api.Op{o}, full); len(got) != want {
			t.Errorf("%v by the greatest vector: %v", o.Dot, got)
		}
		if got := order.Cut([]api.Op{o}, api.Vector{}); len(got) != 0 {
			t.Errorf("%v by none: %v", o.Dot, got)
		}
	}
}

func TestFind(t *testing.T) { // P10.2: the first one with the dot; or none
	roll := dice(5)
	var found, none int
	for range 500 {
		l := anyList(roll)
		for r := range uint8(11) {
			for n := range uint32(5) {
				d := api.Dot{R: r, N: n}
				o, is := order.Find(l, d)
				i := slices.Index(dotsOf(l), d)
				if is != (i >= 0) || i >= 0 && !op.Same(o, l[i]) || i < 0 && !op.Same(o, api.Op{}) {
					t.Fatalf("Find(%v, %v) is %v, %v", l, d, o, is)
				}
				if is {
					found++
				} else {
					none++
				}
			}
		}
	}
	if found < 3000 || none < 3000 {
		t.Errorf("of the samples: %d found, %d not", found, none)
	}
	if o, is := order.Find(nil, api.Dot{}); is || !op.Same(o, api.Op{}) {
		t.Error("of no operations")
	}
	if _, is := order.Find([]api.Op{{Who: 3}}, api.Dot{}); !is {
		t.Error("the zero dot is one as others are")
	}
}

// deep returns the list with lines of its own.
func deep(l []api.Op) []api.Op {
	l = slices.Clone(l)
	for i := range l {
		l[i].Lines = slices.Clone(l[i].Lines)
	}
	return l
}

// spoil changes all of an answer, and what is behind it in its memory.
func spoil(l []api.Op) {
	l = l[:cap(l)]
	for i := range l {
		lines := l[i].Lines[:cap(l[i].Lines)]
		for j := range lines {
			lines[j].Line.N += 1000
		}
		l[i].Who += 1000
	}
}

func TestMemory(t *testing.T) { // R4, R5: arguments stay, also behind their ends; answers are new, in all their parts
	claims := make([]api.Claim, 40)
	var memory []api.Op
	for i := range 20 {
		o := genesis(uint8(i%3), uint32(i/4+1), uint64(20-i))
		o.Lines = claims[i : i+i%4] // they overlap, and there is more behind
		memory = append(memory, o)
	}
	was := deep(memory)
	wasClaims := slices.Clone(claims)
	l := memory[:15]
	for _, call := range []func() []api.Op{
		func() []api.Op { return order.Sort(l) },
		func() []api.Op { return order.Cut(l, api.Vector{3, 4, 5}) },
		func() []api.Op {
			o, _ := order.Find(l, api.Dot{R: 1, N: 2})
			return []api.Op{o}
		},
	} {
		first := call()
		kept := deep(first)
		if len(first) == 0 {
			t.Fatal("no samples")
		}
		spoil(call())
		if !sameAll(first, kept) {
			t.Error("two answers share memory")
		}
		for i := range first {
			spoil(first[i : i+1 : i+1])
			for j := i + 1; j < len(first); j++ {
				if !op.Same(first[j], kept[j]) {
					t.Fatal("two operations of an answer share lines")
				}
			}
		}
		order.History(l, 3)
		order.Known(l)
		if !sameAll(memory, was) || !slices.Equal(claims, wasClaims) {
			t.Fatal("an argument was changed")
		}
		if again := call(); !sameAll(again, kept) {
			t.Error("the same call returns something else")
		}
	}
}
