package order_test

import (
	"math"
	"slices"
	"testing"

	"tranter/api"
	"tranter/op"
	"tranter/order"
)

// genesis returns an operation of the name and the time, whose Dep begins with the numbers.
func genesis(r uint8, n uint32, time uint64, dep ...uint32) api.Op {
	d := api.Dot{R: r, N: n}
	o := api.Op{Dot: d, Time: time, Who: 1, Cart: d}
	copy(o.Dep[:], dep)
	return o
}

// plainCompare is the chapter's definition, written out.
func plainCompare(a, b api.Op) int {
	x := []uint64{a.Time, uint64(a.Dot.R), uint64(a.Dot.N)}
	y := []uint64{b.Time, uint64(b.Dot.R), uint64(b.Dot.N)}
	for i := range x {
		if x[i] < y[i] {
			return -1
		}
		if x[i] > y[i] {
			return 1
		}
	}
	return 0
}

// plainBefore is the chapter's definition, written out: b's Dep covers a's dot, which it can only if that is valid.
func plainBefore(a, b api.Op) bool {
	d := a.Dot
	return d.R < 8 && d.N > 0 && b.Dep[d.R] >= d.N
}

// plainBeside is the chapter's definition, written out.
func plainBeside(a, b api.Op) bool {
	return a.Dot != b.Dot && !plainBefore(a, b) && !plainBefore(b, a)
}

// dotsOf returns the names of the operations.
func dotsOf(l []api.Op) []api.Dot {
	var dots []api.Dot
	for _, o := range l {
		dots = append(dots, o.Dot)
	}
	return dots
}

// sameAll says whether two lists have the same operations, in the same order.
func sameAll(a, b []api.Op) bool {
	return slices.EqualFunc(a, b, op.Same)
}

// dice returns numbers below what it is passed, always the same ones for one seed.
func dice(seed uint64) func(below int) int {
	return func(below int) int {
		seed = seed*6364136223846793005 + 1442695040888963407
		return int(seed>>33) % below
	}
}

// shuffled returns the operations in another order.
func shuffled(l []api.Op, roll func(below int) int) []api.Op {
	l = slices.Clone(l)
	for i := len(l) - 1; i > 0; i-- {
		j := roll(i + 1)
		l[i], l[j] = l[j], l[i]
	}
	return l
}

// edgeOps returns operations that differ in their names, Times and Deps, at the limits of each; most of them have no valid form.
func edgeOps() []api.Op {
	var l []api.Op
	for _, r := range []uint8{0, 1, 6, 7, 8, 9, 16, 255} {
		for _, n := range []uint32{0, 1, 2, 1 << 31, math.MaxUint32} {
			for i, time := range []uint64{0, 1, 2, 1 << 48, math.MaxUint64} {
				o := api.Op{Dot: api.Dot{R: r, N: n}, Time: time}
				for place := range o.Dep {
					o.Dep[place] = []uint32{0, 1, 2, 1 << 31, math.MaxUint32}[(i+place)%5]
				}
				l = append(l, o)
			}
		}
	}
	return l
}

func TestExamples(t *testing.T) { // P10.1, P10.2, P10.3
	a, b, c := genesis(0, 1, 1), genesis(1, 1, 1), genesis(0, 2, 2, 1, 1)
	if order.Compare(a, b) != -1 || !order.Before(a, c) || !order.Beside(a, b) || order.Beside(a, a) {
		t.Error("compare, before, beside")
	}
	if got := order.Sort([]api.Op{c, b, a}); !sameAll(got, []api.Op{a, b, c}) {
		t.Error(got)
	}
	if got := order.Known([]api.Op{a, c}); got != (api.Vector{2}) {
		t.Error(got)
	}
	for _, x := range []struct {
		l    []api.Op
		n    int
		want api.Errno
	}{
		{[]api.Op{a, b, c}, 2, api.OK}, {[]api.Op{c, b}, 2, api.ErrState}, {[]api.Op{a, c}, 2, api.ErrState},
		{[]api.Op{a, b, c}, 1, api.ErrForm}, {[]api.Op{c, b}, 1, api.ErrForm},
	} {
		if e := order.History(x.l, x.n); e != x.want {
			t.Errorf("History of %v for %d is %d, want %d", dotsOf(x.l), x.n, e, x.want)
		}
	}
}

func TestCompare(t *testing.T) { // P10.1: by Time, then R, then N, of any numbers
	found := map[int]int{}
	for _, a := range edgeOps() {
		for _, b := range edgeOps() {
			want := plainCompare(a, b)
			if got := order.Compare(a, b); got != want || order.Compare(b, a) != -want {
				t.Fatalf("Compare of %v at %d and %v at %d is %d", a.Dot, a.Time, b.Dot, b.Time, got)
			}
			found[want]++
		}
	}
	if found[0] != len(edgeOps()) || found[-1] != found[1] {
		t.Errorf("of the samples: %v", found)
	}
}

func TestCompareNothingElse(t *testing.T) { // P10.1: the place is by Time and dot alone
	a := genesis(1, 5, 9, 3, 4)
	b := api.Op{Dot: a.Dot, Time: 9, Who: 77, Kind: api.KdSubmit, Dep: api.Vector{9, 9, 9}, Cap: 5, Lines: []api.Claim{{Line: a.Dot}}}
	if order.Compare(a, b) != 0 || order.Compare(b, a) != 0 {
		t.Error("the same dot and Time are not the same place")
	}
	b.Time = 8
	if order.Compare(a, b) != 1 || order.Compare(b, a) != -1 {
		t.Error("the lesser Time does not come first")
	}
}

func TestBeforeAndBeside(t *testing.T) { // P10.1: of any dots, also of some that are not valid
	var befores, besides int
	for _, a := range edgeOps() {
		for _, b := range edgeOps() {
			before, beside := plainBefore(a, b), plainBeside(a, b)
			if got := order.Before(a, b); got != before {
				t.Fatalf("Before(%v, with %v) is %v", a.Dot, b.Dep, got)
			}
			if got := order.Beside(a, b); got != beside || order.Beside(b, a) != beside {
				t.Fatalf("Beside(%v with %v, %v with %v) is %v", a.Dot, a.Dep, b.Dot, b.Dep, got)
			}
			if before {
				befores++
			}
			if beside {
				besides++
			}
		}
	}
	if befores < 5000 || besides < 1000 {
		t.Errorf("of the samples: %d before, %d beside", befores, besides)
	}
}

func TestBeforeByDepAlone(t *testing.T) { // P10.1: whatever the Times are; at and beside the number
	b := genesis(2, 1, 1, 0, 5, 0)
	for n := uint32(0); n < 9; n++ {
		a := genesis(1, n, 100)
		if got, want := order.Before(a, b), n >= 1 && n <= 5; got != want {
			t.Errorf("Before(1 %d) is %v", n, got)
		}
		if got, want := order.Beside(a, b), n < 1 || n > 5; got != want {
			t.Errorf("Beside(1 %d) is %v", n, got)
		}
		if order.Before(b, a) {
			t.Errorf("2 1 is before 1 %d", n)
		}
	}
	if order.Beside(b, b) || order.Beside(b, genesis(2, 1, 50, 7, 7)) {
		t.Error("one dot is beside itself")
	}
	c := genesis(1, 2, 1, 0, 1, 1)
	if order.Beside(b, c) || !order.Before(b, c) || !order.Before(c, b) { // not of one history
		t.Error("two that are before each other")
	}
}

func TestKnown(t *testing.T) { // P10.3: the greatest number for each replica below 8, of any list
	if order.Known(nil) != (api.Vector{}) || order.Known([]api.Op{}) != (api.Vector{}) || order.Known([]api.Op{{}}) != (api.Vector{}) {
		t.Error("no operations")
	}
	for r := range 256 {
		for _, n := range []uint32{0, 1, 300, math.MaxUint32} {
			var want api.Vector
			if r < 8 {
				want[r] = n
			}
			if got := order.Known([]api.Op{{Dot: api.Dot{R: uint8(r), N: n}, Dep: api.Vector{9, 9, 9, 9, 9, 9, 9, 9}}}); got != want {
				t.Errorf("Known(%d %d) is %v", r, n, got)
			}
		}
	}
	l := []api.Op{genesis(3, 2, 1), genesis(0, 7, 1), genesis(3, 9, 1), genesis(3, 4, 1), genesis(7, 1, 1), genesis(8, 5, 1), genesis(11, 6, 1), genesis(0, 7, 3)}
	want := api.Vector{7, 0, 0, 9, 0, 0, 0, 1}
	roll := dice(3)
	for range 100 {
		if got := order.Known(shuffled(l, roll)); got != want {
			t.Fatal(got)
		}
	}
}
