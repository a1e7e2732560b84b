package order_test

import (
	"math"
	"slices"
	"testing"

	"tranter/api"
	"tranter/op"
	"tranter/order"
)

// plainHistory is the chapter's definition, written out: each operation is compared with each one.
func plainHistory(l []api.Op, n int) api.Errno {
	if n < 1 || n > 8 {
		return api.ErrArg
	}
	for _, o := range l {
		if op.Check(o, n) != api.OK {
			return api.ErrForm
		}
	}
	times := map[api.Dot]int{}
	for _, o := range l {
		times[o.Dot]++
	}
	for _, o := range l {
		if times[o.Dot] != 1 {
			return api.ErrState
		}
		for number := o.Dot.N; number > 0; number-- {
			if times[api.Dot{R: o.Dot.R, N: number}] == 0 {
				return api.ErrState
			}
		}
		for r, last := range o.Dep {
			for number := last; number > 0; number-- {
				if times[api.Dot{R: uint8(r), N: number}] == 0 {
					return api.ErrState
				}
			}
		}
	}
	for _, a := range l {
		for _, b := range l {
			if !plainBefore(a, b) {
				continue
			}
			if a.Time >= b.Time {
				return api.ErrState
			}
			for r := range a.Dep {
				if a.Dep[r] > b.Dep[r] {
					return api.ErrState
				}
			}
		}
	}
	return api.OK
}

// makeHistory returns the operations of n replicas, of all kinds, in the order in which they were made. Each replica knows a beginning of each one's, with what is before it.
func makeHistory(n, count int, roll func(below int) int) []api.Op {
	var l []api.Op
	knows, clocks := make([]api.Vector, n), make([]uint64, n)
	for len(l) < count {
		r := roll(n)
		if from := roll(n); roll(3) > 0 {
			for i := range knows[r] {
				knows[r][i] = max(knows[r][i], knows[from][i])
			}
			clocks[r] = max(clocks[r], clocks[from])
			continue
		}
		clocks[r] += uint64(1 + roll(3)*roll(2))
		o := genesis(uint8(r), knows[r][r]+1, clocks[r], knows[r][:]...)
		if len(l) > 0 {
			makeKind(&o, l[roll(len(l))].Dot, roll)
		}
		knows[r][r]++
		l = append(l, o)
	}
	return l
}

// makeKind makes the operation one of another kind, about what d names, if it knows that.
func makeKind(o *api.Op, d api.Dot, roll func(below int) int) {
	if !op.Covers(*o, d) {
		return
	}
	switch roll(3) {
	case 0:
		o.Kind, o.Cart, o.Cred, o.At = api.KdRevoke, d, d, d
	case 1:
		o.Kind, o.Cart, o.Cred, o.Lines = api.KdSubmit, d, d, []api.Claim{{Line: d, Version: d}}
	}
}

// broken returns the history with a few changes, after which it may be none.
func broken(l []api.Op, roll func(below int) int) []api.Op {
	l = slices.Clone(l)
	for range roll(3) {
		if len(l) == 0 {
			return l
		}
		i, j := roll(len(l)), roll(len(l))
		switch roll(9) {
		case 0:
			l = slices.Delete(l, i, i+1)
		case 1:
			l = append(l, l[i])
		case 2:
			l[i].Time = l[j].Time
		case 3:
			l[i].Time = uint64(roll(int(l[i].Time) + 3))
		case 4:
			l[i].Dep[l[j].Dot.R] = l[j].Dot.N
		case 5:
			l[i].Dep = l[j].Dep
		case 6:
			l[i].Dep[roll(8)] += uint32(roll(3)) - 1
		case 7:
			l[i].Dot.N++
			l[i].Dep[l[i].Dot.R%8]++
		case 8:
			l[i].Dot, l[i].Cart = l[j].Dot, l[j].Cart
		}
	}
	return l
}

func TestHistoryAny(t *testing.T) { // P10.3, P10.5: by the definition, in whatever order the list is
	roll := dice(1)
	found := map[api.Errno]int{}
	for range 12000 {
		n := 1 + roll(5)
		l := broken(makeHistory(n, roll(14), roll), roll)
		if roll(20) == 0 {
			n = roll(12) - 1
		}
		want := plainHistory(l, n)
		for range 3 {
			l = shuffled(l, roll)
			if e := order.History(l, n); e != want {
				t.Fatalf("History of %v for %d is %d, want %d", l, n, e, want)
			}
		}
		found[want]++
	}
	if found[api.OK] < 3000 || found[api.ErrState] < 2000 || found[api.ErrForm] < 1000 || found[api.ErrArg] < 50 {
		t.Errorf("of the samples: %v", found)
	}
}

func TestHistorySmall(t *testing.T) { // P10.3: all lists of up to three operations, of few names, Deps and Times
	var all []api.Op
	for _, d := range []api.Dot{{R: 0, N: 1}, {R: 0, N: 2}, {R: 1, N: 1}, {R: 1, N: 2}} {
		for other := range uint32(3) {
			for time := range uint64(3) {
				o := genesis(d.R, d.N, time+1)
				o.Dep[d.R], o.Dep[1-d.R] = d.N-1, other
				all = append(all, o)
			}
		}
	}
	found := map[api.Errno]int{}
	try := func(l ...api.Op) {
		want := plainHistory(l, 2)
		if e := order.History(l, 2); e != want {
			t.Fatalf("History of %v is %d, want %d", l, e, want)
		}
		found[want]++
	}
	try()
	for _, a := range all {
		try(a)
		for _, b := range all {
			try(a, b)
			for _, c := range all {
				try(a, b, c)
			}
		}
	}
	if found[api.OK] < 300 || found[api.ErrState] < 10000 {
		t.Errorf("of the samples: %v", found)
	}
}

func TestHistoryErrors(t *testing.T) { // P10.3: ErrArg, then ErrForm, then ErrState
	a, b, c := genesis(0, 1, 1), genesis(1, 1, 1), genesis(0, 2, 2, 1, 1)
	d := genesis(2, 1, 9, 2, 1)
	wrong := a
	wrong.Who = 0
	for _, n := range []int{math.MinInt, -1, 0, 9, 256 + 2, math.MaxInt} {
		for _, l := range [][]api.Op{nil, {a, b, c}, {wrong}, {c}, {a, a}} {
			if e := order.History(l, n); e != api.ErrArg {
				t.Errorf("History of %v for %d is %d", dotsOf(l), n, e)
			}
		}
	}
	for n := 1; n <= 8; n++ {
		if e := order.History(nil, n); e != api.OK {
			t.Errorf("History of none for %d is %d", n, e)
		}
		if e := order.History([]api.Op{}, n); e != api.OK {
			t.Errorf("History of none for %d is %d", n, e)
		}
	}
	for i, x := range []struct {
		l    []api.Op
		want api.Errno
	}{
		{[]api.Op{a}, api.OK},
		{[]api.Op{a, b, c, d}, api.OK},
		{[]api.Op{{}}, api.ErrForm},                              // no valid form
		{[]api.Op{c, wrong}, api.ErrForm},                        // nor a history
		{[]api.Op{a, a, wrong}, api.ErrForm},                     // nor once
		{[]api.Op{a, genesis(3, 1, 9)}, api.ErrForm},             // a replica too many
		{[]api.Op{a, genesis(1, 1, 9, 1, 0, 0, 1)}, api.ErrForm}, // a Dep of a replica too many
		{[]api.Op{a, genesis(0, 2, 9)}, api.ErrForm},             // a Dep that does not cover the preceding one
		{[]api.Op{a, a}, api.ErrState},                           // twice
		{[]api.Op{a, b, b, c}, api.ErrState},
		{[]api.Op{genesis(0, 2, 9, 1)}, api.ErrState},    // the number 1 is not there
		{[]api.Op{a, genesis(0, 3, 9, 2)}, api.ErrState}, // a gap
		{[]api.Op{b, d}, api.ErrState},                   // what its Dep covers is not there
		{[]api.Op{a, genesis(1, 1, 9, 2)}, api.ErrState},
		{[]api.Op{a, b, c, genesis(2, 1, 9, 2)}, api.ErrState}, // a Dep that is not above that of one before it
		{[]api.Op{a, genesis(1, 1, 1, 1)}, api.ErrState},       // a Time that is not greater
		{[]api.Op{genesis(0, 1, 3), genesis(0, 2, 2, 1)}, api.ErrState},
		{[]api.Op{a, genesis(1, 1, 2, 1)}, api.OK},
		{[]api.Op{genesis(0, 1, 5), genesis(1, 1, 1), genesis(2, 1, 5)}, api.OK}, // beside each other: any Times
	} {
		if e := order.History(x.l, 3); e != x.want {
			t.Errorf("%d: History of %v is %d, want %d", i, dotsOf(x.l), e, x.want)
		}
		slices.Reverse(x.l)
		if e := order.History(x.l, 3); e != x.want {
			t.Errorf("%d: History of %v is %d, want %d", i, dotsOf(x.l), e, x.want)
		}
	}
}

func TestHistoryGreatNumbers(t *testing.T) { // P10.3, R1: it ends soon, and knows that they are not there
	o := genesis(0, math.MaxUint32, api.MaxTime, math.MaxUint32-1, math.MaxUint32)
	if e := order.History([]api.Op{o}, 2); e != api.ErrState {
		t.Error(e)
	}
	o = genesis(7, 1, api.MaxTime, math.MaxUint32)
	if e := order.History([]api.Op{o}, 8); e != api.ErrState {
		t.Error(e)
	}
	if e := order.History([]api.Op{genesis(7, 1, api.MaxTime)}, 8); e != api.OK {
		t.Error(e)
	}
}

func TestBeforeInHistories(t *testing.T) { // P10.4: it precedes in the order; transitive; not before itself
	roll := dice(2)
	var pairs, triples int
	for range 300 {
		l := makeHistory(1+roll(8), 15, roll)
		for _, a := range l {
			if order.Before(a, a) {
				t.Fatalf("%v is before itself", a)
			}
			for _, b := range l {
				if !order.Before(a, b) {
					continue
				}
				pairs++
				if order.Compare(a, b) != -1 || order.Before(b, a) || order.Beside(a, b) {
					t.Fatalf("%v is before %v, and not only that", a, b)
				}
				for _, c := range l {
					if order.Before(b, c) {
						triples++
						if !order.Before(a, c) {
							t.Fatalf("%v is before %v, which is before %v, but not before that", a, b, c)
						}
					}
				}
			}
		}
	}
	if pairs < 5000 || triples < 5000 {
		t.Errorf("of the samples: %d pairs, %d triples", pairs, triples)
	}
}

// closed says whether the list has with each operation what is before it in the history.
func closed(l, history []api.Op) bool {
	for _, o := range l {
		for _, b := range history {
			if order.Before(b, o) && !slices.Contains(dotsOf(l), b.Dot) {
				return false
			}
		}
	}
	return true
}

func TestPartsOfHistories(t *testing.T) { // P10.4, P10.5: what Cut keeps, beginnings of the sorted list, and two histories together
	roll := dice(3)
	var fine, not int
	for range 1500 {
		n := 1 + roll(4)
		made := makeHistory(n, 1+roll(14), roll)
		l := shuffled(made, roll)
		sorted := order.Sort(l)
		if !sameAll(sorted, order.Sort(made)) || order.Known(l) != order.Known(made) {
			t.Fatalf("%v: it depends on the order of the list", l)
		}
		for i := range len(sorted) + 1 {
			if e := order.History(sorted[:i], n); e != api.OK {
				t.Fatalf("a beginning of %v: %d", sorted, e)
			}
		}
		var histories [][]api.Op
		for range 6 {
			var v api.Vector
			for r := range n {
				v[r] = uint32(roll(6))
			}
			cut := order.Cut(l, v)
			if !sameAll(order.Sort(cut), order.Cut(sorted, v)) {
				t.Fatalf("%v cut by %v: it depends on the order of the list", l, v)
			}
			want := api.ErrState
			if closed(cut, l) {
				want = api.OK
				fine++
				histories = append(histories, cut)
			} else {
				not++
			}
			if e := order.History(cut, n); e != want {
				t.Fatalf("%v cut by %v: %d", l, v, e)
			}
		}
		for _, a := range histories {
			for _, b := range histories {
				both := order.Sort(slices.Concat(a, b))
				if e := order.History(both, n); e != api.OK {
					t.Fatalf("%v and %v together: %d", dotsOf(a), dotsOf(b), e)
				}
			}
		}
	}
	if fine < 2000 || not < 2000 {
		t.Errorf("of the samples: %d histories, %d not", fine, not)
	}
}

func TestManyOperations(t *testing.T) { // R1, P10.4: a long history, in no order, is sorted and checked soon
	roll := dice(4)
	made := makeHistory(8, 1<<16, roll)
	l := shuffled(made, roll)
	if e := order.History(l, 8); e != api.OK {
		t.Error(e)
	}
	sorted := order.Sort(slices.Concat(l, l))
	if len(sorted) != len(made) || !slices.IsSortedFunc(sorted, plainCompare) {
		t.Error("not sorted")
	}
	l[roll(len(l))].Time = 1 << 47
	if e := order.History(l, 8); e != api.ErrState {
		t.Error(e)
	}
}
