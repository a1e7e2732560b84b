package vector_test

import (
	"math"
	"math/big"
	"slices"
	"testing"

	"tranter/api"
	"tranter/vector"
)

// plainCovers is the chapter's definition, written out: of a valid dot alone.
func plainCovers(v api.Vector, d api.Dot) bool {
	if d.R > 7 || d.N < 1 {
		return false
	}
	return v[d.R] >= d.N
}

// plainAbove is the chapter's definition, written out.
func plainAbove(a, b api.Vector) bool {
	less := 0
	for r := range 8 {
		if a[r] < b[r] {
			less++
		}
	}
	return less == 0
}

// plainDots returns the dots up to the number top of each replica for which it is to be true.
func plainDots(top uint32, is func(d api.Dot) bool) []api.Dot {
	var l []api.Dot
	for r := range uint8(8) {
		for n := uint32(1); n <= top; n++ {
			if d := (api.Dot{R: r, N: n}); is(d) {
				l = append(l, d)
			}
		}
	}
	return l
}

// plainCount counts without a bound.
func plainCount(v api.Vector) *big.Int {
	count := new(big.Int)
	for _, n := range v {
		count.Add(count, big.NewInt(int64(n)))
	}
	return count
}

// edgeNumbers returns the numbers that the chapter's edges are made of.
func edgeNumbers() []uint32 {
	return []uint32{0, 1, 2, 3, 300, 65535, 65536, 65537, 1<<31 - 1, 1 << 31, math.MaxUint32 - 1, math.MaxUint32}
}

// vectors returns the zero one, ones with one number in each place, ones with the same number in all places, ones that lack one place, and irregular ones.
func vectors() []api.Vector {
	l := []api.Vector{{}, {1, 2, 0}, {0, 3, 1}, {1, 1, 0}, {1, 2, 3, 4, 5, 6, 7, 8}, {8, 7, 6, 5, 4, 3, 2, 1}}
	for r := range 8 {
		for _, n := range []uint32{1, 2, math.MaxUint32} {
			var one, all api.Vector
			one[r] = n
			for other := range all {
				all[other] = n
			}
			l = append(l, one, all)
			all[r] = 0
			l = append(l, all)
		}
	}
	return append(l, irregular(20, 4)...)
}

// irregular returns vectors with numbers below a bound.
func irregular(count int, bound uint32) []api.Vector {
	l := make([]api.Vector, count)
	seed := uint32(7)
	for i := range l {
		for r := range l[i] {
			seed = seed*1664525 + 1013904223
			l[i][r] = seed >> 16 % bound
		}
	}
	return l
}

func TestExamples(t *testing.T) { // P4.1, P4.3
	if !vector.Above(api.Vector{1, 2, 0}, api.Vector{1, 1, 0}) || !vector.Beside(api.Vector{1, 2, 0}, api.Vector{0, 3, 0}) {
		t.Error("above, beside")
	}
	v := api.Vector{1, 2, 0}
	if !vector.Covers(v, api.Dot{R: 1, N: 2}) || vector.Covers(v, api.Dot{R: 2, N: 1}) {
		t.Error("covers")
	}
	if d, e := vector.Next(v, 1); d != (api.Dot{R: 1, N: 3}) || e != api.OK {
		t.Error(d, e)
	}
	if got, e := vector.Put(v, api.Dot{R: 1, N: 3}); got != (api.Vector{1, 3, 0}) || e != api.OK {
		t.Error(got, e)
	}
	if got, e := vector.Put(v, api.Dot{R: 1, N: 4}); got != (api.Vector{}) || e != api.ErrState {
		t.Error(got, e)
	}
	if d, e := vector.Next(v, 8); d != (api.Dot{}) || e != api.ErrArg {
		t.Error(d, e)
	}
}

func TestCovers(t *testing.T) { // P4.1: of every R, in every place, at and beside the number
	for _, v := range vectors() {
		for r := range 256 {
			numbers := edgeNumbers()
			if r < 8 {
				numbers = append(numbers, v[r]-1, v[r], v[r]+1)
			}
			for _, n := range numbers {
				d := api.Dot{R: uint8(r), N: n}
				if got := vector.Covers(v, d); got != plainCovers(v, d) {
					t.Fatalf("Covers(%v, %v) = %v", v, d, got)
				}
			}
		}
	}
}

func TestCoversWrongDots(t *testing.T) { // P4.1: a dot that is not valid is covered by none
	var full api.Vector
	for r := range full {
		full[r] = math.MaxUint32
	}
	for _, d := range []api.Dot{{}, {R: 7}, {R: 8}, {R: 8, N: 1}, {R: 9, N: 1}, {R: 16, N: 1}, {R: 255, N: 1}, {R: 255}, {R: 8, N: math.MaxUint32}} {
		if vector.Covers(full, d) || vector.Covers(api.Vector{}, d) {
			t.Errorf("%v is covered", d)
		}
	}
	if !vector.Covers(full, api.Dot{R: 7, N: math.MaxUint32}) {
		t.Error("the greatest dot is not covered by the greatest vector")
	}
}

func TestAboveAndBeside(t *testing.T) { // P4.1
	besides := 0
	for _, a := range vectors() {
		if !vector.Above(a, a) || vector.Beside(a, a) {
			t.Errorf("%v is not above itself", a)
		}
		for _, b := range vectors() {
			if got := vector.Above(a, b); got != plainAbove(a, b) {
				t.Fatalf("Above(%v, %v) = %v", a, b, got)
			}
			want := !plainAbove(a, b) && !plainAbove(b, a)
			if got := vector.Beside(a, b); got != want {
				t.Fatalf("Beside(%v, %v) = %v", a, b, got)
			}
			if want {
				besides++
			}
		}
	}
	if besides < 1000 {
		t.Errorf("only %d of the pairs are beside each other", besides)
	}
}

func TestAboveInEachPlace(t *testing.T) { // P4.1: each place counts, at the greatest numbers too
	for _, n := range []uint32{1, 2, 1 << 31, math.MaxUint32} {
		for r := range 8 {
			var less, more api.Vector
			for other := range less {
				less[other], more[other] = n, n
			}
			less[r] = n - 1
			if !vector.Above(more, less) || vector.Above(less, more) || vector.Beside(more, less) || vector.Beside(less, more) {
				t.Errorf("%v is not just above %v", more, less)
			}
			more[(r+1)%8] = n - 1
			if vector.Above(more, less) || vector.Above(less, more) || !vector.Beside(more, less) || !vector.Beside(less, more) {
				t.Errorf("%v is not just beside %v", more, less)
			}
		}
	}
}

func TestNext(t *testing.T) { // P4.3, R2, R3
	for _, v := range vectors() {
		for r := range 256 {
			got, e := vector.Next(v, uint8(r))
			switch {
			case r > 7:
				if got != (api.Dot{}) || e != api.ErrArg {
					t.Fatalf("Next(%v, %d) = %v, %d, want ErrArg", v, r, got, e)
				}
			case v[r] == math.MaxUint32:
				if got != (api.Dot{}) || e != api.ErrFull {
					t.Fatalf("Next(%v, %d) = %v, %d, want ErrFull", v, r, got, e)
				}
			default:
				want := api.Dot{R: uint8(r), N: v[r] + 1}
				if got != want || e != api.OK || vector.Covers(v, got) {
					t.Fatalf("Next(%v, %d) = %v, %d, want %v", v, r, got, e, want)
				}
			}
		}
	}
}

func TestNextAtTheEnd(t *testing.T) { // P4.3: the greatest dot is a next one, and no other follows; each place on its own
	for r := range uint8(8) {
		var v api.Vector
		v[r] = math.MaxUint32 - 1
		if d, e := vector.Next(v, r); d != (api.Dot{R: r, N: math.MaxUint32}) || e != api.OK {
			t.Errorf("Next(%v, %d) = %v, %d", v, r, d, e)
		}
		v[r] = math.MaxUint32
		for other := range uint8(8) {
			want, wantE := api.Dot{R: other, N: 1}, api.OK
			if other == r {
				want, wantE = api.Dot{}, api.ErrFull
			}
			if d, e := vector.Next(v, other); d != want || e != wantE {
				t.Errorf("Next(%v, %d) = %v, %d", v, other, d, e)
			}
		}
		if d, e := vector.Next(v, 8); d != (api.Dot{}) || e != api.ErrArg {
			t.Errorf("Next(%v, 8) = %v, %d", v, d, e)
		}
	}
}

func TestPut(t *testing.T) { // P4.3, R2, R3
	for _, v := range vectors() {
		for r := range 256 {
			numbers := edgeNumbers()
			if r < 8 {
				numbers = append(numbers, v[r]-1, v[r], v[r]+1, v[r]+2)
			}
			for _, n := range numbers {
				isPut(t, v, api.Dot{R: uint8(r), N: n})
			}
		}
	}
}

// isPut says what Put must return.
func isPut(t *testing.T, v api.Vector, d api.Dot) {
	t.Helper()
	want, wantE := v, api.OK
	switch {
	case d.R > 7 || d.N == 0:
		want, wantE = api.Vector{}, api.ErrArg
	case uint64(d.N) != uint64(v[d.R])+1:
		want, wantE = api.Vector{}, api.ErrState
	default:
		want[d.R]++
	}
	was := v
	if got, e := vector.Put(v, d); got != want || e != wantE || v != was {
		t.Fatalf("Put(%v, %v) = %v, %d, want %v, %d", v, d, got, e, want, wantE)
	}
}

func TestPutAtTheEnd(t *testing.T) { // P4.3: a dot with N 0 is not the one after the greatest, and 1 is not either
	for r := range uint8(8) {
		var full, almost api.Vector
		full[r], almost[r] = math.MaxUint32, math.MaxUint32-1
		for _, x := range []struct {
			v     api.Vector
			n     uint32
			want  api.Vector
			wantE api.Errno
		}{
			{full, 0, api.Vector{}, api.ErrArg},
			{full, 1, api.Vector{}, api.ErrState},
			{full, math.MaxUint32, api.Vector{}, api.ErrState},
			{almost, math.MaxUint32, full, api.OK},
			{almost, math.MaxUint32 - 1, api.Vector{}, api.ErrState},
			{almost, 0, api.Vector{}, api.ErrArg},
			{api.Vector{}, 0, api.Vector{}, api.ErrArg},
			{api.Vector{}, 2, api.Vector{}, api.ErrState},
			{api.Vector{}, math.MaxUint32, api.Vector{}, api.ErrState},
		} {
			if got, e := vector.Put(x.v, api.Dot{R: r, N: x.n}); got != x.want || e != x.wantE {
				t.Errorf("Put(%v, %d %d) = %v, %d, want %v, %d", x.v, r, x.n, got, e, x.want, x.wantE)
			}
		}
	}
}

func TestPutOfNext(t *testing.T) { // P4.3, P4.7: what Next returns is what Put takes; the result covers this dot more, and no other
	for _, v := range vectors() {
		for r := range uint8(8) {
			next, e := vector.Next(v, r)
			if e != api.OK {
				continue
			}
			put, e := vector.Put(v, next)
			if e != api.OK || vector.Count(put) != vector.Count(v)+1 || !vector.Above(put, v) || vector.Above(v, put) {
				t.Fatalf("Put(%v, %v) = %v, %d", v, next, put, e)
			}
			more, e := vector.Lacks(v, put)
			if e != api.OK || !slices.Equal(more, []api.Dot{next}) || !vector.Covers(put, next) || vector.Covers(v, next) {
				t.Fatalf("Put(%v, %v) covers %v more, %d", v, next, more, e)
			}
		}
	}
}

func TestCount(t *testing.T) { // P4.4: in 64 bits
	known := map[api.Vector]uint64{
		{}:                       0,
		{1, 2, 0}:                3,
		{0, 0, 0, 0, 0, 0, 0, 1}: 1,
		{math.MaxUint32}:         1<<32 - 1,
		{math.MaxUint32, 1}:      1 << 32,
		{1 << 31, 1 << 31, 0, 1 << 31, 0, 0, 0, 1 << 31}:            1 << 33,
		{math.MaxUint32, 0, 0, 0, 0, 0, 0, math.MaxUint32}:          2 * (1<<32 - 1),
		{1<<32 - 1, 1<<32 - 1, 1<<32 - 1, 1<<32 - 1, 1<<32 - 1, 2}:  5*(1<<32-1) + 2,
		{1<<32 - 1, 1<<32 - 1, 1<<32 - 1, 1<<32 - 1, 1, 2, 3, 4}:    4*(1<<32-1) + 10,
		{1 << 16, 1 << 17, 1 << 18, 1 << 19, 1 << 20, 1, 0, 1 << 9}: 1<<21 - 1<<16 + 1 + 1<<9,
	}
	for v, want := range known {
		if got := vector.Count(v); got != want {
			t.Errorf("Count(%v) = %d, want %d", v, got, want)
		}
	}
	for _, v := range vectors() {
		if got, want := new(big.Int).SetUint64(vector.Count(v)), plainCount(v); got.Cmp(want) != 0 {
			t.Errorf("Count(%v) = %v, want %v", v, got, want)
		}
	}
}

func TestDotsKnown(t *testing.T) { // P4.4
	for _, x := range []struct {
		v    api.Vector
		want []api.Dot
	}{
		{api.Vector{}, nil},
		{api.Vector{1, 2, 0}, []api.Dot{{R: 0, N: 1}, {R: 1, N: 1}, {R: 1, N: 2}}},
		{api.Vector{0, 0, 0, 0, 0, 0, 0, 2}, []api.Dot{{R: 7, N: 1}, {R: 7, N: 2}}},
		{api.Vector{1, 0, 0, 0, 0, 0, 0, 1}, []api.Dot{{R: 0, N: 1}, {R: 7, N: 1}}},
		{api.Vector{1, 1, 0, 0, 1, 1, 0, 1}, []api.Dot{{R: 0, N: 1}, {R: 1, N: 1}, {R: 4, N: 1}, {R: 5, N: 1}, {R: 7, N: 1}}},
	} {
		if got, e := vector.Dots(x.v); !slices.Equal(got, x.want) || e != api.OK {
			t.Errorf("Dots(%v) = %v, %d, want %v", x.v, got, e, x.want)
		}
	}
}

func TestLacksKnown(t *testing.T) { // P4.4
	const top = math.MaxUint32
	for _, x := range []struct {
		a, b api.Vector
		want []api.Dot
	}{
		{api.Vector{1, 2, 0}, api.Vector{2, 2, 1}, []api.Dot{{R: 0, N: 2}, {R: 2, N: 1}}},
		{api.Vector{2, 2, 1}, api.Vector{1, 2, 0}, nil},
		{api.Vector{1, 2, 0}, api.Vector{1, 2, 0}, nil},
		{api.Vector{}, api.Vector{}, nil},
		{api.Vector{5, 0}, api.Vector{3, 1}, []api.Dot{{R: 1, N: 1}}},
		{api.Vector{top}, api.Vector{top}, nil},
		{api.Vector{top}, api.Vector{1, 1}, []api.Dot{{R: 1, N: 1}}},
		{api.Vector{top - 1}, api.Vector{top}, []api.Dot{{R: 0, N: top}}},
		{api.Vector{7: top - 2}, api.Vector{7: top}, []api.Dot{{R: 7, N: top - 1}, {R: 7, N: top}}},
		{api.Vector{1<<31 - 1, top}, api.Vector{1<<31 + 1, 0}, []api.Dot{{R: 0, N: 1 << 31}, {R: 0, N: 1<<31 + 1}}},
	} {
		if got, e := vector.Lacks(x.a, x.b); !slices.Equal(got, x.want) || e != api.OK {
			t.Errorf("Lacks(%v, %v) = %v, %d, want %v", x.a, x.b, got, e, x.want)
		}
	}
}

func TestDotsAndLacks(t *testing.T) { // P4.4, R4: of small numbers, by the definition of covers
	small := irregular(40, 4)
	for _, b := range small {
		want := plainDots(4, func(d api.Dot) bool { return plainCovers(b, d) })
		if got, e := vector.Dots(b); !slices.Equal(got, want) || e != api.OK || uint64(len(got)) != vector.Count(b) {
			t.Fatalf("Dots(%v) = %v, %d, want %v", b, got, e, want)
		}
		for _, a := range small {
			want := plainDots(4, func(d api.Dot) bool { return plainCovers(b, d) && !plainCovers(a, d) })
			if got, e := vector.Lacks(a, b); !slices.Equal(got, want) || e != api.OK {
				t.Fatalf("Lacks(%v, %v) = %v, %d, want %v", a, b, got, e, want)
			}
		}
	}
}

// longVectors returns vectors of count dots: in one place, and spread over several.
func longVectors(count uint32) []api.Vector {
	l := []api.Vector{{count - 1, 1}, {1, 0, 0, 0, 0, 0, 0, count - 1}, {count - 7, 1, 1, 1, 1, 1, 1, 1}, {2: count / 2, 5: count - count/2}}
	for r := range 8 {
		var one api.Vector
		one[r] = count
		l = append(l, one)
	}
	return l
}

func TestDotsLengths(t *testing.T) { // P4.4, R3: 65536 dots, and not one more
	for _, count := range []uint32{65535, 65536} {
		for _, v := range longVectors(count) {
			want := plainDots(count, func(d api.Dot) bool { return plainCovers(v, d) })
			if got, e := vector.Dots(v); !slices.Equal(got, want) || e != api.OK || len(got) != int(count) {
				t.Errorf("Dots(%v): %d dots, %d", v, len(got), e)
			}
		}
	}
	for _, count := range []uint32{65537, 70000, 1 << 31, math.MaxUint32} {
		for _, v := range longVectors(count) {
			if got, e := vector.Dots(v); got != nil || e != api.ErrLong {
				t.Errorf("Dots(%v): %d dots, %d, want ErrLong", v, len(got), e)
			}
		}
	}
}

func TestLacksLengths(t *testing.T) { // P4.4, R3: what a has more elsewhere does not count, and does not make up for it
	for _, count := range []uint32{65535, 65536, 65537, 1 << 17} {
		for r := range 8 {
			for _, from := range []uint32{0, 1, 65536, 1<<31 - 1, math.MaxUint32 - count} {
				var a, b api.Vector
				a[(r+3)%8] = 100000
				a[r], b[r] = from, from+count
				got, e := vector.Lacks(a, b)
				if count > 65536 {
					if got != nil || e != api.ErrLong {
						t.Errorf("Lacks(%v, %v): %d dots, %d, want ErrLong", a, b, len(got), e)
					}
					continue
				}
				if len(got) != int(count) || e != api.OK {
					t.Fatalf("Lacks(%v, %v): %d dots, %d", a, b, len(got), e)
				}
				for i, d := range got {
					if d != (api.Dot{R: uint8(r), N: from + 1 + uint32(i)}) {
						t.Fatalf("Lacks(%v, %v): at %d %v", a, b, i, d)
					}
				}
			}
		}
	}
}

func TestLacksOfSeveral(t *testing.T) { // P4.4: all replicas' dots count together, beyond 32 bits too
	base := api.Vector{9, 9, 9, 9, 9, 9, 9, 9}
	b := base
	for r := range b {
		b[r] += 8192
	}
	if got, e := vector.Lacks(base, b); len(got) != 65536 || e != api.OK {
		t.Errorf("%d dots, %d", len(got), e)
	}
	for r := range b {
		more := b
		more[r]++
		if got, e := vector.Lacks(base, more); got != nil || e != api.ErrLong {
			t.Errorf("one more of %d: %d dots, %d, want ErrLong", r, len(got), e)
		}
	}
	wraps := []api.Vector{{math.MaxUint32, 1}, {math.MaxUint32, 2}, {1 << 31, 1 << 31}, {1 << 31, 1<<31 + 5}, {1 << 30, 1 << 30, 1 << 30, 1 << 30}, {1 << 29, 1 << 29, 1 << 29, 1 << 29, 1 << 29, 1 << 29, 1 << 29, 1 << 29}}
	for _, v := range wraps { // of which 32 bits are a small number
		if got, e := vector.Lacks(api.Vector{}, v); got != nil || e != api.ErrLong {
			t.Errorf("Lacks(zero, %v): %d dots, %d, want ErrLong", v, len(got), e)
		}
		if got, e := vector.Dots(v); got != nil || e != api.ErrLong {
			t.Errorf("Dots(%v): %d dots, %d, want ErrLong", v, len(got), e)
		}
		if got, e := vector.Lacks(v, v); len(got) != 0 || e != api.OK {
			t.Errorf("Lacks(%v, itself): %d dots, %d", v, len(got), e)
		}
	}
}

func TestDotsAreNewMemory(t *testing.T) { // R4, R5
	want := []api.Dot{{R: 0, N: 2}, {R: 2, N: 1}}
	a, b := api.Vector{1, 2, 0}, api.Vector{2, 2, 1}
	first, _ := vector.Lacks(a, b)
	second, _ := vector.Lacks(a, b)
	for i := range first[:cap(first)] {
		first[:cap(first)][i] = api.Dot{R: 99, N: 99}
	}
	third, _ := vector.Lacks(a, b)
	if !slices.Equal(second, want) || !slices.Equal(third, want) || a != (api.Vector{1, 2, 0}) || b != (api.Vector{2, 2, 1}) {
		t.Errorf("%v, %v of %v, %v", second, third, a, b)
	}
}
