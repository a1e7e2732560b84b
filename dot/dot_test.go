package dot_test

import (
	"math"
	"slices"
	"testing"

	"tranter/api"
	"tranter/dot"
)

// plainMay is the chapter's definition of a valid dot, written out.
func plainMay(d api.Dot) bool {
	return d.R <= 7 && d.N >= 1
}

// plainCompare is the chapter's order of dots, written out.
func plainCompare(a, b api.Dot) int {
	switch {
	case a.R < b.R, a.R == b.R && a.N < b.N:
		return -1
	case a == b:
		return 0
	}
	return 1
}

// plainKey is the chapter's key of a valid dot: below its 32 bits of N are three of R.
func plainKey(d api.Dot) uint64 {
	return uint64(d.N)*8 + uint64(d.R)
}

// numbers returns those at the edges, and around each power of two, in increasing order.
func numbers() []uint32 {
	l := []uint32{0, 1, 2, 3, 9, 300, 1<<29 - 1, 1 << 29, 1<<31 - 1, math.MaxUint32 - 1, math.MaxUint32}
	for bit := range 32 {
		l = append(l, 1<<bit-1, 1<<bit, 1<<bit+1)
	}
	slices.Sort(l)
	return slices.Compact(l)
}

// everyDot returns dots of every R, with the numbers passed.
func everyDot(numbers ...uint32) []api.Dot {
	var l []api.Dot
	for r := range 256 {
		for _, n := range numbers {
			l = append(l, api.Dot{R: uint8(r), N: n})
		}
	}
	return l
}

func TestMay(t *testing.T) { // P3.1
	for _, d := range everyDot(numbers()...) {
		if got := dot.May(d); got != plainMay(d) {
			t.Errorf("May(%v) = %v", d, got)
		}
	}
	known := map[api.Dot]bool{
		{}: false, {R: 7}: false, {R: 8}: false, {R: 255}: false, {R: 0, N: 1}: true, {R: 7, N: 1}: true, {R: 8, N: 1}: false, {R: 255, N: 1}: false,
		{R: 0, N: math.MaxUint32}: true, {R: 7, N: math.MaxUint32}: true, {R: 8, N: math.MaxUint32}: false, {R: 255, N: math.MaxUint32}: false,
	}
	for d, want := range known {
		if got := dot.May(d); got != want {
			t.Errorf("May(%v) = %v", d, got)
		}
	}
}

func TestCompareKnown(t *testing.T) { // P3.1
	for _, x := range []struct {
		a, b api.Dot
		want int
	}{
		{api.Dot{R: 1, N: 9}, api.Dot{R: 2, N: 1}, -1},
		{api.Dot{R: 2, N: 1}, api.Dot{R: 1, N: 9}, 1},
		{api.Dot{R: 2, N: 1}, api.Dot{R: 2, N: 1}, 0},
		{api.Dot{R: 2, N: 1}, api.Dot{R: 2, N: 2}, -1},
		{api.Dot{R: 2, N: 2}, api.Dot{R: 2, N: 1}, 1},
		{api.Dot{}, api.Dot{}, 0},
		{api.Dot{}, api.Dot{N: 1}, -1},
		{api.Dot{N: math.MaxUint32}, api.Dot{R: 1}, -1},
		{api.Dot{N: math.MaxUint32}, api.Dot{N: 0}, 1},
		{api.Dot{N: 1 << 31}, api.Dot{N: 1<<31 - 1}, 1},
		{api.Dot{R: 7, N: math.MaxUint32}, api.Dot{R: 8}, -1},
		{api.Dot{R: 127, N: 5}, api.Dot{R: 128, N: 5}, -1},
		{api.Dot{R: 255}, api.Dot{R: 0}, 1},
		{api.Dot{R: 255, N: math.MaxUint32}, api.Dot{R: 255, N: math.MaxUint32}, 0},
	} {
		if got := dot.Compare(x.a, x.b); got != x.want {
			t.Errorf("Compare(%v, %v) = %d, want %d", x.a, x.b, got, x.want)
		}
	}
}

func TestCompareAll(t *testing.T) { // P3.1: -1, 0 and 1 alone, for valid dots and others
	l := everyDot(0, 1, 2, 300, 1<<31, math.MaxUint32)
	for i, a := range l { // l is in increasing order
		for j, b := range l {
			want := 0
			if i < j {
				want = -1
			} else if i > j {
				want = 1
			}
			if got := dot.Compare(a, b); got != want || plainCompare(a, b) != want {
				t.Fatalf("Compare(%v, %v) = %d, want %d", a, b, got, want)
			}
		}
	}
}

func TestKeyKnown(t *testing.T) { // P3.2
	known := map[api.Dot]uint64{
		{R: 0, N: 1}: 8, {R: 1, N: 1}: 9, {R: 7, N: 1}: 15, {R: 0, N: 2}: 16, {R: 3, N: 5}: 43,
		{R: 0, N: 1 << 29}: 1 << 32, {R: 0, N: 1 << 31}: 1 << 34, {R: 0, N: math.MaxUint32}: 1<<35 - 8, {R: 7, N: math.MaxUint32}: 1<<35 - 1,
	}
	for d, want := range known {
		if got, e := dot.Key(d); got != want || e != api.OK {
			t.Errorf("Key(%v) = %d, %d, want %d", d, got, e, want)
		}
		if got, e := dot.Of(want); got != d || e != api.OK {
			t.Errorf("Of(%d) = %v, %d, want %v", want, got, e, d)
		}
	}
}

func TestKeyOfEachDot(t *testing.T) { // P3.2, P3.5, R3
	for _, d := range everyDot(numbers()...) {
		key, e := dot.Key(d)
		if !plainMay(d) {
			if key != 0 || e != api.ErrArg {
				t.Errorf("Key(%v) = %d, %d, want ErrArg", d, key, e)
			}
			continue
		}
		if key != plainKey(d) || e != api.OK || key >= 1<<35 {
			t.Errorf("Key(%v) = %d, %d, want %d", d, key, e, plainKey(d))
		}
		if back, e := dot.Of(key); back != d || e != api.OK {
			t.Errorf("Of(%d) = %v, %d, want %v", key, back, e, d)
		}
	}
}

func TestOfSmallKeys(t *testing.T) { // P3.2: 0 to 7 have no number
	for key := range uint64(1 << 14) {
		got, e := dot.Of(key)
		want, wantE := api.Dot{R: uint8(key % 8), N: uint32(key / 8)}, api.OK
		if key < 8 {
			want, wantE = api.Dot{}, api.ErrForm
		}
		if got != want || e != wantE {
			t.Errorf("Of(%d) = %v, %d, want %v, %d", key, got, e, want, wantE)
		}
	}
}

func TestOfWrongKeys(t *testing.T) { // P3.2, R3, R6: a key has 35 bits
	wrong := []uint64{0, 1, 7, 1 << 35, 1<<35 + 1, 1<<35 + 7, 1<<35 + 8, 1<<35 + 43, 1<<36 - 1, 1 << 36, math.MaxInt64, 1 << 63, math.MaxUint64 - 1, math.MaxUint64}
	for bit := 35; bit < 64; bit++ {
		wrong = append(wrong, 1<<bit, 1<<bit|43, 1<<bit|(1<<35-1))
	}
	for _, key := range wrong {
		if got, e := dot.Of(key); got != (api.Dot{}) || e != api.ErrForm {
			t.Errorf("Of(%d) = %v, %d, want ErrForm", key, got, e)
		}
	}
}

func TestOfThereAndBack(t *testing.T) { // P3.5: each number is a key that Key returns for what Of returns, or none
	seed := uint64(1)
	fine := 0
	for i := range 20000 {
		seed = seed*6364136223846793005 + 1442695040888963407
		key := seed >> (i % 64)
		d, e := dot.Of(key)
		if is := key >= 8 && key < 1<<35; is != (e == api.OK) {
			t.Fatalf("Of(%d) = %v, %d", key, d, e)
		}
		if e != api.OK {
			continue
		}
		fine++
		if back, e := dot.Key(d); back != key || e != api.OK || !dot.May(d) {
			t.Fatalf("Of(%d) = %v, whose key is %d, %d", key, d, back, e)
		}
	}
	if fine < 1000 {
		t.Errorf("only %d of the samples are keys", fine)
	}
}

func TestKeysIncrease(t *testing.T) { // P3.5: as the dots of one replica do
	for r := range uint8(8) {
		last := uint64(0)
		for _, n := range numbers() {
			if n == 0 {
				continue
			}
			key, e := dot.Key(api.Dot{R: r, N: n})
			if key <= last || e != api.OK {
				t.Errorf("the key of %d %d is %d, %d, after %d", r, n, key, e, last)
			}
			last = key
		}
	}
}

func TestRangeKnown(t *testing.T) { // P3.3
	for _, x := range []struct {
		r        uint8
		from, to uint32
		want     []api.Dot
	}{
		{1, 3, 5, []api.Dot{{R: 1, N: 3}, {R: 1, N: 4}, {R: 1, N: 5}}},
		{1, 3, 3, []api.Dot{{R: 1, N: 3}}},
		{1, 3, 2, nil},
		{1, 3, 0, nil},
		{0, 1, 1, []api.Dot{{N: 1}}},
		{0, 1, 0, nil},
		{7, 1, 2, []api.Dot{{R: 7, N: 1}, {R: 7, N: 2}}},
		{7, math.MaxUint32 - 1, math.MaxUint32, []api.Dot{{R: 7, N: math.MaxUint32 - 1}, {R: 7, N: math.MaxUint32}}},
		{0, math.MaxUint32, math.MaxUint32, []api.Dot{{N: math.MaxUint32}}},
		{0, math.MaxUint32, math.MaxUint32 - 1, nil},
		{0, math.MaxUint32, 1, nil},
		{2, math.MaxUint32, 0, nil},
		{3, 1<<31 - 1, 1 << 31, []api.Dot{{R: 3, N: 1<<31 - 1}, {R: 3, N: 1 << 31}}},
	} {
		if got, e := dot.Range(x.r, x.from, x.to); !slices.Equal(got, x.want) || e != api.OK {
			t.Errorf("Range(%d, %d, %d) = %v, %d, want %v", x.r, x.from, x.to, got, e, x.want)
		}
	}
}

func TestRangeLengths(t *testing.T) { // P3.3: 65536 dots, and not one more
	for _, r := range []uint8{0, 7} {
		for _, from := range []uint32{1, 2, 1 << 16, 1<<31 - 5, math.MaxUint32 - 70000, math.MaxUint32 - 65536, math.MaxUint32 - 65535} {
			for _, count := range []uint32{1, 2, 255, 256, 65535, 65536, 65537, 70000} {
				if uint64(from)+uint64(count)-1 > math.MaxUint32 {
					continue
				}
				isRange(t, r, from, from+count-1)
			}
		}
	}
}

// isRange says what Range must return for a range that has a dot.
func isRange(t *testing.T, r uint8, from, to uint32) {
	t.Helper()
	got, e := dot.Range(r, from, to)
	if to-from > 65535 {
		if got != nil || e != api.ErrLong {
			t.Errorf("Range(%d, %d, %d): %d dots, %d, want ErrLong", r, from, to, len(got), e)
		}
		return
	}
	if len(got) != int(to-from)+1 || e != api.OK {
		t.Fatalf("Range(%d, %d, %d): %d dots, %d", r, from, to, len(got), e)
	}
	for i, d := range got {
		if d != (api.Dot{R: r, N: from + uint32(i)}) {
			t.Fatalf("Range(%d, %d, %d): at %d %v", r, from, to, i, d)
		}
	}
}

func TestRangeErrors(t *testing.T) { // P3.3, R2, R3: ErrArg comes before ErrLong, and before a range of none
	ends := []uint32{0, 1, 2, 3, 65536, 65537, math.MaxUint32}
	for r := range 256 {
		for _, from := range []uint32{0, 1, 3, 65537, math.MaxUint32} {
			for _, to := range ends {
				got, e := dot.Range(uint8(r), from, to)
				want := api.OK
				if r > 7 || from == 0 {
					want = api.ErrArg
				} else if uint64(to)+1 > uint64(from)+65536 {
					want = api.ErrLong
				}
				if e != want || e != api.OK && got != nil {
					t.Errorf("Range(%d, %d, %d): %d dots, %d, want %d", r, from, to, len(got), e, want)
				}
			}
		}
	}
}

func TestRangeAllOfIt(t *testing.T) { // P3.3: of a range whose number of dots is a small one when it is cut to fewer bits
	for _, from := range []uint32{1, 2, 3} {
		for _, to := range []uint32{math.MaxUint32, math.MaxUint32 - 1, 1 << 31, 1<<16 + from, 1 << 17} {
			if got, e := dot.Range(0, from, to); got != nil || e != api.ErrLong {
				t.Errorf("Range(0, %d, %d): %d dots, %d, want ErrLong", from, to, len(got), e)
			}
		}
	}
}

func TestRangeIsASetOfValidDots(t *testing.T) { // P3.3
	l, _ := dot.Range(5, 10, 1000)
	if got := dot.Sort(l); !slices.Equal(got, l) {
		t.Errorf("sorted %d dots are %d", len(l), len(got))
	}
	for _, d := range l {
		if !dot.May(d) {
			t.Errorf("%v is not valid", d)
		}
	}
}

func TestRangeIsNewMemory(t *testing.T) { // R4, R5
	first, _ := dot.Range(1, 3, 5)
	second, _ := dot.Range(1, 3, 5)
	spoil(first)
	third, _ := dot.Range(1, 3, 5)
	want := []api.Dot{{R: 1, N: 3}, {R: 1, N: 4}, {R: 1, N: 5}}
	if !slices.Equal(second, want) || !slices.Equal(third, want) {
		t.Errorf("%v, %v", second, third)
	}
}
