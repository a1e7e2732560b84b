package vector_test

import (
	"math"
	"slices"
	"testing"

	"tranter/api"
	"tranter/vector"
)

// plainMerge and plainMeet are the chapter's definitions, written out.
func plainMerge(l []api.Vector) api.Vector {
	var merged api.Vector
	for r := range 8 {
		for _, v := range l {
			if v[r] > merged[r] {
				merged[r] = v[r]
			}
		}
	}
	return merged
}

func plainMeet(l []api.Vector) api.Vector {
	var met api.Vector
	for r := range 8 {
		for i, v := range l {
			if i == 0 || v[r] < met[r] {
				met[r] = v[r]
			}
		}
	}
	return met
}

// plainTops is the chapter's definition, written out.
func plainTops(l []api.Vector) []api.Vector {
	var tops []api.Vector
	for i, v := range l {
		other := slices.ContainsFunc(l, func(o api.Vector) bool { return o != v && plainAbove(o, v) })
		if !other && slices.Index(l, v) == i {
			tops = append(tops, v)
		}
	}
	return tops
}

// rows returns lists of vectors: nil and empty ones, of one, of the same one twice, of one that is above all others, of some beside each other, and irregular ones.
func rows() [][]api.Vector {
	a, b := api.Vector{1, 2, 0}, api.Vector{0, 3, 1}
	top := api.Vector{math.MaxUint32, math.MaxUint32, math.MaxUint32, math.MaxUint32, math.MaxUint32, math.MaxUint32, math.MaxUint32, math.MaxUint32}
	l := [][]api.Vector{
		nil, {},
		{{}}, {a}, {top}, {{}, {}}, {a, a}, {a, a, a},
		{a, b}, {b, a}, {a, b, a}, {a, a, b, b, a},
		{{}, a}, {a, {}}, {a, b, top}, {top, a, b}, {a, top, b, top}, {a, {}, b, {}},
		{{1}, {0, 1}, {1}, {}},
		{{1}, {1, 1}, {1, 1, 1}, {1, 1, 1, 1}}, {{1, 1, 1, 1}, {1, 1, 1}, {1, 1}, {1}},
		{{1}, {0, 1}, {1, 1}}, {{1}, {0, 1}, {1, 1}, {1}, {0, 1}},
		vectors(),
	}
	for n := 2; n < 30; n++ {
		l = append(l, irregular(n, 2), irregular(n, 3), irregular(n, 9))
	}
	backwards := vectors()
	slices.Reverse(backwards)
	return append(l, backwards)
}

func TestMergeAndMeetKnown(t *testing.T) { // P4.2
	a, b := api.Vector{1, 2, 0}, api.Vector{0, 3, 1}
	if got := vector.Merge(a, b); got != (api.Vector{1, 3, 1}) {
		t.Errorf("Merge = %v", got)
	}
	if got := vector.Meet(a, b); got != (api.Vector{0, 2, 0}) {
		t.Errorf("Meet = %v", got)
	}
	if vector.Merge() != (api.Vector{}) || vector.Meet() != (api.Vector{}) {
		t.Error("of no vectors")
	}
	var none []api.Vector
	if vector.Merge(none...) != (api.Vector{}) || vector.Meet(none...) != (api.Vector{}) || vector.Merge([]api.Vector{}...) != (api.Vector{}) || vector.Meet([]api.Vector{}...) != (api.Vector{}) {
		t.Error("of an empty list")
	}
}

func TestMergeAndMeet(t *testing.T) { // P4.2, R5
	for _, l := range rows() {
		was := slices.Clone(l)
		if got, want := vector.Merge(l...), plainMerge(l); got != want {
			t.Fatalf("Merge(%v) = %v, want %v", l, got, want)
		}
		if got, want := vector.Meet(l...), plainMeet(l); got != want {
			t.Fatalf("Meet(%v) = %v, want %v", l, got, want)
		}
		if !slices.Equal(l, was) {
			t.Fatalf("%v was changed to %v", was, l)
		}
	}
}

func TestMergeAndMeetInEachPlace(t *testing.T) { // P4.2: numbers 0, 1 and 2^32 - 1 in any place
	numbers := []uint32{0, 1, 2, 1 << 31, math.MaxUint32}
	for r := range 8 {
		for _, x := range numbers {
			for _, y := range numbers {
				a, b := api.Vector{5, 5, 5, 5, 5, 5, 5, 5}, api.Vector{5, 5, 5, 5, 5, 5, 5, 5}
				more, less := a, a
				a[r], b[r] = x, y
				more[r], less[r] = max(x, y), min(x, y)
				if got := vector.Merge(a, b); got != more {
					t.Errorf("Merge(%v, %v) = %v", a, b, got)
				}
				if got := vector.Meet(a, b); got != less {
					t.Errorf("Meet(%v, %v) = %v", a, b, got)
				}
			}
		}
	}
}

func TestMergeIsTheLeastAboveAll(t *testing.T) { // P4.6: and Meet is the greatest that all are above
	for _, l := range rows() {
		if len(l) == 0 {
			continue
		}
		merged, met := vector.Merge(l...), vector.Meet(l...)
		for _, v := range l {
			if !vector.Above(merged, v) || !vector.Above(v, met) {
				t.Fatalf("of %v: merged %v, met %v", l, merged, met)
			}
		}
		for r := range 8 {
			less, more := merged, met
			less[r]--
			more[r]++
			if merged[r] > 0 && aboveAll(less, l) {
				t.Fatalf("of %v: %v is above all, merged %v", l, less, merged)
			}
			if met[r] < math.MaxUint32 && allAbove(l, more) {
				t.Fatalf("of %v: all are above %v, met %v", l, more, met)
			}
		}
		for _, v := range vectors() {
			if aboveAll(v, l) != vector.Above(v, merged) || allAbove(l, v) != vector.Above(met, v) {
				t.Fatalf("of %v: %v and merged %v, met %v", l, v, merged, met)
			}
		}
	}
}

func aboveAll(v api.Vector, l []api.Vector) bool {
	return !slices.ContainsFunc(l, func(o api.Vector) bool { return !plainAbove(v, o) })
}

func allAbove(l []api.Vector, v api.Vector) bool {
	return !slices.ContainsFunc(l, func(o api.Vector) bool { return !plainAbove(o, v) })
}

func TestMergeInAnyOrder(t *testing.T) { // P4.6: backwards, turned, with each one twice, one after the other, and in parts
	for name, call := range map[string]func(l ...api.Vector) api.Vector{"Merge": vector.Merge, "Meet": vector.Meet} {
		for _, l := range rows() {
			if len(l) == 0 {
				continue
			}
			want := call(l...)
			backwards := slices.Clone(l)
			slices.Reverse(backwards)
			one := l[0]
			for _, v := range l {
				one = call(one, v)
			}
			cut := len(l) / 2
			turned := slices.Concat(l[cut:], l[:cut])
			for _, got := range []api.Vector{call(backwards...), call(turned...), call(slices.Concat(l, l)...), one, call(call(l[:cut+1]...), call(l[cut:]...))} {
				if got != want {
					t.Fatalf("%s(%v) = %v, and %v another way", name, l, want, got)
				}
			}
		}
	}
}

func TestMergeOneAfterTheOther(t *testing.T) { // P4.6: from the vector of none on, too, where merged
	for _, l := range rows() {
		merged := vector.Merge()
		for i, v := range l {
			merged = vector.Merge(merged, v)
			if want := vector.Merge(l[:i+1]...); merged != want {
				t.Fatalf("of %v: %v one after the other, %v at once", l[:i+1], merged, want)
			}
		}
	}
}

func TestMergedCovers(t *testing.T) { // P4.7
	for _, l := range rows() {
		if len(l) == 0 {
			continue
		}
		merged, met := vector.Merge(l...), vector.Meet(l...)
		for r := range uint8(9) {
			for _, n := range []uint32{0, 1, 2, 3, 4, 8, 9, math.MaxUint32 - 1, math.MaxUint32} {
				d := api.Dot{R: r, N: n}
				one := slices.ContainsFunc(l, func(v api.Vector) bool { return vector.Covers(v, d) })
				all := !slices.ContainsFunc(l, func(v api.Vector) bool { return !vector.Covers(v, d) })
				if vector.Covers(merged, d) != one || vector.Covers(met, d) != all {
					t.Fatalf("of %v: %v and merged %v, met %v", l, d, merged, met)
				}
			}
		}
	}
}

func TestTopsKnown(t *testing.T) { // P4.5
	for _, x := range []struct{ l, want []api.Vector }{
		{nil, nil},
		{[]api.Vector{}, nil},
		{[]api.Vector{{}}, []api.Vector{{}}},
		{[]api.Vector{{}, {}}, []api.Vector{{}}},
		{[]api.Vector{{1, 0, 0}, {0, 1, 0}, {1, 0, 0}, {0, 0, 0}}, []api.Vector{{1, 0, 0}, {0, 1, 0}}},
		{[]api.Vector{{0, 1, 0}, {1, 0, 0}, {0, 1, 0}}, []api.Vector{{0, 1, 0}, {1, 0, 0}}},
		{[]api.Vector{{0, 1}, {1, 1}, {1, 0}}, []api.Vector{{1, 1}}},
		{[]api.Vector{{1}, {5}, {0, 1}, {1}, {3}, {0, 1}}, []api.Vector{{5}, {0, 1}}},
		{[]api.Vector{{1}, {0, 1}, {0, 0, 1}, {2}, {0, 1}}, []api.Vector{{0, 1}, {0, 0, 1}, {2}}},
		{[]api.Vector{{math.MaxUint32}, {0, 1}, {math.MaxUint32 - 1, 1}}, []api.Vector{{math.MaxUint32}, {math.MaxUint32 - 1, 1}}},
		{[]api.Vector{{7: 1}, {7: 2}, {6: 1}, {7: math.MaxUint32}}, []api.Vector{{6: 1}, {7: math.MaxUint32}}},
	} {
		if got := vector.Tops(x.l); !slices.Equal(got, x.want) {
			t.Errorf("Tops(%v) = %v, want %v", x.l, got, x.want)
		}
	}
}

func TestTops(t *testing.T) { // P4.5, R4, R5: again too; and nothing is changed
	for _, l := range rows() {
		was, want := slices.Clone(l), plainTops(l)
		for range 3 {
			if got := vector.Tops(l); !slices.Equal(got, want) {
				t.Fatalf("Tops(%v) = %v, want %v", l, got, want)
			}
		}
		twice := slices.Concat(l, l)
		if got := vector.Tops(twice); !slices.Equal(got, want) {
			t.Fatalf("Tops(%v) = %v, want %v", twice, got, want)
		}
		if !slices.Equal(l, was) {
			t.Fatalf("%v was changed to %v", was, l)
		}
	}
}

func TestTopsOfShortLists(t *testing.T) { // P4.5: all of up to five vectors, of two replicas
	choice := []api.Vector{{}, {1}, {0, 1}, {1, 1}, {2}}
	all := [][]api.Vector{nil}
	for at := 0; at < len(all) && len(all[at]) < 5; at++ {
		for _, v := range choice {
			all = append(all, append(slices.Clone(all[at]), v))
		}
	}
	if len(all) != 1+5+25+125+625+3125 {
		t.Fatalf("%d lists", len(all))
	}
	for _, l := range all {
		if got, want := vector.Tops(l), plainTops(l); !slices.Equal(got, want) {
			t.Fatalf("Tops(%v) = %v, want %v", l, got, want)
		}
	}
}

func TestTopsCoverAll(t *testing.T) { // P4.5: what is left out is below one that is not, and those are beside each other
	for _, l := range rows() {
		tops := vector.Tops(l)
		if vector.Merge(tops...) != vector.Merge(l...) {
			t.Fatalf("Tops(%v) = %v, merged to something else", l, tops)
		}
		for _, v := range l {
			if !slices.ContainsFunc(tops, func(top api.Vector) bool { return vector.Above(top, v) }) {
				t.Fatalf("Tops(%v) = %v, none is above %v", l, tops, v)
			}
		}
		for i, a := range tops {
			for _, b := range tops[:i] {
				if !vector.Beside(a, b) {
					t.Fatalf("Tops(%v) has %v and %v", l, a, b)
				}
			}
		}
	}
}

func TestTopsOfMany(t *testing.T) { // P4.5, P1: of a long list, and one where all are beside each other
	var chain, beside []api.Vector
	for n := range uint32(20000) {
		chain = append(chain, api.Vector{n, n / 2})
	}
	for n := range uint32(2000) {
		beside = append(beside, api.Vector{n, 2000 - n})
	}
	if got := vector.Tops(chain); !slices.Equal(got, chain[len(chain)-1:]) {
		t.Errorf("%d tops of a chain", len(got))
	}
	backwards := slices.Clone(chain)
	slices.Reverse(backwards)
	if got := vector.Tops(backwards); !slices.Equal(got, backwards[:1]) {
		t.Errorf("%d tops of a chain backwards", len(got))
	}
	if got := vector.Tops(append(beside, beside...)); !slices.Equal(got, beside[:2000]) {
		t.Errorf("%d tops of 2000 beside each other", len(got))
	}
}

// spoil changes a list, and what is after it in its memory.
func spoil(l []api.Vector) {
	l = l[:cap(l)]
	for i := range l {
		l[i] = api.Vector{99, 99}
	}
}

func TestTopsAreNewMemory(t *testing.T) { // R5: of a list's memory nothing is changed, read beyond its end, or returned
	for _, plain := range rows() {
		want := plainTops(plain)
		whole := append(slices.Clone(plain), api.Vector{1<<32 - 1, 77}, api.Vector{3: 1<<32 - 1}, api.Vector{})
		was := slices.Clone(whole)
		l := whole[:len(plain)]
		first, second := vector.Tops(l), vector.Tops(l)
		spoil(first)
		if !slices.Equal(whole, was) {
			t.Fatalf("Tops(%v) shares its memory", plain)
		}
		spoil(whole)
		if !slices.Equal(second, want) {
			t.Fatalf("Tops(%v) shares memory with its list, or with the result before", plain)
		}
	}
}

func TestMergeReadsNoFurther(t *testing.T) { // R5
	for _, plain := range rows() {
		whole := append(slices.Clone(plain), api.Vector{1<<32 - 1, 0, 77})
		was := slices.Clone(whole)
		l := whole[:len(plain)]
		if vector.Merge(l...) != plainMerge(plain) || vector.Meet(l...) != plainMeet(plain) || !slices.Equal(whole, was) {
			t.Fatalf("of %v: read, or changed, what is after it", plain)
		}
	}
}
