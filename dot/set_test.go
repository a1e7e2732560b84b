package dot_test

import (
	"math"
	"slices"
	"testing"

	"tranter/api"
	"tranter/dot"
)

// operations returns the four calls, by their names; Sort does not look at its second list.
func operations() map[string]func(a, b []api.Dot) []api.Dot {
	return map[string]func(a, b []api.Dot) []api.Dot{
		"Sort":  func(a, _ []api.Dot) []api.Dot { return dot.Sort(a) },
		"Union": dot.Union,
		"Both":  dot.Both,
		"Minus": dot.Minus,
	}
}

// plainSet returns, of the dots of all, in increasing order, those that are to be in the set.
func plainSet(all []api.Dot, is func(d api.Dot) bool) []api.Dot {
	var l []api.Dot
	for _, d := range all {
		at := 0
		for at < len(l) && plainCompare(l[at], d) < 0 {
			at++
		}
		if is(d) && (at == len(l) || l[at] != d) {
			l = slices.Insert(l, at, d)
		}
	}
	return l
}

// plainResult is the chapter's definition of what a call returns, written out.
func plainResult(name string, a, b []api.Dot) []api.Dot {
	inA := func(d api.Dot) bool { return slices.Contains(a, d) }
	inB := func(d api.Dot) bool { return slices.Contains(b, d) }
	all := append(slices.Clone(a), b...)
	switch name {
	case "Sort":
		return plainSet(all, inA)
	case "Union":
		return plainSet(all, func(d api.Dot) bool { return inA(d) || inB(d) })
	case "Both":
		return plainSet(all, func(d api.Dot) bool { return inA(d) && inB(d) })
	}
	return plainSet(all, func(d api.Dot) bool { return inA(d) && !inB(d) })
}

// lists returns nil and empty ones, ones in order and not, with a dot twice, with dots that are not valid, and irregular ones.
func lists() [][]api.Dot {
	least, most := api.Dot{}, api.Dot{R: 255, N: math.MaxUint32}
	l := [][]api.Dot{
		nil, {},
		{least}, {most}, {{R: 1, N: 1}}, {{R: 1, N: 2}},
		{{R: 1, N: 1}, {R: 1, N: 2}}, {{R: 1, N: 2}, {R: 1, N: 1}},
		{{R: 2, N: 1}, {R: 1, N: 2}, {R: 2, N: 1}},
		{{R: 1, N: 1}, {R: 1, N: 1}, {R: 1, N: 1}},
		{{R: 2, N: 2}, {R: 0, N: 9}, {R: 2, N: 1}, {R: 0, N: 9}},
		{{R: 2, N: 1}, {R: 1, N: 1}},
		{{R: 8, N: 1}, {R: 7, N: 1}, {R: 7, N: 0}, {R: 8, N: 0}, {R: 8, N: 1}},
		{most, least, most, least},
		{{R: 255}, {N: math.MaxUint32}, {R: 128, N: 1 << 31}, {R: 127, N: 1<<31 - 1}, {R: 0, N: 1 << 31}},
	}
	seed := uint32(1)
	for n := range 20 {
		var irregular []api.Dot
		for range n * 3 {
			seed = seed*1664525 + 1013904223
			irregular = append(irregular, api.Dot{R: uint8(seed >> 8 % 10), N: seed >> 16 % 6})
		}
		l = append(l, irregular)
	}
	return l
}

func TestSetsKnown(t *testing.T) { // P3.4
	a := []api.Dot{{R: 2, N: 2}, {R: 0, N: 9}, {R: 2, N: 1}, {R: 0, N: 9}}
	b := []api.Dot{{R: 2, N: 1}, {R: 1, N: 1}}
	known := map[string][]api.Dot{
		"Sort":  {{R: 0, N: 9}, {R: 2, N: 1}, {R: 2, N: 2}},
		"Union": {{R: 0, N: 9}, {R: 1, N: 1}, {R: 2, N: 1}, {R: 2, N: 2}},
		"Both":  {{R: 2, N: 1}},
		"Minus": {{R: 0, N: 9}, {R: 2, N: 2}},
	}
	for name, call := range operations() {
		if got := call(a, b); !slices.Equal(got, known[name]) {
			t.Errorf("%s = %v, want %v", name, got, known[name])
		}
	}
	if got := dot.Minus([]api.Dot{{R: 1, N: 1}, {R: 1, N: 2}}, []api.Dot{{R: 1, N: 2}}); !slices.Equal(got, []api.Dot{{R: 1, N: 1}}) {
		t.Errorf("Minus = %v", got)
	}
}

func TestSetsOfNothing(t *testing.T) { // P3.4, R1: nil and empty lists are the same
	some := []api.Dot{{R: 2, N: 1}, {R: 1, N: 1}}
	sorted := []api.Dot{{R: 1, N: 1}, {R: 2, N: 1}}
	for _, none := range [][]api.Dot{nil, {}, make([]api.Dot, 0, 5)} {
		if got := dot.Sort(none); len(got) != 0 {
			t.Errorf("Sort = %v", got)
		}
		for name, call := range operations() {
			if got := call(none, none); len(got) != 0 {
				t.Errorf("%s of nothing = %v", name, got)
			}
		}
		if got := dot.Union(none, some); !slices.Equal(got, sorted) {
			t.Errorf("Union with nothing first = %v", got)
		}
		if got := dot.Union(some, none); !slices.Equal(got, sorted) {
			t.Errorf("Union = %v", got)
		}
		if got := dot.Both(some, none); len(got) != 0 {
			t.Errorf("Both = %v", got)
		}
		if got := dot.Both(none, some); len(got) != 0 {
			t.Errorf("Both with nothing first = %v", got)
		}
		if got := dot.Minus(some, none); !slices.Equal(got, sorted) {
			t.Errorf("Minus = %v", got)
		}
		if got := dot.Minus(none, some); len(got) != 0 {
			t.Errorf("Minus with nothing first = %v", got)
		}
	}
}

func TestSets(t *testing.T) { // P3.4, R4, R5: what they return, again too; and nothing is changed
	for _, a := range lists() {
		for _, b := range lists() {
			wasA, wasB := slices.Clone(a), slices.Clone(b)
			for name, call := range operations() {
				want := plainResult(name, a, b)
				for range 3 {
					if got := call(a, b); !slices.Equal(got, want) {
						t.Fatalf("%s(%v, %v) = %v, want %v", name, a, b, got, want)
					}
				}
				if !slices.Equal(a, wasA) || !slices.Equal(b, wasB) {
					t.Fatalf("%s changed %v, %v to %v, %v", name, wasA, wasB, a, b)
				}
			}
		}
	}
}

// shortLists returns all lists of up to three dots out of four: two of one replica, one of another one, and one that is not valid.
func shortLists() [][]api.Dot {
	l := [][]api.Dot{nil}
	for at := 0; at < len(l); at++ {
		if len(l[at]) == 3 {
			break
		}
		for _, d := range []api.Dot{{R: 1, N: 2}, {R: 1, N: 1}, {R: 0, N: 2}, {R: 9}} {
			l = append(l, append(slices.Clone(l[at]), d))
		}
	}
	return l
}

func TestSetsOfShortLists(t *testing.T) { // P3.4: all of them
	all := shortLists()
	if len(all) != 1+4+16+64 {
		t.Fatalf("%d lists", len(all))
	}
	for _, a := range all {
		for _, b := range all {
			for name, call := range operations() {
				if got, want := call(a, b), plainResult(name, a, b); !slices.Equal(got, want) {
					t.Fatalf("%s(%v, %v) = %v, want %v", name, a, b, got, want)
				}
			}
		}
	}
}

func TestSetsOfOneListTwice(t *testing.T) { // P3.4: both arguments may be the same memory
	for _, l := range lists() {
		was := slices.Clone(l)
		for name, call := range operations() {
			if got, want := call(l, l), plainResult(name, was, was); !slices.Equal(got, want) || !slices.Equal(l, was) {
				t.Errorf("%s(%v, itself) = %v, want %v", name, was, got, want)
			}
		}
		for cut := range len(l) + 1 {
			for name, call := range operations() {
				if got, want := call(l[cut:], l[:cut]), plainResult(name, was[cut:], was[:cut]); !slices.Equal(got, want) || !slices.Equal(l, was) {
					t.Errorf("%s of parts of %v, cut at %d = %v, want %v", name, was, cut, got, want)
				}
			}
		}
	}
}

func TestSetsOfWrongDots(t *testing.T) { // P3.4: any R, any N is in a set
	every := everyDot(0, 1, math.MaxUint32)
	backwards := slices.Clone(every)
	slices.Reverse(backwards)
	if got := dot.Sort(backwards); !slices.Equal(got, every) {
		t.Errorf("%d dots are sorted to %d", len(every), len(got))
	}
	if got := dot.Union(backwards[:300], backwards[200:]); !slices.Equal(got, every) {
		t.Errorf("%d dots are joined to %d", len(every), len(got))
	}
	if got := dot.Both(backwards, every[100:200]); !slices.Equal(got, every[100:200]) {
		t.Errorf("%d dots are in both", len(got))
	}
	if got := dot.Minus(backwards, every[100:]); !slices.Equal(got, every[:100]) {
		t.Errorf("%d dots are left", len(got))
	}
}

func TestSetsOfManyDots(t *testing.T) { // P3.4
	low, _ := dot.Range(3, 1, 65536)
	high, _ := dot.Range(3, 65537, 2*65536)
	middle, _ := dot.Range(3, 32769, 32768+65536)
	mixed := append(slices.Clone(high), low...)
	slices.Reverse(mixed)
	mixed = append(mixed, low...)
	whole := append(slices.Clone(low), high...)
	if got := dot.Sort(mixed); !slices.Equal(got, whole) {
		t.Errorf("Sort: %d dots", len(got))
	}
	if got := dot.Union(mixed, middle); !slices.Equal(got, whole) {
		t.Errorf("Union: %d dots", len(got))
	}
	if got := dot.Both(mixed, middle); !slices.Equal(got, middle) {
		t.Errorf("Both: %d dots", len(got))
	}
	if got := dot.Minus(mixed, middle); !slices.Equal(got, append(slices.Clone(low[:32768]), high[32768:]...)) {
		t.Errorf("Minus: %d dots", len(got))
	}
}

func TestSetsTogether(t *testing.T) { // P3.5, and what follows of it
	for _, a := range lists() {
		for _, b := range lists() {
			all := dot.Sort(a)
			both, minus, union := dot.Both(a, b), dot.Minus(a, b), dot.Union(a, b)
			if got := dot.Union(both, minus); !slices.Equal(got, all) {
				t.Fatalf("of %v and %v: both %v and minus %v are not %v", a, b, both, minus, all)
			}
			if got := dot.Both(both, minus); len(got) != 0 || len(both)+len(minus) != len(all) {
				t.Fatalf("of %v and %v: %v is in both, and in minus", a, b, got)
			}
			if got := dot.Sort(append(slices.Clone(minus), b...)); !slices.Equal(got, union) || len(union) != len(minus)+len(dot.Sort(b)) {
				t.Fatalf("of %v and %v: minus %v and b are not %v", a, b, minus, union)
			}
			if !slices.Equal(union, dot.Union(b, a)) || !slices.Equal(both, dot.Both(b, a)) {
				t.Fatalf("of %v and %v: another result the other way round", a, b)
			}
		}
	}
}

// spoil changes a list, and what is after it in its memory.
func spoil(l []api.Dot) {
	l = l[:cap(l)]
	for i := range l {
		l[i] = api.Dot{R: 99, N: 99}
	}
}

// longer returns a list that has other dots after it in its memory, and these with it.
func longer(l []api.Dot) (list, whole []api.Dot) {
	whole = append(slices.Clone(l), api.Dot{R: 55, N: 5}, api.Dot{R: 1, N: 1}, api.Dot{R: 44, N: 4})
	return whole[:len(l)], whole
}

func TestSetsAreNewMemory(t *testing.T) { // R5: of all lists' memory none is changed, read beyond its end, or returned
	for _, plainA := range lists() {
		for _, plainB := range lists() {
			a, wholeA := longer(plainA)
			b, wholeB := longer(plainB)
			wasA, wasB := slices.Clone(wholeA), slices.Clone(wholeB)
			for name, call := range operations() {
				got := call(a, b)
				want := plainResult(name, plainA, plainB)
				if !slices.Equal(got, want) {
					t.Fatalf("%s(%v, %v) = %v, want %v", name, a, b, got, want)
				}
				again := call(a, b)
				spoil(got)
				if !slices.Equal(wholeA, wasA) || !slices.Equal(wholeB, wasB) {
					t.Fatalf("%s(%v, %v) shares its memory", name, plainA, plainB)
				}
				spoil(wholeA)
				spoil(wholeB)
				if !slices.Equal(again, want) {
					t.Fatalf("%s(%v, %v) shares memory with a list, or with the result before", name, plainA, plainB)
				}
				copy(wholeA, wasA)
				copy(wholeB, wasB)
			}
		}
	}
}
