package frame_test

import (
	"math"
	"reflect"
	"slices"
	"testing"

	"tranter/api"
	"tranter/frame"
)

const greatest = math.MaxUint32

// digest and delta return valid frames, with all numbers different.
func digest() api.Frame {
	return api.Frame{Kind: api.FrDigest, From: 5, To: 3, Have: api.Vector{1, 2, 127, 128, 256, 65536, 1 << 31, greatest}}
}

func delta(ops ...api.Op) api.Frame {
	f := digest()
	f.Kind, f.Ops = api.FrDelta, ops
	return f
}

// operation returns one whose Time is that number, with so many lines.
func operation(time uint64, lines int) api.Op {
	o := api.Op{Dot: api.Dot{R: 1, N: 5}, Dep: api.Vector{7, 4, 2}, Time: time, Who: 6, Cart: api.Dot{N: 1}, Kind: api.KdSubmit, Cred: api.Dot{R: 2, N: 2}}
	for i := range lines {
		o.Lines = append(o.Lines, api.Claim{Line: api.Dot{N: uint32(i + 1)}, Version: api.Dot{R: 2, N: 1}})
	}
	return o
}

// operations returns count of them, no two of which are equal, with 0 to 16 lines.
func operations(count int) []api.Op {
	var l []api.Op
	for i := range count {
		l = append(l, operation(uint64(i+1), i%17))
	}
	return l
}

// greatestOp returns the operation whose encoding is the longest one: no operation of that form is valid.
func greatestOp() api.Op {
	d := api.Dot{R: math.MaxUint8, N: greatest}
	o := api.Op{Dot: d, Time: math.MaxUint64, Who: greatest, Cart: d, Kind: 255, Cred: d, To: greatest, Roles: 255, Depth: 255, Cap: math.MaxUint64, At: d, Version: d, Item: greatest, Qty: greatest, Price: greatest}
	for r := range o.Dep {
		o.Dep[r] = greatest
	}
	o.Lines = slices.Repeat([]api.Claim{{Line: d, Version: d}}, 16)
	return o
}

// plainMay is the chapter's definition, written out.
func plainMay(f api.Frame) bool {
	for _, o := range f.Ops {
		if len(o.Lines) > 16 {
			return false
		}
	}
	switch {
	case f.From > 7 || f.To > 7 || f.From == f.To:
		return false
	case f.Kind == 0:
		return len(f.Ops) == 0
	case f.Kind == 1:
		return len(f.Ops) <= 64
	}
	return false
}

// is says whether the frame must be valid, for May and for Put.
func is(t *testing.T, what string, f api.Frame, want bool) {
	t.Helper()
	if got := frame.May(f); got != want {
		t.Errorf("%s: May is %v", what, got)
	}
	b, e := frame.Put(f)
	if want && (b != plainPut(f) || e != api.OK) {
		t.Errorf("%s: Put is %x, %d, want %x", what, b, e, plainPut(f))
	}
	if !want && (b != "" || e != api.ErrArg) {
		t.Errorf("%s: Put is %x, %d, want ErrArg", what, b, e)
	}
}

func TestMayOfEachKind(t *testing.T) { // P6.1
	for kind := range 256 {
		f := digest()
		f.Kind = uint8(kind)
		is(t, "no operations", f, kind <= 1)
		f.Ops = operations(1)
		is(t, "an operation", f, kind == 1)
	}
}

func TestMayOfReplicas(t *testing.T) { // P6.1: each number that From and To can have
	for from := range 256 {
		for to := range 256 {
			want := from <= 7 && to <= 7 && from != to
			for _, f := range []api.Frame{digest(), delta(), delta(operation(1, 1))} {
				f.From, f.To = uint8(from), uint8(to)
				if got := frame.May(f); got != want {
					t.Fatalf("May of the kind %d from %d to %d is %v", f.Kind, from, to, got)
				}
				if b, e := frame.Put(f); (e == api.OK) != want || (b != "") != want || e != api.OK && e != api.ErrArg {
					t.Fatalf("Put of the kind %d from %d to %d is %x, %d", f.Kind, from, to, b, e)
				}
			}
		}
	}
}

func TestMayOfAnyHave(t *testing.T) { // P6.1: nothing is asked of Have, or of a replica's own place in it
	for place := range 8 {
		for _, known := range []uint32{0, 1, 127, 128, 1 << 31, greatest} {
			for _, f := range []api.Frame{{From: 7}, {Kind: api.FrDelta, To: 7}} {
				f.Have[place] = known
				is(t, "Have", f, true)
			}
		}
	}
}

func TestMayOfNumbersOfOps(t *testing.T) { // P6.1: a delta has at most 64, a digest none, an empty list is none
	for count := range 200 {
		f := delta(operations(count)...)
		is(t, "a delta", f, count <= 64)
		f.Kind = api.FrDigest
		is(t, "a digest", f, count == 0)
	}
	for _, count := range []int{256, 257, 320, 1 << 16, 1<<16 + 1, 1 << 18} {
		f := delta(make([]api.Op, count)...)
		is(t, "many", f, false)
		f.Ops = f.Ops[:64]
		is(t, "a delta, with others after them", f, true)
		f.Kind = api.FrDigest
		is(t, "a digest", f, false)
		f.Ops = f.Ops[:0]
		is(t, "a digest, with others after none", f, true)
		f.Kind = api.FrDelta
		is(t, "a delta, with others after none", f, true)
	}
}

func TestMayOfNumbersOfLines(t *testing.T) { // P6.1: of each operation, wherever it is
	for lines := range 40 {
		is(t, "one operation", delta(operation(1, lines)), lines <= 16)
	}
	for _, lines := range []int{255, 256, 257, 272, 1 << 16, 1<<16 + 1} {
		is(t, "one operation", delta(api.Op{Lines: make([]api.Claim, lines)}), false)
	}
	for _, count := range []int{1, 2, 3, 63, 64} {
		for place := range count {
			f := delta(operations(count)...)
			f.Ops[place] = operation(1, 16)
			is(t, "16 lines", f, true)
			f.Ops[place] = operation(1, 17)
			is(t, "17 lines", f, false)
			f.Kind = api.FrDigest
			is(t, "a digest", f, false)
		}
	}
	o := operation(1, 17)
	o.Lines = o.Lines[:16]
	is(t, "16 lines, with others after them", delta(o), true)
	o.Lines = []api.Claim{}
	is(t, "an empty list", delta(o), true)
}

func TestMayOfAnyForm(t *testing.T) { // P6.1: of an operation's form the number of its lines alone is asked, and dots may occur twice, in any order
	wrong := []api.Op{{}, {Kind: 9}, {Kind: 255}, {Dot: api.Dot{R: 8, N: 1}}, {Lines: make([]api.Claim, 2)}, greatestOp()}
	for _, o := range wrong {
		is(t, "one", delta(o), true)
		is(t, "twice", delta(o, o), true)
	}
	is(t, "all", delta(wrong...), true)
	slices.Reverse(wrong)
	is(t, "reversed", delta(wrong...), true)
	is(t, "64 of the longest", delta(slices.Repeat([]api.Op{greatestOp()}, 64)...), true)
}

func TestMayAny(t *testing.T) { // P6.1
	counts := []int{0, 0, 1, 2, 63, 64, 65}
	lines := []int{0, 1, 15, 16, 17}
	roll := dice(1)
	valid := 0
	for range 20000 {
		f := api.Frame{Kind: uint8(roll(3)), From: uint8(roll(9)), To: uint8(roll(9)), Have: digest().Have}
		f.Ops = make([]api.Op, counts[roll(len(counts))])
		if len(f.Ops) > 0 && roll(2) == 0 {
			f.Ops[roll(len(f.Ops))] = operation(1, lines[roll(len(lines))])
		}
		want := plainMay(f)
		if want {
			valid++
		}
		if got := frame.May(f); got != want {
			t.Fatalf("May of the kind %d from %d to %d with %d operations is %v", f.Kind, f.From, f.To, len(f.Ops), got)
		}
		if _, e := frame.Put(f); (e == api.OK) != want {
			t.Fatalf("Put of the kind %d from %d to %d with %d operations is %d", f.Kind, f.From, f.To, len(f.Ops), e)
		}
	}
	if valid < 2000 || valid > 18000 {
		t.Errorf("%d samples are valid", valid)
	}
}

// dice returns numbers below what it is passed, always the same ones for one seed.
func dice(seed uint64) func(below int) int {
	return func(below int) int {
		seed = seed*6364136223846793005 + 1442695040888963407
		return int(seed>>33) % below
	}
}

// plainSame compares all that frames have: an empty list is the same as none.
func plainSame(a, b api.Frame) bool {
	return reflect.DeepEqual(filled(a), filled(b))
}

// filled returns the frame with an empty list wherever it has nil.
func filled(f api.Frame) api.Frame {
	f.Ops = append([]api.Op{}, f.Ops...)
	for i, o := range f.Ops {
		f.Ops[i].Lines = append([]api.Claim{}, o.Lines...)
	}
	return f
}

// different returns frames, valid and not, no two of which are equal: each differs in one thing from another one.
func different() []api.Frame {
	l := []api.Frame{{}, {Kind: 255, From: 255, To: 255}, {Ops: operations(65)}, {Ops: []api.Op{operation(1, 17)}}}
	for _, kind := range []uint8{api.FrDigest, api.FrDelta, 2} {
		for _, count := range []int{0, 1, 3, 64} {
			f := api.Frame{Kind: kind, From: 1, To: 2, Have: api.Vector{9, 9, 9, 9, 9, 9, 9, 9}, Ops: operations(count)}
			l = append(l, f)
			add := func(turn func(f *api.Frame)) {
				g := f
				g.Ops = operations(count)
				turn(&g)
				l = append(l, g)
			}
			add(func(f *api.Frame) { f.From = 3 })
			add(func(f *api.Frame) { f.To = 3 })
			add(func(f *api.Frame) { f.From, f.To = f.To, f.From })
			for place := range 8 {
				add(func(f *api.Frame) { f.Have[place] = 8 })
			}
			if count == 1 {
				add(func(f *api.Frame) { f.Ops = slices.Repeat(f.Ops, 2) })
			}
			for place := range min(count, 3) {
				add(func(f *api.Frame) { f.Ops[place].Who++ })
				add(func(f *api.Frame) { f.Ops[place].Dot.N++ })
				add(func(f *api.Frame) { f.Ops[place] = operation(uint64(place+1), 15) })
				add(func(f *api.Frame) { f.Ops[place] = operation(uint64(place+1), 17) })
			}
			if count == 3 {
				add(func(f *api.Frame) { f.Ops[0], f.Ops[1] = f.Ops[1], f.Ops[0] })
				add(func(f *api.Frame) { f.Ops[2].Lines[1].Version.N++ })
			}
		}
	}
	return l
}

func TestSame(t *testing.T) { // P6.2
	l := different()
	for i, a := range l {
		for j, b := range l {
			if plainSame(a, b) != (i == j) {
				t.Fatalf("the test's own frames %d and %d", i, j)
			}
			if got := frame.Same(a, b); got != (i == j) {
				t.Errorf("Same of %+v and %+v is %v", a, b, got)
			}
		}
		if again := filled(a); !frame.Same(a, again) || !frame.Same(again, a) {
			t.Errorf("%+v is not the same as itself", a)
		}
	}
}

func TestSameLists(t *testing.T) { // P6.2, R1: nil and empty lists are the same, of frames and of their operations
	a, b := delta(), delta(operations(1)[:0]...)
	if a.Ops != nil || b.Ops == nil || !frame.Same(a, b) || !frame.Same(b, a) {
		t.Error("of a frame")
	}
	a, b = delta(operation(1, 0)), delta(operation(1, 1))
	b.Ops[0].Lines = b.Ops[0].Lines[:0]
	if !frame.Same(a, b) || !frame.Same(b, a) {
		t.Error("of an operation")
	}
	for count := range 66 {
		a, b := delta(operations(count)...), delta(operations(count+1)...)
		if frame.Same(a, b) || frame.Same(b, a) {
			t.Errorf("%d operations, and one more", count)
		}
		b.Ops = b.Ops[:count]
		if !frame.Same(a, b) || !frame.Same(b, a) {
			t.Errorf("%d operations, with others after them", count)
		}
	}
}

func TestArgumentsStay(t *testing.T) { // R4, R5: nor is what is after them in their memory changed
	for _, count := range []int{0, 1, 5, 64, 65} {
		memory, was := operations(80), operations(80)
		f := delta(memory[:count]...)
		bytes, e := frame.Put(f)
		for range 2 {
			again, e2 := frame.Put(f)
			if again != bytes || e2 != e || frame.May(f) != (count <= 64) || !frame.Same(f, f) {
				t.Errorf("%d operations: another result", count)
			}
		}
		if !plainSame(delta(memory...), delta(was...)) {
			t.Errorf("%d operations: changed", count)
		}
	}
}
