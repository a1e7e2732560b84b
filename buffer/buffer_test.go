package buffer_test

import (
	"math"
	"slices"
	"testing"

	"tranter/api"
	"tranter/buffer"
	"tranter/op"
)

func TestExamples(t *testing.T) { // P11.1, P11.2
	a, b, c := genesis(0, 1, 1), genesis(1, 1, 2, 1), genesis(0, 2, 3, 1, 1)
	x := made(t, 2, api.Vector{})
	stands(t, x, api.Vector{})
	if got := put(t, x, c, b); len(got) != 0 {
		t.Error(dotsOf(got))
	}
	stands(t, x, api.Vector{}, b, c)
	if got := put(t, x, a); !sameAll(got, []api.Op{a, b, c}) {
		t.Error(dotsOf(got))
	}
	stands(t, x, api.Vector{2, 1})
	if got := put(t, x, b); len(got) != 0 {
		t.Error(dotsOf(got))
	}
	if got := put(t, x, c, a); len(got) != 0 {
		t.Error(dotsOf(got))
	}
	stands(t, x, api.Vector{2, 1})
}

func TestNew(t *testing.T) { // P11.1: ErrArg for n, and for a vector that is not 0 from n on
	for _, n := range []int{math.MinInt, -256 + 2, -1, 0, 9, 10, 256 + 2, 1<<32 + 2, math.MaxInt} {
		for _, v := range []api.Vector{{}, {1}, {7: 1}} {
			if b, e := buffer.New(n, v); b != nil || e != api.ErrArg {
				t.Errorf("New(%d, %v) is %v, %d", n, v, b, e)
			}
		}
	}
	for n := 1; n <= 8; n++ {
		stands(t, made(t, n, api.Vector{}), api.Vector{})
		for place := range api.MaxReplicas {
			for _, number := range []uint32{1, 1 << 31, math.MaxUint32} {
				var v api.Vector
				v[place] = number
				if place < n {
					stands(t, made(t, n, v), v)
				} else if b, e := buffer.New(n, v); b != nil || e != api.ErrArg {
					t.Errorf("New(%d, %v) is %v, %d", n, v, b, e)
				}
			}
		}
	}
}

func TestNewHandedOn(t *testing.T) { // P11.1: what v covers was handed on
	b := made(t, 3, api.Vector{2, 0, 5})
	if got := put(t, b, genesis(0, 1, 1), genesis(0, 2, 1, 1), genesis(2, 5, 9, 0, 0, 4)); len(got) != 0 {
		t.Error(dotsOf(got))
	}
	stands(t, b, api.Vector{2, 0, 5})
	next, other := genesis(2, 6, 9, 2, 0, 5), genesis(1, 1, 9, 2, 0, 6)
	if got := put(t, b, other); len(got) != 0 {
		t.Error(dotsOf(got))
	}
	stands(t, b, api.Vector{2, 0, 5}, other)
	if got := put(t, b, next); !sameAll(got, []api.Op{next, other}) {
		t.Error(dotsOf(got))
	}
	stands(t, b, api.Vector{2, 1, 6})
}

func TestGreatestNumber(t *testing.T) { // P11.1, R1: nothing comes after the last number
	const most = math.MaxUint32
	last := genesis(1, most, 1, 0, most-1)
	for _, has := range []uint32{most - 2, most - 1, most} {
		b := made(t, 2, api.Vector{0, has})
		got := put(t, b, last)
		switch has {
		case most - 2:
			if len(got) != 0 {
				t.Error(dotsOf(got))
			}
			stands(t, b, api.Vector{0, has}, last)
		case most - 1:
			if !sameAll(got, []api.Op{last}) {
				t.Error(dotsOf(got))
			}
			stands(t, b, api.Vector{0, most})
		case most:
			if len(got) != 0 {
				t.Error(dotsOf(got))
			}
			stands(t, b, api.Vector{0, most})
		}
	}
	b := made(t, 2, api.Vector{0, most})
	a, c := genesis(0, 1, 1, 0, most), genesis(0, 2, 1, 1)
	if got := put(t, b, c, a, last, genesis(1, 1, 1)); !sameAll(got, []api.Op{a, c}) {
		t.Error(dotsOf(got))
	}
	stands(t, b, api.Vector{2, most})
	full := made(t, 8, api.Vector{most, most, most, most, most, most, most, most})
	if got := put(t, full, genesis(7, most, 1, 0, 0, 0, 0, 0, 0, 0, most-1)); len(got) != 0 {
		t.Error(dotsOf(got))
	}
}

func TestPutNothing(t *testing.T) { // P11.1: nothing is put, and nothing handed on
	b := made(t, 2, api.Vector{})
	waits := genesis(0, 2, 1, 1)
	for _, l := range [][]api.Op{nil, {}, {waits}, nil, {}} {
		if got := put(t, b, l...); len(got) != 0 {
			t.Error(dotsOf(got))
		}
	}
	stands(t, b, api.Vector{}, waits)
}

// wrongForms returns operations whose forms are not valid for two replicas; some of their names are those of operations that are known.
func wrongForms() []api.Op {
	a, b, c := genesis(0, 1, 1), genesis(1, 1, 1), genesis(0, 2, 2, 1)
	l := []api.Op{{}, genesis(2, 1, 1), genesis(7, 1, 1), genesis(8, 1, 1), genesis(255, 1, 1), genesis(0, 0, 1), genesis(0, 0, 1, math.MaxUint32), genesis(0, 2, 2), genesis(0, 2, 2, 2), genesis(1, 1, 2, 1, 1), genesis(0, 1, 1, 0, 0, 1), genesis(0, 1, 0), genesis(0, 1, 1<<48+1)}
	a.Who = 0
	b.Kind = 9
	c.Cart = api.Dot{R: 0, N: 1}
	many := submit(0, 18, 9, 17)
	empty := submit(0, 2, 9, 1)
	empty.Lines = nil
	return append(l, a, b, c, many, empty)
}

func TestPutForm(t *testing.T) { // P11.1: ErrForm, wherever in the list, and nothing is changed
	first, waits := genesis(0, 1, 1), genesis(1, 2, 2, 1, 1)
	next, frees := genesis(0, 2, 2, 1), genesis(1, 1, 2, 1)
	for i, wrong := range wrongForms() {
		b := made(t, 2, api.Vector{})
		put(t, b, first, waits)
		for _, l := range [][]api.Op{{wrong}, {wrong, next, frees}, {next, wrong, frees}, {next, frees, wrong}, {wrong, wrong}, {first, waits, wrong}} {
			if got, e := b.Put(l...); len(got) != 0 || e != api.ErrForm {
				t.Errorf("%d, %v: Put(%v) is %v, %d", i, wrong, dotsOf(l), dotsOf(got), e)
			}
			stands(t, b, api.Vector{1}, waits)
		}
		if got := put(t, b, frees); !sameAll(got, []api.Op{frees, waits}) {
			t.Errorf("%d: %v", i, dotsOf(got))
		}
		if got := put(t, b, next); !sameAll(got, []api.Op{next}) {
			t.Errorf("%d: %v", i, dotsOf(got))
		}
	}
}

func TestFormByReplicas(t *testing.T) { // P11.1: the form is checked for the buffer's own number of replicas
	for n := 1; n <= 8; n++ {
		for r := range 8 {
			b := made(t, n, api.Vector{})
			want := api.OK
			if r >= n {
				want = api.ErrForm
			}
			if got, e := b.Put(genesis(uint8(r), 1, 1)); e != want || (len(got) == 1) != (want == api.OK) {
				t.Errorf("of %d, one of %d: %v, %d", n, r, dotsOf(got), e)
			}
			b = made(t, n, api.Vector{})
			o := genesis(0, 1, 1)
			o.Dep[r] = 1
			if r == 0 {
				want = api.ErrForm
			}
			if got, e := b.Put(o); e != want || len(got) != 0 {
				t.Errorf("of %d, a Dep at %d: %v, %d", n, r, dotsOf(got), e)
			}
		}
	}
}

func TestNone(t *testing.T) { // P11.1, P11.2, R1: a nil buffer, and one that no call made
	for _, b := range []*buffer.Buffer{nil, {}, new(buffer.Buffer)} {
		for _, l := range [][]api.Op{nil, {}, {genesis(0, 1, 1)}, {{}}, {genesis(0, 1, 1), genesis(9, 9, 9)}} {
			if got, e := b.Put(l...); len(got) != 0 || e != api.ErrNil {
				t.Errorf("Put(%v) is %v, %d", dotsOf(l), dotsOf(got), e)
			}
		}
		stands(t, b, api.Vector{})
		if c := b.Copy(); c != nil {
			t.Error("a copy of none")
		}
	}
}

func TestSameDot(t *testing.T) { // P11.1: the first one of a dot counts, as long as it waits and when it is handed on
	one, two, three := genesis(0, 2, 5, 1), genesis(0, 2, 1, 1), genesis(0, 2, 9, 1)
	one.Who, two.Who, three.Who = 1, 2, 3
	first := genesis(0, 1, 1)
	b := made(t, 2, api.Vector{})
	put(t, b, one, two)
	put(t, b, three, two)
	stands(t, b, api.Vector{}, one)
	if got := put(t, b, two, first, three); !sameAll(got, []api.Op{first, one}) {
		t.Error(got)
	}
	if got := put(t, b, two, first, three, one); len(got) != 0 {
		t.Error(got)
	}
	stands(t, b, api.Vector{2})

	may, not := genesis(1, 1, 5), genesis(1, 1, 1, 9) // what may be handed on does not displace what came before it
	b = made(t, 2, api.Vector{})
	if got := put(t, b, not, may); len(got) != 0 {
		t.Error(got)
	}
	stands(t, b, api.Vector{}, not)
	b = made(t, 2, api.Vector{})
	if got := put(t, b, may, not); !sameAll(got, []api.Op{may}) {
		t.Error(got)
	}
}

func TestHandedOnInOrder(t *testing.T) { // P11.1: all of a list wait first; the first one in the order of those that may be handed on, again and again
	a, b, c := genesis(2, 1, 3), genesis(0, 1, 5), genesis(1, 1, 3)
	x := made(t, 3, api.Vector{})
	if got := put(t, x, b, a, c); !sameAll(got, []api.Op{c, a, b}) { // by Time, then by R
		t.Error(dotsOf(got))
	}
	late := genesis(0, 1, 9)
	early := genesis(0, 2, 1, 1) // comes earlier in the order than what is before it
	between := genesis(1, 1, 5)
	last := genesis(2, 1, 10)
	x = made(t, 3, api.Vector{})
	if got := put(t, x, last, early, late, between); !sameAll(got, []api.Op{between, late, early, last}) {
		t.Error(dotsOf(got))
	}
	x = made(t, 3, api.Vector{})
	put(t, x, early, genesis(1, 1, 8, 1))
	if got := put(t, x, late, last); !sameAll(got, []api.Op{late, early, genesis(1, 1, 8, 1), last}) {
		t.Error(dotsOf(got))
	}
}

func TestMayBeHandedOn(t *testing.T) { // P11.1: the next dot of its replica, and a Dep that is covered, at each replica
	for r := range uint8(8) {
		for other := range uint8(8) {
			if other == r {
				continue
			}
			o := genesis(r, 3, 1)
			o.Dep[r], o.Dep[other] = 2, 4
			for own := range uint32(5) {
				for number := range uint32(7) {
					var v api.Vector
					v[r], v[other] = own, number
					b := made(t, 8, v)
					got := put(t, b, o)
					if own == 2 && number >= 4 {
						v[r] = 3
						if !sameAll(got, []api.Op{o}) {
							t.Errorf("%v with %v: %v", o.Dot, v, dotsOf(got))
						}
						stands(t, b, v)
						continue
					}
					if len(got) != 0 {
						t.Errorf("%v with %v: %v", o.Dot, v, dotsOf(got))
					}
					if own >= 3 {
						stands(t, b, v)
					} else {
						stands(t, b, v, o)
					}
				}
			}
		}
	}
}

func TestWaits(t *testing.T) { // P11.2: by Time, then by R, then by N, however they were put
	l := []api.Op{genesis(1, 3, 1, 0, 2), genesis(0, 4, 2, 3), genesis(0, 5, 2, 4), genesis(2, 2, 2, 0, 0, 1), genesis(1, 2, 7, 0, 1), submit(0, 3, 8, 2)}
	roll := dice(2)
	for range 50 {
		b := made(t, 3, api.Vector{})
		for _, o := range shuffled(l, roll) {
			put(t, b, o)
		}
		stands(t, b, api.Vector{}, l...)
		stands(t, b, api.Vector{}, l...)
	}
}

func TestCopy(t *testing.T) { // P11.2: as the buffer is then; what is done to one does not affect the other one
	first, waits, other := genesis(0, 1, 1), genesis(0, 2, 2, 1), genesis(1, 2, 2, 0, 1)
	for _, swapped := range []bool{false, true} {
		a := made(t, 2, api.Vector{})
		put(t, a, waits)
		b := a.Copy()
		stands(t, b, api.Vector{}, waits)
		if swapped {
			a, b = b, a
		}
		put(t, a, other)
		stands(t, b, api.Vector{}, waits)
		if got := put(t, a, first); !sameAll(got, []api.Op{first, waits}) {
			t.Error(dotsOf(got))
		}
		stands(t, a, api.Vector{2}, other)
		stands(t, b, api.Vector{}, waits)
		if got := put(t, b, first); !sameAll(got, []api.Op{first, waits}) {
			t.Error(dotsOf(got))
		}
		stands(t, b, api.Vector{2})
		if _, e := b.Put(genesis(2, 1, 1)); e != api.ErrForm {
			t.Error("a copy has another number of replicas")
		}
		stands(t, a.Copy().Copy(), api.Vector{2}, other)
	}
}

// pair is a buffer and a plain one that the same is done to.
type pair struct {
	b *buffer.Buffer
	p *plain
}

// put puts the operations into both, and returns how many were handed on.
func (x pair) put(t *testing.T, l []api.Op) (int, api.Errno) {
	t.Helper()
	want, wantE := x.p.put(l)
	got, e := x.b.Put(l...)
	if e != wantE || !sameAll(got, want) {
		t.Fatalf("Put(%v) is %v, %d, want %v, %d", l, dotsOf(got), e, dotsOf(want), wantE)
	}
	if has := x.b.Has(); has != x.p.has {
		t.Fatalf("Has is %v, want %v", has, x.p.has)
	}
	if waits := x.b.Waits(); !sameAll(waits, x.p.sorted()) {
		t.Fatalf("Waits is %v, want %v", dotsOf(waits), dotsOf(x.p.sorted()))
	}
	return len(got), e
}

func TestAny(t *testing.T) { // P11.1, P11.2, R4: the same is done to buffers, their copies, and plain ones
	roll := dice(1)
	handed, forms, left, copies := 0, 0, 0, 0
	for range 2500 {
		n := 1 + roll(8)
		var v api.Vector
		for r := range n {
			v[r] = uint32(roll(3) * roll(2))
		}
		all := []pair{{made(t, n, v), &plain{n: n, has: v}}}
		for range 14 {
			x := all[roll(len(all))]
			if roll(5) == 0 {
				all = append(all, pair{x.b.Copy(), x.p.copy()})
				copies++
			}
			l := anyOps(n, roll(5), roll)
			if roll(8) == 0 {
				wrong := wrongForms()
				l = append(l, wrong[roll(len(wrong))])
				l = shuffled(l, roll)
			}
			count, e := x.put(t, l)
			handed += count
			if e == api.ErrForm {
				forms++
			}
		}
		for _, x := range all {
			x.put(t, nil)
			left += len(x.p.waits)
		}
	}
	if handed < 10000 || forms < 1000 || left < 10000 || copies < 1000 {
		t.Errorf("of the samples: %d handed on, %d forms, %d left, %d copies", handed, forms, left, copies)
	}
}

// deep returns the list with lines of its own.
func deep(l []api.Op) []api.Op {
	l = slices.Clone(l)
	for i := range l {
		l[i].Lines = slices.Clone(l[i].Lines)
	}
	return l
}

// spoil changes all of a list, and what is behind it in its memory.
func spoil(l []api.Op) {
	l = l[:cap(l)]
	for i := range l {
		lines := l[i].Lines[:cap(l[i].Lines)]
		for j := range lines {
			lines[j].Line.N += 1000
		}
		l[i].Who += 1000
	}
}

func TestMemory(t *testing.T) { // R5: arguments stay, also behind their ends, and are not kept; answers are new, in all their parts
	var valid []api.Op
	for number := uint32(1); number <= 12; number++ {
		o := genesis(0, number, uint64(number), number-1)
		if number > 1 {
			o = submit(0, number, uint64(number), number-1)
		}
		valid = append(valid, o)
	}
	want := deep(valid)
	memory := deep(append(valid, genesis(9, 9, 9), submit(7, 5, 5))) // two that are behind the argument's end
	was := deep(memory)
	for i := range memory {
		memory[i].Lines = append(memory[i].Lines, api.Claim{Line: api.Dot{N: 77}})
		memory[i].Lines = memory[i].Lines[:len(memory[i].Lines)-1]
	}
	b := made(t, 1, api.Vector{})
	put(t, b, memory[1:12]...)
	if !sameAll(memory, was) || memory[4].Lines[:5][4].Line.N != 77 {
		t.Fatal("an argument was changed")
	}
	spoil(memory)
	stands(t, b, api.Vector{}, want[1:]...)
	spoil(b.Waits())
	stands(t, b, api.Vector{}, want[1:]...)

	c, first := b.Copy(), memory[0]
	first.Who, first.Lines = 1, nil
	one, waits := put(t, b, first), c.Waits()
	other := put(t, c, first)
	if !sameAll(one, want) || !sameAll(other, want) || !sameAll(waits, want[1:]) {
		t.Fatal("not as they were put")
	}
	spoil(one)
	if !sameAll(other, want) || !sameAll(waits, want[1:]) {
		t.Error("two answers share memory")
	}
	for i := range other {
		spoil(other[i : i+1 : i+1])
		if !sameAll(other[i+1:], want[i+1:]) {
			t.Fatal("two operations of an answer share lines")
		}
	}
}

func TestArgumentsStay(t *testing.T) { // R5: also where what is handed on comes in another order, and where the form is not valid
	for _, wrong := range []api.Op{genesis(9, 9, 9), genesis(1, 3, 9, 0, 2)} {
		memory := []api.Op{submit(0, 3, 3, 2), submit(0, 2, 2, 1), wrong, genesis(0, 1, 1), genesis(1, 1, 1), submit(1, 2, 2, 0, 1)}
		was := deep(memory)
		b := made(t, 2, api.Vector{})
		b.Put(memory[:3]...)
		b.Put(memory[:4]...)
		b.Put(memory[3:4]...)
		if !sameAll(memory, was) {
			t.Errorf("with %v: an argument was changed: %v", wrong.Dot, memory)
		}
	}
}

func TestHandedOnSharesNothing(t *testing.T) { // R5, P11.2: what is handed on by a buffer waits in its copy still
	waits := submit(0, 2, 2, 1)
	b := made(t, 1, api.Vector{})
	put(t, b, waits)
	c := b.Copy()
	spoil(put(t, b, genesis(0, 1, 1)))
	stands(t, c, api.Vector{}, submit(0, 2, 2, 1))
	if got := put(t, c, genesis(0, 1, 1)); len(got) != 2 || !op.Same(got[1], submit(0, 2, 2, 1)) {
		t.Error(got)
	}
}
