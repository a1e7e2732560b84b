package buffer_test

import (
	"slices"
	"testing"

	"tranter/api"
	"tranter/buffer"
	"tranter/op"
)

// genesis returns an operation of the name and the time, whose Dep begins with the numbers.
func genesis(r uint8, n uint32, time uint64, dep ...uint32) api.Op {
	d := api.Dot{R: r, N: n}
	o := api.Op{Dot: d, Time: time, Who: 1, Cart: d}
	copy(o.Dep[:], dep)
	return o
}

// submit returns an operation as genesis does, that has as many lines as its Dep covers of the preceding ones of its replica, which must be 1 to 16.
func submit(r uint8, n uint32, time uint64, dep ...uint32) api.Op {
	o := genesis(r, n, time, dep...)
	first := api.Dot{R: r, N: 1}
	o.Kind, o.Cart, o.Cred = api.KdSubmit, first, first
	for number := uint32(1); number < n; number++ {
		o.Lines = append(o.Lines, api.Claim{Line: api.Dot{R: r, N: number}, Version: first})
	}
	return o
}

// plain is a buffer by the chapter's words: what waits is a list, all of which is searched each time.
type plain struct {
	n     int
	has   api.Vector
	waits []api.Op
}

func (p *plain) put(l []api.Op) ([]api.Op, api.Errno) {
	for _, o := range l {
		if op.Check(o, p.n) != api.OK {
			return nil, api.ErrForm
		}
	}
	for _, o := range l {
		if o.Dot.N > p.has[o.Dot.R] && !slices.Contains(dotsOf(p.waits), o.Dot) {
			p.waits = append(p.waits, o)
		}
	}
	var handed []api.Op
	for {
		place := -1
		for i, o := range p.waits {
			if p.may(o) && (place < 0 || plainCompare(o, p.waits[place]) < 0) {
				place = i
			}
		}
		if place < 0 {
			return handed, api.OK
		}
		o := p.waits[place]
		p.has[o.Dot.R]++
		handed = append(handed, o)
		p.waits = slices.Delete(slices.Clone(p.waits), place, place+1)
	}
}

func (p *plain) may(o api.Op) bool {
	for r, number := range o.Dep {
		if number > p.has[r] {
			return false
		}
	}
	return o.Dot.N == p.has[o.Dot.R]+1
}

func (p *plain) sorted() []api.Op {
	return slices.SortedFunc(slices.Values(p.waits), plainCompare)
}

func (p *plain) copy() *plain {
	return &plain{n: p.n, has: p.has, waits: slices.Clone(p.waits)}
}

// plainCompare is the order by layer 10's words.
func plainCompare(a, b api.Op) int {
	x := []uint64{a.Time, uint64(a.Dot.R), uint64(a.Dot.N)}
	y := []uint64{b.Time, uint64(b.Dot.R), uint64(b.Dot.N)}
	return slices.Compare(x, y)
}

// dotsOf returns the names of the operations.
func dotsOf(l []api.Op) []api.Dot {
	var dots []api.Dot
	for _, o := range l {
		dots = append(dots, o.Dot)
	}
	return dots
}

// sameAll says whether two lists have the same operations, in the same order.
func sameAll(a, b []api.Op) bool {
	return slices.EqualFunc(a, b, op.Same)
}

// dice returns numbers below what it is passed, always the same ones for one seed.
func dice(seed uint64) func(below int) int {
	return func(below int) int {
		seed = seed*6364136223846793005 + 1442695040888963407
		return int(seed>>33) % below
	}
}

// shuffled returns the operations in another order.
func shuffled(l []api.Op, roll func(below int) int) []api.Op {
	l = slices.Clone(l)
	for i := len(l) - 1; i > 0; i-- {
		j := roll(i + 1)
		l[i], l[j] = l[j], l[i]
	}
	return l
}

// made returns a new buffer.
func made(t *testing.T, n int, v api.Vector) *buffer.Buffer {
	t.Helper()
	b, e := buffer.New(n, v)
	if e != api.OK || b == nil {
		t.Fatalf("New(%d, %v) is %v, %d", n, v, b, e)
	}
	return b
}

// put puts the operations, whose forms must be valid.
func put(t *testing.T, b *buffer.Buffer, l ...api.Op) []api.Op {
	t.Helper()
	handed, e := b.Put(l...)
	if e != api.OK {
		t.Fatalf("Put(%v) is %d", dotsOf(l), e)
	}
	return handed
}

// stands says that the buffer has handed on v, and that the operations wait, in this order.
func stands(t *testing.T, b *buffer.Buffer, v api.Vector, waits ...api.Op) {
	t.Helper()
	if has := b.Has(); has != v {
		t.Errorf("Has is %v, want %v", has, v)
	}
	if got := b.Waits(); !sameAll(got, waits) {
		t.Errorf("Waits is %v, want %v", dotsOf(got), dotsOf(waits))
	}
}

// anyOp returns one of few names and Times, whose Dep may cover what is not there, and what has a greater Time.
func anyOp(n int, roll func(below int) int) api.Op {
	r, number, time := uint8(roll(n)), uint32(1+roll(4)), uint64(1+roll(6))
	o := genesis(r, number, time)
	if number > 1 && roll(2) == 0 {
		o = submit(r, number, time)
	}
	o.Who = uint32(1 + roll(1000))
	for place := range n {
		o.Dep[place] = uint32(roll(4) * (roll(4) / 3))
	}
	o.Dep[r] = number - 1
	return o
}

// anyOps returns so many operations that some dots occur more than once.
func anyOps(n, count int, roll func(below int) int) []api.Op {
	l := make([]api.Op, count)
	for i := range l {
		l[i] = anyOp(n, roll)
	}
	return l
}

// makeHistory returns the operations of n replicas, in the order in which they were made. Each replica knows a beginning of each one's, with what is before it.
func makeHistory(n, count int, roll func(below int) int) []api.Op {
	var l []api.Op
	knows, clocks := make([]api.Vector, n), make([]uint64, n)
	for len(l) < count {
		r := roll(n)
		if from := roll(n); roll(3) > 0 {
			for i := range knows[r] {
				knows[r][i] = max(knows[r][i], knows[from][i])
			}
			clocks[r] = max(clocks[r], clocks[from])
			continue
		}
		clocks[r] += uint64(1 + roll(3)*roll(2))
		number := knows[r][r] + 1
		o := genesis(uint8(r), number, clocks[r], knows[r][:]...)
		if number > 1 && number < 18 && roll(2) == 0 {
			o = submit(uint8(r), number, clocks[r], knows[r][:]...)
		}
		knows[r][r] = number
		l = append(l, o)
	}
	return l
}
