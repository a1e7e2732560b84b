package stable_test

import (
	"math"
	"testing"

	"tranter/api"
	"tranter/stable"
)

func TestExamples(t *testing.T) { // P12.1, P12.2
	x := made(t, 2, 0)
	stands(t, x, api.Vector{}, 0, api.Vector{}, api.Vector{})
	tell(t, x, api.Vector{2, 0})
	hear(t, x, 1, api.Vector{1, 0})
	if got := x.Stable(); got != (api.Vector{1, 0}) {
		t.Error(got)
	}
	hear(t, x, 1, api.Vector{2, 1})
	if got := x.Stable(); got != (api.Vector{1, 0}) || x.Waits() != 1 {
		t.Error(got, x.Waits())
	}
	tell(t, x, api.Vector{2, 1})
	if got := x.Stable(); got != (api.Vector{2, 1}) || x.Waits() != 0 {
		t.Error(got, x.Waits())
	}
	if e := x.Has(api.Vector{1, 1}); e != api.ErrState {
		t.Error(e)
	}
	if e := x.Hear(2, api.Vector{0, 0}); e != api.ErrArg {
		t.Error(e)
	}
	if e := x.Hear(0, api.Vector{9, 0}); e != api.ErrState {
		t.Error(e)
	}
	stands(t, x, api.Vector{2, 1}, 0, api.Vector{2, 1}, api.Vector{2, 1})
}

func TestNew(t *testing.T) { // P12.1: ErrArg for n, and for an own replica that does not exist
	for _, n := range []int{math.MinInt, -256 + 2, -1, 0, 9, 10, 256 + 2, 1<<32 + 2, math.MaxInt} {
		for _, own := range []uint8{0, 1, 7, 8, 255} {
			if x, e := stable.New(n, own); x != nil || e != api.ErrArg {
				t.Errorf("New(%d, %d) is %v, %d", n, own, x, e)
			}
		}
	}
	for n := 1; n <= 8; n++ {
		for own := range 256 {
			if own < n {
				stands(t, made(t, n, uint8(own)), api.Vector{}, 0, make([]api.Vector, n)...)
			} else if x, e := stable.New(n, uint8(own)); x != nil || e != api.ErrArg {
				t.Errorf("New(%d, %d) is %v, %d", n, own, x, e)
			}
		}
	}
}

// someAcks returns a tracker of three, whose own replica is 1: an ack of each other one counts, and one of each waits.
func someAcks(t *testing.T) *stable.Tracker {
	t.Helper()
	x := made(t, 3, 1)
	tell(t, x, api.Vector{4, 5, 6})
	hear(t, x, 0, api.Vector{4, 3, 2})
	hear(t, x, 0, api.Vector{5, 5, 5})
	hear(t, x, 2, api.Vector{3, 4, 5})
	hear(t, x, 2, api.Vector{3, 4, 7})
	return x
}

// isUntouched says that the tracker is as someAcks made it.
func isUntouched(t *testing.T, x *stable.Tracker) {
	t.Helper()
	stands(t, x, api.Vector{4, 5, 6}, 2, api.Vector{4, 3, 2}, api.Vector{4, 5, 6}, api.Vector{3, 4, 5})
}

func TestHas(t *testing.T) { // P12.1: what the own replica has is v then, whichever numbers it increases
	x := someAcks(t)
	isUntouched(t, x)
	tell(t, x, api.Vector{4, 5, 6})
	isUntouched(t, x)
	tell(t, x, api.Vector{4, 9, 6})
	stands(t, x, api.Vector{4, 9, 6}, 2, api.Vector{4, 3, 2}, api.Vector{4, 9, 6}, api.Vector{3, 4, 5})
	tell(t, x, api.Vector{math.MaxUint32, 9, math.MaxUint32})
	stands(t, x, api.Vector{math.MaxUint32, 9, math.MaxUint32}, 0, api.Vector{5, 5, 5}, api.Vector{math.MaxUint32, 9, math.MaxUint32}, api.Vector{3, 4, 7})
	for n := 1; n <= 8; n++ {
		for r := range n {
			x := made(t, n, uint8(n-1))
			var v api.Vector
			for _, number := range []uint32{0, 1, 1, 2, 1 << 31, math.MaxUint32, math.MaxUint32} {
				v[r] = number
				tell(t, x, v)
				if got := x.Own(); got != v {
					t.Errorf("of %d: Own is %v, want %v", n, got, v)
				}
			}
		}
	}
}

func TestHasErrors(t *testing.T) { // P12.1, R2: ErrArg, ErrState, in this order; and nothing is changed
	x := someAcks(t)
	for _, v := range []api.Vector{{4, 5, 6, 1}, {4, 5, 6, 0, 0, 0, 0, 1}, {9, 9, 9, math.MaxUint32}, {0, 0, 0, 1}, {3, 5, 6, 1}, {9, 9, 9, 9, 9, 9, 9, 9}} {
		if e := x.Has(v); e != api.ErrArg {
			t.Errorf("Has(%v) is %d", v, e)
		}
		isUntouched(t, x)
	}
	for _, v := range []api.Vector{{}, {3, 5, 6}, {4, 4, 6}, {4, 5, 5}, {3, 9, 9}, {9, 4, 9}, {9, 9, 5}, {math.MaxUint32, math.MaxUint32, 5}} {
		if e := x.Has(v); e != api.ErrState {
			t.Errorf("Has(%v) is %d", v, e)
		}
		isUntouched(t, x)
	}
}

func TestVectorsByReplicas(t *testing.T) { // P12.1: each number from n on must be 0, in Has and in Hear
	for n := 1; n <= 8; n++ {
		for place := range api.MaxReplicas {
			for _, number := range []uint32{1, 1 << 31, math.MaxUint32} {
				want := api.OK
				if place >= n {
					want = api.ErrArg
				}
				var v api.Vector
				v[place] = number
				for r := range n {
					x := made(t, n, 0)
					if r > 0 {
						if e := x.Hear(uint8(r), v); e != want {
							t.Errorf("of %d: Hear(%d, %v) is %d", n, r, v, e)
						}
					}
					if e := x.Has(v); e != want {
						t.Errorf("of %d: Has(%v) is %d", n, v, e)
					}
				}
			}
		}
	}
}

func TestHearErrors(t *testing.T) { // P12.1, R2: ErrArg, ErrState, in this order; and nothing is changed
	x := someAcks(t)
	for r := range 256 {
		for _, v := range []api.Vector{{}, {1, 1, 1}, {9, 9, 9}, {0, 0, 0, 1}} {
			if r < 3 && v[3] == 0 {
				continue
			}
			if e := x.Hear(uint8(r), v); e != api.ErrArg {
				t.Errorf("Hear(%d, %v) is %d", r, v, e)
			}
			isUntouched(t, x)
		}
	}
	for r := range uint8(3) {
		for _, v := range []api.Vector{{9, 9, 9, 1}, {4, 5, 6, 0, 0, 0, 0, 1}, {0, 0, 0, 0, math.MaxUint32}} {
			if e := x.Hear(r, v); e != api.ErrArg {
				t.Errorf("Hear(%d, %v) is %d", r, v, e)
			}
			isUntouched(t, x)
		}
	}
}

func TestHearOwn(t *testing.T) { // P12.1: nothing is done, or ErrState
	x := someAcks(t)
	for _, v := range []api.Vector{{}, {4, 5, 6}, {3, 5, 6}, {4, 4, 6}, {4, 5, 5}, {0, 5, 0}} {
		if e := x.Hear(1, v); e != api.OK {
			t.Errorf("Hear(1, %v) is %d", v, e)
		}
		isUntouched(t, x)
	}
	for _, v := range []api.Vector{{5, 5, 6}, {4, 6, 6}, {4, 5, 7}, {5, 0, 0}, {0, 6, 0}, {0, 0, 7}, {9, 9, 9}, {math.MaxUint32, 0, 0}} {
		if e := x.Hear(1, v); e != api.ErrState {
			t.Errorf("Hear(1, %v) is %d", v, e)
		}
		isUntouched(t, x)
	}
	tell(t, x, api.Vector{9, 9, 9}) // none of what was refused was kept
	stands(t, x, api.Vector{9, 9, 9}, 0, api.Vector{5, 5, 5}, api.Vector{9, 9, 9}, api.Vector{3, 4, 7})
}

func TestNone(t *testing.T) { // P12.1, P12.2, R1: a nil tracker, and one that no call made
	for _, x := range []*stable.Tracker{nil, {}, new(stable.Tracker)} {
		for _, v := range []api.Vector{{}, {1}, {7: 1}} {
			if e := x.Has(v); e != api.ErrNil {
				t.Errorf("Has(%v) is %d", v, e)
			}
			for _, r := range []uint8{0, 7, 8, 255} {
				if e := x.Hear(r, v); e != api.ErrNil {
					t.Errorf("Hear(%d, %v) is %d", r, v, e)
				}
				if got, e := x.Counts(r); got != (api.Vector{}) || e != api.ErrNil {
					t.Errorf("Counts(%d) is %v, %d", r, got, e)
				}
			}
		}
		if x.Stable() != (api.Vector{}) || x.Own() != (api.Vector{}) || x.Waits() != 0 {
			t.Error(x.Stable(), x.Own(), x.Waits())
		}
		if c := x.Copy(); c != nil {
			t.Error("a copy of none")
		}
	}
}

func TestCountsErrors(t *testing.T) { // P12.2, R3
	for n := 1; n <= 8; n++ {
		x := made(t, n, 0)
		tell(t, x, api.Vector{3})
		for r := range 256 {
			got, e := x.Counts(uint8(r))
			if r >= n && (got != api.Vector{} || e != api.ErrArg) || r < n && e != api.OK {
				t.Errorf("of %d: Counts(%d) is %v, %d", n, r, got, e)
			}
		}
	}
}

func TestAckCounts(t *testing.T) { // P12.1, P12.2: by the ack's own replica alone, and as soon as its number there is reached
	for own := range uint8(8) {
		for r := range uint8(8) {
			if r == own {
				continue
			}
			for _, number := range []uint32{0, 1, 2, 1 << 31, math.MaxUint32} {
				x := made(t, 8, own)
				v := api.Vector{7, 7, 7, 7, 7, 7, 7, 7} // others' numbers are above what the own replica has
				v[r] = number
				hear(t, x, r, v)
				counts := make([]api.Vector, 8)
				if number == 0 {
					counts[r] = v
					stands(t, x, api.Vector{}, 0, counts...)
					continue
				}
				stands(t, x, api.Vector{}, 1, counts...)
				has := api.Vector{9, 9, 9, 9, 9, 9, 9, 9}
				has[r] = number - 1
				tell(t, x, has)
				counts[own] = has
				stands(t, x, has, 1, counts...)
				has[r] = number
				tell(t, x, has)
				counts[own], counts[r] = has, v
				stands(t, x, has, 0, counts...)
			}
		}
	}
}

func TestWaits(t *testing.T) { // P12.2: different ones, by replica and vector
	x := made(t, 3, 0)
	steps := []struct {
		r     uint8
		v     api.Vector
		waits int
	}{
		{1, api.Vector{0, 2, 0}, 1},
		{1, api.Vector{0, 2, 0}, 1}, // again
		{1, api.Vector{0, 2, 2}, 2}, // another vector, above one that waits
		{1, api.Vector{0, 1, 1}, 3}, // one below
		{2, api.Vector{0, 2, 2}, 4}, // another replica
		{2, api.Vector{0, 2, 2}, 4},
		{2, api.Vector{0, 2, 0}, 4}, // counts at once
		{2, api.Vector{5, 2, 2}, 5},
		{2, api.Vector{1, 2, 2}, 6},
		{1, api.Vector{0, 2, 2}, 6},
	}
	for i, s := range steps {
		hear(t, x, s.r, s.v)
		if got := x.Waits(); got != s.waits {
			t.Errorf("step %d: %d wait, want %d", i, got, s.waits)
		}
	}
	none := api.Vector{}
	stands(t, x, none, 6, none, none, api.Vector{0, 2, 0})
	tell(t, x, api.Vector{0, 1, 0})
	stands(t, x, api.Vector{0, 1, 0}, 5, api.Vector{0, 1, 0}, api.Vector{0, 1, 1}, api.Vector{0, 2, 0})
	hear(t, x, 1, api.Vector{0, 1, 1}) // counts, and does not wait again
	stands(t, x, api.Vector{0, 1, 0}, 5, api.Vector{0, 1, 0}, api.Vector{0, 1, 1}, api.Vector{0, 2, 0})
	tell(t, x, api.Vector{0, 2, 1})
	stands(t, x, api.Vector{0, 2, 1}, 3, api.Vector{0, 2, 1}, api.Vector{0, 2, 2}, api.Vector{0, 2, 0})
	tell(t, x, api.Vector{0, 2, 2})
	stands(t, x, api.Vector{0, 2, 2}, 0, api.Vector{0, 2, 2}, api.Vector{0, 2, 2}, api.Vector{5, 2, 2})
	tell(t, x, api.Vector{5, 2, 2})
	stands(t, x, api.Vector{5, 2, 2}, 0, api.Vector{5, 2, 2}, api.Vector{0, 2, 2}, api.Vector{5, 2, 2})
}

func TestCountsAreMerged(t *testing.T) { // P12.2: acks beside each other, and lesser ones that come late
	x := made(t, 4, 3)
	tell(t, x, api.Vector{9, 9, 9, 9})
	for _, v := range []api.Vector{{2, 0, 5, 1}, {1, 0, 6, 0}, {0, 0, 0, 0}, {1, 0, 1, 4}, {0, 20, 0, 0}} {
		hear(t, x, 0, v)
	}
	own := api.Vector{9, 9, 9, 9}
	stands(t, x, own, 0, api.Vector{2, 20, 6, 4}, api.Vector{}, api.Vector{}, own)
	hear(t, x, 1, api.Vector{9, 4, 4, 4})
	stands(t, x, own, 0, api.Vector{2, 20, 6, 4}, api.Vector{9, 4, 4, 4}, api.Vector{}, own)
	hear(t, x, 2, api.Vector{9, 9, 9, 10})
	stands(t, x, own, 0, api.Vector{2, 20, 6, 4}, api.Vector{9, 4, 4, 4}, api.Vector{9, 9, 9, 10}, own)
	if got := x.Stable(); got != (api.Vector{2, 4, 4, 4}) {
		t.Error(got)
	}
}

func TestOneReplica(t *testing.T) { // P12.2: of one replica all that it has is stable
	x := made(t, 1, 0)
	for _, number := range []uint32{0, 1, 5, math.MaxUint32} {
		v := api.Vector{number}
		tell(t, x, v)
		hear(t, x, 0, v)
		stands(t, x, v, 0, v)
	}
}

func TestCopy(t *testing.T) { // P12.2: as the tracker is then; what is done to one does not affect the other one
	for _, swapped := range []bool{false, true} {
		a := someAcks(t)
		b := a.Copy()
		isUntouched(t, b)
		if swapped {
			a, b = b, a
		}
		hear(t, a, 0, api.Vector{6, 5, 5})
		hear(t, a, 2, api.Vector{4, 4, 4})
		isUntouched(t, b)
		tell(t, a, api.Vector{5, 5, 7})
		isUntouched(t, b)
		stands(t, a, api.Vector{5, 5, 7}, 1, api.Vector{5, 5, 5}, api.Vector{5, 5, 7}, api.Vector{4, 4, 7})
		tell(t, b, api.Vector{4, 5, 7})
		stands(t, a, api.Vector{5, 5, 7}, 1, api.Vector{5, 5, 5}, api.Vector{5, 5, 7}, api.Vector{4, 4, 7})
		stands(t, b, api.Vector{4, 5, 7}, 1, api.Vector{4, 3, 2}, api.Vector{4, 5, 7}, api.Vector{3, 4, 7})
		if e := b.Hear(3, api.Vector{}); e != api.ErrArg {
			t.Error("a copy has another number of replicas")
		}
		if e := b.Hear(1, api.Vector{5}); e != api.ErrState {
			t.Error("a copy has another own replica")
		}
		stands(t, a.Copy().Copy(), api.Vector{5, 5, 7}, 1, api.Vector{5, 5, 5}, api.Vector{5, 5, 7}, api.Vector{4, 4, 7})
	}
}

// pair is a tracker and a plain one that the same is done to.
type pair struct {
	x *stable.Tracker
	p *plain
}

// do does anything to both, and returns its result.
func (s pair) do(t *testing.T, roll func(below int) int) api.Errno {
	t.Helper()
	v := anyVector(s.p.n, 7, roll)
	if roll(10) == 0 {
		v[roll(8)] = uint32(roll(3))
	}
	if roll(3) == 0 {
		for r, number := range s.p.has {
			v[r] = number + uint32(roll(9)/8)
		}
		if want, e := s.p.tell(v), s.x.Has(v); e != want {
			t.Fatalf("Has(%v) is %d, want %d", v, e, want)
		} else {
			return e
		}
	}
	r := uint8(roll(s.p.n + roll(2)))
	want, e := s.p.hear(r, v), s.x.Hear(r, v)
	if e != want {
		t.Fatalf("Hear(%d, %v) is %d, want %d", r, v, e, want)
	}
	return e
}

func TestAny(t *testing.T) { // P12.1, P12.2, R4: the same is done to trackers, their copies, and plain ones
	roll := dice(1)
	results := map[api.Errno]int{}
	waited, counted, copies := 0, 0, 0
	for range 800 {
		n := 1 + roll(8)
		own := uint8(roll(n))
		all := []pair{{made(t, n, own), &plain{n: n, own: own}}}
		for range 60 {
			s := all[roll(len(all))]
			if roll(20) == 0 {
				all = append(all, pair{s.x.Copy(), s.p.copy()})
				copies++
			}
			before := s.x.Waits()
			results[s.do(t, roll)]++
			standsAs(t, s.x, s.p)
			if after := s.x.Waits(); after > before {
				waited++
			} else if after < before {
				counted++
			}
		}
		for _, s := range all {
			standsAs(t, s.x, s.p)
		}
	}
	if results[api.OK] < 10000 || results[api.ErrArg] < 1000 || results[api.ErrState] < 1000 || waited < 5000 || counted < 1000 || copies < 1000 {
		t.Errorf("of the samples: results %v, %d waited, %d times some counted, %d copies", results, waited, counted, copies)
	}
}
