package stable_test

import (
	"slices"
	"testing"

	"tranter/api"
	"tranter/stable"
)

// heard is an ack, as it was passed to Hear.
type heard struct {
	r uint8
	v api.Vector
}

// plain is a tracker by the chapter's words: it keeps all that it heard, and determines everything anew each time.
type plain struct {
	n   int
	own uint8
	has api.Vector
	all []heard
}

func (p *plain) tell(v api.Vector) api.Errno {
	if !p.may(v) {
		return api.ErrArg
	}
	if !plainAbove(v, p.has) {
		return api.ErrState
	}
	p.has = v
	return api.OK
}

func (p *plain) hear(r uint8, v api.Vector) api.Errno {
	if int(r) >= p.n || !p.may(v) {
		return api.ErrArg
	}
	if r == p.own && !plainAbove(p.has, v) {
		return api.ErrState
	}
	if r != p.own {
		p.all = append(p.all, heard{r, v})
	}
	return api.OK
}

func (p *plain) may(v api.Vector) bool {
	for r := range v {
		if r >= p.n && v[r] != 0 {
			return false
		}
	}
	return true
}

func plainAbove(a, b api.Vector) bool {
	for r := range a {
		if a[r] < b[r] {
			return false
		}
	}
	return true
}

func (p *plain) isCounting(h heard) bool {
	return p.has[h.r] >= h.v[h.r]
}

func (p *plain) counts(r uint8) api.Vector {
	if r == p.own {
		return p.has
	}
	var merged api.Vector
	for _, h := range p.all {
		if h.r != r || !p.isCounting(h) {
			continue
		}
		for place := range merged {
			merged[place] = max(merged[place], h.v[place])
		}
	}
	return merged
}

func (p *plain) stable() api.Vector {
	met := p.has
	for r := range p.n {
		counts := p.counts(uint8(r))
		for place := range met {
			met[place] = min(met[place], counts[place])
		}
	}
	return met
}

func (p *plain) waits() int {
	var kept []heard
	for _, h := range p.all {
		if !p.isCounting(h) && !plainAbove(p.counts(h.r), h.v) && !slices.Contains(kept, h) {
			kept = append(kept, h)
		}
	}
	return len(kept)
}

func (p *plain) copy() *plain {
	return &plain{n: p.n, own: p.own, has: p.has, all: slices.Clone(p.all)}
}

// dice returns numbers below what it is passed, always the same ones for one seed.
func dice(seed uint64) func(below int) int {
	return func(below int) int {
		seed = seed*6364136223846793005 + 1442695040888963407
		return int(seed>>33) % below
	}
}

// shuffled returns the acks in another order.
func shuffled(l []heard, roll func(below int) int) []heard {
	l = slices.Clone(l)
	for i := len(l) - 1; i > 0; i-- {
		j := roll(i + 1)
		l[i], l[j] = l[j], l[i]
	}
	return l
}

// anyVector returns one of n small numbers.
func anyVector(n, below int, roll func(below int) int) api.Vector {
	var v api.Vector
	for r := range n {
		v[r] = uint32(roll(below))
	}
	return v
}

// made returns a new tracker.
func made(t *testing.T, n int, own uint8) *stable.Tracker {
	t.Helper()
	x, e := stable.New(n, own)
	if e != api.OK || x == nil {
		t.Fatalf("New(%d, %d) is %v, %d", n, own, x, e)
	}
	return x
}

// tell has the tracker's own replica have v.
func tell(t *testing.T, x *stable.Tracker, v api.Vector) {
	t.Helper()
	if e := x.Has(v); e != api.OK {
		t.Fatalf("Has(%v) is %d", v, e)
	}
}

// hear has the tracker hear an ack.
func hear(t *testing.T, x *stable.Tracker, r uint8, v api.Vector) {
	t.Helper()
	if e := x.Hear(r, v); e != api.OK {
		t.Fatalf("Hear(%d, %v) is %d", r, v, e)
	}
}

// stands says what the tracker's own replica has, what counts of each one, from 0 on, and how many acks wait; and what is stable by that.
func stands(t *testing.T, x *stable.Tracker, own api.Vector, waits int, counts ...api.Vector) {
	t.Helper()
	if got := x.Own(); got != own {
		t.Errorf("Own is %v, want %v", got, own)
	}
	if got := x.Waits(); got != waits {
		t.Errorf("Waits is %d, want %d", got, waits)
	}
	met := own
	for r, want := range counts {
		if got, e := x.Counts(uint8(r)); got != want || e != api.OK {
			t.Errorf("Counts(%d) is %v, %d, want %v", r, got, e, want)
		}
		for place := range met {
			met[place] = min(met[place], want[place])
		}
	}
	if got := x.Stable(); got != met {
		t.Errorf("Stable is %v, want %v", got, met)
	}
}

// standsAs says that the tracker is as the plain one is.
func standsAs(t *testing.T, x *stable.Tracker, p *plain) {
	t.Helper()
	var counts []api.Vector
	for r := range p.n {
		counts = append(counts, p.counts(uint8(r)))
	}
	stands(t, x, p.has, p.waits(), counts...)
	if got := x.Stable(); got != p.stable() {
		t.Errorf("Stable is %v, want %v", got, p.stable())
	}
}
