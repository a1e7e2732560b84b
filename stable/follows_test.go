package stable_test

import (
	"slices"
	"testing"

	"tranter/api"
	"tranter/stable"
)

func TestNeverDecreases(t *testing.T) { // P12.3: what is stable; and what the own replica has is above it
	roll := dice(2)
	increased := 0
	for range 2000 {
		n := 1 + roll(5)
		own := uint8(roll(n))
		s := pair{made(t, n, own), &plain{n: n, own: own}}
		for range 60 {
			before := s.x.Stable()
			s.do(t, roll)
			after := s.x.Stable()
			if !plainAbove(after, before) {
				t.Fatalf("%v was stable, and now %v is", before, after)
			}
			if !plainAbove(s.x.Own(), after) {
				t.Fatalf("%v is stable, of %v", after, s.x.Own())
			}
			if after != before {
				increased++
			}
		}
	}
	if increased < 3000 {
		t.Errorf("of the samples: %d times more was stable", increased)
	}
}

// anyRow returns vectors, each of which is above the one before it.
func anyRow(n, count int, roll func(below int) int) []api.Vector {
	l := make([]api.Vector, count)
	var v api.Vector
	for i := range l {
		for r := range n {
			v[r] += uint32(roll(3) / 2)
		}
		l[i] = v
	}
	return l
}

// interleaved tells a new tracker the row, and has it hear the acks between, in another order, some of them twice; it checks everything after each step.
func interleaved(t *testing.T, p *plain, row []api.Vector, acks []heard, roll func(below int) int) *stable.Tracker {
	t.Helper()
	x := made(t, p.n, p.own)
	acks = shuffled(slices.Concat(acks, acks[:roll(len(acks)+1)]), roll)
	for len(row) > 0 || len(acks) > 0 {
		if roll(len(row)+len(acks)) < len(row) {
			tell(t, x, row[0])
			p.tell(row[0])
			row = row[1:]
		} else {
			hear(t, x, acks[0].r, acks[0].v)
			p.hear(acks[0].r, acks[0].v)
			acks = acks[1:]
		}
	}
	standsAs(t, x, p)
	return x
}

func TestAnyOrder(t *testing.T) { // P12.3: whatever the order in which acks are heard, how often, and whether before or after what they need
	roll := dice(3)
	some, left := 0, 0
	for range 500 {
		n := 2 + roll(4)
		own := uint8(roll(n))
		row := anyRow(n, 1+roll(6), roll)
		var acks []heard
		for range roll(12) {
			if r := uint8(roll(n)); r != own {
				acks = append(acks, heard{r, anyVector(n, 6, roll)})
			}
		}
		first := interleaved(t, &plain{n: n, own: own}, row, acks, roll)
		for range 8 {
			x := interleaved(t, &plain{n: n, own: own}, row, acks, roll)
			if x.Stable() != first.Stable() || x.Waits() != first.Waits() || x.Own() != first.Own() {
				t.Fatalf("%v and %v in another order: %v, %d wait; %v, %d wait", row, acks, x.Stable(), x.Waits(), first.Stable(), first.Waits())
			}
			for r := range n {
				a, _ := x.Counts(uint8(r))
				b, _ := first.Counts(uint8(r))
				if a != b {
					t.Fatalf("%v and %v in another order: of %d %v counts, and %v", row, acks, r, a, b)
				}
			}
		}
		if first.Stable() != (api.Vector{}) {
			some++
		}
		left += first.Waits()
	}
	if some < 50 || left < 500 {
		t.Errorf("of the samples: in %d something was stable, %d acks waited at last", some, left)
	}
}

// cluster is what each replica has, what its tracker says, and the vector that each operation was made with, by its replica and number.
type cluster struct {
	n        int
	has      []api.Vector
	trackers []*stable.Tracker
	made     [][]api.Vector
	acks     []heard // that were sent, and may still be heard
}

func newCluster(t *testing.T, n int) *cluster {
	t.Helper()
	c := &cluster{n: n, has: make([]api.Vector, n), made: make([][]api.Vector, n)}
	for r := range n {
		c.trackers = append(c.trackers, made(t, n, uint8(r)))
	}
	return c
}

// get has the replica have v too.
func (c *cluster) get(t *testing.T, r int, v api.Vector) {
	t.Helper()
	for place := range v {
		c.has[r][place] = max(c.has[r][place], v[place])
	}
	tell(t, c.trackers[r], c.has[r])
}

// step has a replica make an operation; or get some of another one's, with all that these know; or send an ack; or hear one, whether an early or a late one.
func (c *cluster) step(t *testing.T, roll func(below int) int) {
	t.Helper()
	r := roll(c.n)
	switch roll(6) {
	case 0:
		c.made[r] = append(c.made[r], c.has[r])
		var own api.Vector
		own[r] = c.has[r][r] + 1
		c.get(t, r, own)
	case 1:
		of := roll(c.n)
		if number := c.has[r][of]; int(number) < len(c.made[of]) { // the next one of its replica
			v := c.made[of][number]
			v[of]++
			c.get(t, r, v)
		}
	case 2:
		c.acks = append(c.acks, heard{uint8(r), c.has[r]})
	default:
		if len(c.acks) > 0 {
			ack := c.acks[roll(len(c.acks))]
			if int(ack.r) != r {
				hear(t, c.trackers[r], ack.r, ack.v)
			}
		}
	}
}

// isCertain says that each replica has what is stable at r, and that each operation that r lacks was made, or will be made, with that.
func (c *cluster) isCertain(t *testing.T, r int) {
	t.Helper()
	certain := c.trackers[r].Stable()
	for of := range c.n {
		if !plainAbove(c.has[of], certain) {
			t.Fatalf("%v is stable at %d, and %d has %v", certain, r, of, c.has[of])
		}
		for _, v := range c.made[of][c.has[r][of]:] {
			if !plainAbove(v, certain) {
				t.Fatalf("%v is stable at %d, which lacks an operation of %d that was made with %v", certain, r, of, v)
			}
		}
	}
}

func TestCertain(t *testing.T) { // what the chapter says it is for: no operation that the replica lacks was made without what is stable
	roll := dice(4)
	lacked, waited := 0, 0
	for range 200 {
		c := newCluster(t, 2+roll(3))
		for range 300 {
			c.step(t, roll)
			for r := range c.n {
				c.isCertain(t, r)
				if c.trackers[r].Stable() != (api.Vector{}) && c.trackers[r].Own() != c.has[(r+1)%c.n] {
					lacked++
				}
				waited += c.trackers[r].Waits()
			}
		}
	}
	if lacked < 10000 || waited < 10000 {
		t.Errorf("of the samples: %d times something was stable and not all was had, %d acks waited", lacked, waited)
	}
}

func TestManyAcks(t *testing.T) { // R1, P12.2: many that wait, each one heard twice, and then count at once
	const most = 1 << 17
	x := made(t, 8, 0)
	for range 2 {
		for i := range uint32(most) {
			hear(t, x, uint8(1+i%7), api.Vector{i, 5, 5, 5, 5, 5, 5, 5})
		}
	}
	if got := x.Waits(); got != most {
		t.Fatalf("%d wait", got)
	}
	tell(t, x, api.Vector{most, 4, 4, 4, 4, 4, 4, 4})
	if got := x.Waits(); got != most {
		t.Fatalf("%d wait", got)
	}
	own := api.Vector{most, 5, 5, 5, 5, 5, 5, 5}
	tell(t, x, own)
	counts := []api.Vector{own}
	for r := range uint32(7) {
		last := most - 1 - (most-1-r)%7
		counts = append(counts, api.Vector{last, 5, 5, 5, 5, 5, 5, 5})
	}
	stands(t, x, own, 0, counts...)
}
