package op_test

import (
	"fmt"
	"math"
	"reflect"
	"slices"
	"testing"

	"tranter/api"
	"tranter/op"
)

const greatest = math.MaxUint32

// valid returns an operation of the kind that is valid for 3 replicas, with all that it has.
func valid(kind uint8) api.Op {
	o := api.Op{Dot: api.Dot{R: 1, N: 5}, Dep: api.Vector{7, 4, 2}, Time: 9, Who: 6, Cart: api.Dot{R: 0, N: 1}, Kind: kind, Cred: api.Dot{R: 2, N: 2}}
	at, version := api.Dot{R: 1, N: 3}, api.Dot{R: 0, N: 7}
	switch kind {
	case api.KdGenesis:
		o.Cart, o.Cred = o.Dot, api.Dot{}
	case api.KdGrant:
		o.To, o.Roles, o.Depth, o.Cap = 3, 5, 2, 100
	case api.KdRevoke, api.KdRemove:
		o.At = at
	case api.KdAdd:
		o.Item, o.Qty, o.Price = 8, 3, 250
	case api.KdSet:
		o.At, o.Qty = at, 4
	case api.KdApprove, api.KdReject:
		o.At, o.Version = at, version
	case api.KdSubmit:
		o.Lines = []api.Claim{{Line: at, Version: version}, {Line: version, Version: at}}
	}
	return o
}

// kinds returns all of them.
func kinds() []uint8 {
	return []uint8{api.KdGenesis, api.KdGrant, api.KdRevoke, api.KdAdd, api.KdSet, api.KdRemove, api.KdApprove, api.KdReject, api.KdSubmit}
}

// field is one that only some kinds have: with values that are valid if it is had, and that are not.
type field struct {
	name         string
	kinds        []uint8
	set          func(o *api.Op, v uint64)
	right, wrong []uint64
}

// pack makes one number of a dot, for the values of a field.
func pack(r uint8, n uint32) uint64 {
	return uint64(r)<<32 | uint64(n)
}

func unpack(v uint64) api.Dot {
	return api.Dot{R: uint8(v >> 32), N: uint32(v)}
}

// covered and uncovered return dots that a valid operation covers, and that it does not: the last ones of each replica, and the next ones.
func covered() []uint64 {
	return []uint64{pack(0, 1), pack(0, 6), pack(0, 7), pack(1, 1), pack(1, 4), pack(2, 1), pack(2, 2)}
}

func uncovered() []uint64 {
	return []uint64{0, pack(0, 8), pack(0, greatest), pack(1, 0), pack(1, 5), pack(1, 6), pack(2, 3), pack(3, 0), pack(3, 1), pack(7, 1), pack(7, 0), pack(8, 0), pack(8, 1), pack(9, 2), pack(255, 0), pack(255, 1), pack(255, greatest)}
}

func fields() []field {
	return []field{
		{"Cred", kinds()[1:], func(o *api.Op, v uint64) { o.Cred = unpack(v) }, covered(), uncovered()},
		{"To", []uint8{api.KdGrant}, func(o *api.Op, v uint64) { o.To = uint32(v) }, []uint64{1, 2, 6, 1 << 31, greatest}, []uint64{0}},
		{"Roles", []uint8{api.KdGrant}, func(o *api.Op, v uint64) { o.Roles = uint8(v) }, []uint64{1, 2, 3, 4, 5, 6, 7}, []uint64{0, 8, 9, 15, 16, 128, 255}},
		{"Depth", []uint8{api.KdGrant}, func(o *api.Op, v uint64) { o.Depth = uint8(v) }, []uint64{0, 1, 6, 7}, []uint64{8, 9, 128, 255}},
		{"Cap", []uint8{api.KdGrant}, func(o *api.Op, v uint64) { o.Cap = v }, []uint64{0, 1, greatest, 1<<40 - 1, 1 << 40}, []uint64{1<<40 + 1, 1 << 41, 1 << 63, math.MaxUint64}},
		{"At", []uint8{api.KdRevoke, api.KdSet, api.KdRemove, api.KdApprove, api.KdReject}, func(o *api.Op, v uint64) { o.At = unpack(v) }, covered(), uncovered()},
		{"Version", []uint8{api.KdApprove, api.KdReject}, func(o *api.Op, v uint64) { o.Version = unpack(v) }, covered(), uncovered()},
		{"Item", []uint8{api.KdAdd}, func(o *api.Op, v uint64) { o.Item = uint32(v) }, []uint64{0, 1, 65536, 1 << 24, greatest}, nil},
		{"Qty", []uint8{api.KdAdd, api.KdSet}, func(o *api.Op, v uint64) { o.Qty = uint32(v) }, []uint64{1, 2, 65534, 65535}, []uint64{0, 65536, 65537, 1 << 31, greatest}},
		{"Price", []uint8{api.KdAdd}, func(o *api.Op, v uint64) { o.Price = uint32(v) }, []uint64{0, 1, 1<<24 - 2, 1<<24 - 1}, []uint64{1 << 24, 1<<24 + 1, 1 << 31, greatest}},
	}
}

// is says what Check must return for 3 replicas, and for 8 of them.
func is(t *testing.T, what string, o api.Op, want api.Errno) {
	t.Helper()
	for _, n := range []int{3, 8} {
		if e := op.Check(o, n); e != want {
			t.Errorf("%s: Check of %+v for %d is %d, want %d", what, o, n, e, want)
		}
	}
}

func TestCheckEachKind(t *testing.T) { // P5.1
	for _, kind := range kinds() {
		is(t, "as it is", valid(kind), api.OK)
	}
}

func TestCheckExamples(t *testing.T) { // P5.1
	g := api.Op{Dot: api.Dot{N: 1}, Time: 1, Who: 7, Cart: api.Dot{N: 1}}
	a := api.Op{Dot: api.Dot{N: 2}, Dep: api.Vector{1}, Time: 2, Who: 7, Cart: api.Dot{N: 1}, Kind: api.KdAdd, Cred: api.Dot{N: 1}, Item: 5, Qty: 3, Price: 100}
	noQty, noDep, at, nobody := a, a, a, g
	noQty.Qty, noDep.Dep, at.At, nobody.Who = 0, api.Vector{}, api.Dot{N: 1}, 0
	for i, x := range []struct {
		o    api.Op
		n    int
		want api.Errno
	}{
		{g, 1, api.OK}, {a, 3, api.OK}, {a, 0, api.ErrArg},
		{noQty, 3, api.ErrForm}, {noDep, 3, api.ErrForm}, {at, 3, api.ErrForm}, {nobody, 3, api.ErrForm},
	} {
		if e := op.Check(x.o, x.n); e != x.want {
			t.Errorf("%d: %d, want %d", i, e, x.want)
		}
	}
}

func TestCheckNumberOfReplicas(t *testing.T) { // P5.1, R2: ErrArg comes before ErrForm
	wrong := []int{0, -1, -2, -8, 9, 10, 16, 256, 257, 259, 1 << 32, 1<<32 + 3, math.MinInt, math.MinInt + 3, math.MaxInt}
	for _, n := range wrong {
		for _, kind := range kinds() {
			if e := op.Check(valid(kind), n); e != api.ErrArg {
				t.Errorf("Check of a %d for %d is %d", kind, n, e)
			}
		}
		for _, o := range []api.Op{{}, {Kind: 9}, {Kind: 255, Dot: api.Dot{R: 255, N: 1}}, {Kind: api.KdSubmit, Lines: make([]api.Claim, 17)}} {
			if e := op.Check(o, n); e != api.ErrArg {
				t.Errorf("Check of %+v for %d is %d", o, n, e)
			}
		}
	}
}

func TestCheckEachReplica(t *testing.T) { // P5.1: Dot.R is below n, and Dep 0 from n on
	for n := 1; n <= 8; n++ {
		for r := range 256 {
			o := api.Op{Dot: api.Dot{R: uint8(r), N: 1}, Time: 1, Who: 1, Cart: api.Dot{R: uint8(r), N: 1}}
			want := api.OK
			if r >= n {
				want = api.ErrForm
			}
			if e := op.Check(o, n); e != want {
				t.Errorf("Check of a genesis of %d for %d is %d", r, n, e)
			}
		}
		for place := 1; place < 8; place++ {
			for _, known := range []uint32{1, 2, 256, 1 << 31, greatest} {
				o := api.Op{Dot: api.Dot{N: 1}, Time: 1, Who: 1, Cart: api.Dot{N: 1}}
				o.Dep[place] = known
				want := api.OK
				if place >= n {
					want = api.ErrForm
				}
				if e := op.Check(o, n); e != want {
					t.Errorf("Check with Dep %v for %d is %d", o.Dep, n, e)
				}
			}
		}
	}
}

func TestCheckName(t *testing.T) { // P5.1: Dot.N is not 0, and Dep one less at Dot.R
	numbers := []uint32{0, 1, 2, 3, 255, 256, 257, 1<<31 - 1, 1 << 31, greatest - 2, greatest - 1, greatest}
	for r := range uint8(8) {
		for _, n := range numbers {
			for _, known := range numbers {
				o := api.Op{Dot: api.Dot{R: r, N: n}, Time: 1, Who: 1, Cart: api.Dot{R: r, N: n}}
				o.Dep[r] = known
				want := api.ErrForm
				if n >= 1 && uint64(known)+1 == uint64(n) {
					want = api.OK
				}
				if e := op.Check(o, 8); e != want {
					t.Errorf("Check of %v with Dep %v is %d", o.Dot, o.Dep, e)
				}
			}
		}
	}
}

func TestCheckWhatAllHave(t *testing.T) { // P5.1
	for _, kind := range kinds() {
		for _, time := range []uint64{1, 2, 1 << 32, 1<<48 - 1, 1 << 48} {
			o := valid(kind)
			o.Time = time
			is(t, "Time", o, api.OK)
		}
		for _, time := range []uint64{0, 1<<48 + 1, 1 << 49, 1 << 63, 1<<63 + 1, math.MaxUint64} {
			o := valid(kind)
			o.Time = time
			is(t, "Time", o, api.ErrForm)
		}
		for _, who := range []uint32{1, 2, 1 << 31, greatest} {
			o := valid(kind)
			o.Who = who
			is(t, "Who", o, api.OK)
		}
		o := valid(kind)
		o.Who = 0
		is(t, "Who", o, api.ErrForm)
		for other := 9; other < 256; other++ {
			o := valid(kind)
			o.Kind = uint8(other)
			is(t, "Kind", o, api.ErrForm)
			o.Cart = o.Dot
			is(t, "Kind", o, api.ErrForm)
		}
	}
}

func TestCheckOtherKind(t *testing.T) { // P5.1: what one kind has, another one has not, but for those that have the same
	alike := map[[2]uint8]bool{{api.KdRevoke, api.KdRemove}: true, {api.KdRemove, api.KdRevoke}: true, {api.KdApprove, api.KdReject}: true, {api.KdReject, api.KdApprove}: true}
	for _, kind := range kinds() {
		for _, other := range kinds() {
			o := valid(kind)
			o.Kind = other
			want := api.ErrForm
			if kind == other || alike[[2]uint8{kind, other}] {
				want = api.OK
			}
			is(t, "another kind", o, want)
		}
	}
}

func TestCheckCart(t *testing.T) { // P5.1: its own dot for a genesis alone; a covered one for all others
	for _, kind := range kinds() {
		for _, v := range slices.Concat(covered(), uncovered()) {
			o := valid(kind)
			o.Cart = unpack(v)
			want := api.ErrForm
			if kind == api.KdGenesis && o.Cart == o.Dot || kind != api.KdGenesis && slices.Contains(covered(), v) {
				want = api.OK
			}
			is(t, "Cart", o, want)
		}
	}
}

func TestCheckEachField(t *testing.T) { // P5.1: within its limits if the kind has it; otherwise zero
	for _, f := range fields() {
		for _, kind := range kinds() {
			has := slices.Contains(f.kinds, kind)
			for _, v := range f.right {
				o := valid(kind)
				f.set(&o, v)
				want := api.OK
				if !has && v != 0 {
					want = api.ErrForm
				}
				is(t, f.name, o, want)
			}
			for _, v := range f.wrong {
				o := valid(kind)
				f.set(&o, v)
				want := api.ErrForm
				if !has && v == 0 {
					want = api.OK
				}
				is(t, f.name, o, want)
			}
		}
	}
}

func TestCheckAllRoles(t *testing.T) { // P5.1: each number that the field can have, of Roles and of Depth
	for v := range 256 {
		o := valid(api.KdGrant)
		o.Roles = uint8(v)
		want := api.ErrForm
		if v >= 1 && v <= 7 {
			want = api.OK
		}
		is(t, "Roles", o, want)
		o = valid(api.KdGrant)
		o.Depth = uint8(v)
		want = api.ErrForm
		if v <= 7 {
			want = api.OK
		}
		is(t, "Depth", o, want)
	}
}

// submit returns a valid one of count lines, for 3 replicas, if so many may be.
func submit(count int) api.Op {
	o := valid(api.KdSubmit)
	o.Dep[0] = 100
	o.Lines = nil
	for i := range count {
		o.Lines = append(o.Lines, api.Claim{Line: api.Dot{N: uint32(i + 1)}, Version: api.Dot{R: 2, N: 1}})
	}
	return o
}

func TestCheckNumberOfLines(t *testing.T) { // P5.1
	for count := range 40 {
		want := api.ErrForm
		if count >= 1 && count <= 16 {
			want = api.OK
		}
		is(t, "Lines", submit(count), want)
	}
	o := submit(0)
	o.Lines = []api.Claim{}
	is(t, "Lines", o, api.ErrForm)
	o.Lines = submit(17).Lines[:16]
	is(t, "Lines", o, api.OK)
	o.Lines = make([]api.Claim, 1<<20)
	is(t, "Lines", o, api.ErrForm)
}

func TestCheckLinesOfOtherKinds(t *testing.T) { // P5.1, R1: an empty list is none
	for _, kind := range kinds()[:api.KdSubmit] {
		o := valid(kind)
		o.Lines = []api.Claim{}
		is(t, "Lines", o, api.OK)
		o.Lines = submit(3).Lines[:0]
		is(t, "Lines", o, api.OK)
		for _, l := range [][]api.Claim{{{}}, {{Line: o.Cart, Version: o.Cart}}, {{Line: api.Dot{N: 1}, Version: api.Dot{N: 2}}}, make([]api.Claim, 17)} {
			o.Lines = l
			is(t, "Lines", o, api.ErrForm)
		}
	}
}

func TestCheckSameLine(t *testing.T) { // P5.1: no two Lines with the same Line, wherever they are; the Versions may be the same
	for count := 2; count <= 16; count++ {
		for i := range count {
			for j := range i {
				o := submit(count)
				o.Lines[j].Version = api.Dot{N: 99}
				is(t, "Lines", o, api.OK)
				o.Lines[i].Line = o.Lines[j].Line
				is(t, "Lines", o, api.ErrForm)
				o.Lines[i].Line.R = 1
				o.Lines[i].Line.N = 1
				is(t, "Lines", o, api.OK)
			}
		}
	}
	o := submit(2)
	o.Lines[0], o.Lines[1] = api.Claim{Line: api.Dot{N: 2}, Version: api.Dot{N: 3}}, api.Claim{Line: api.Dot{N: 3}, Version: api.Dot{N: 2}}
	is(t, "Lines", o, api.OK)
	o.Lines[0], o.Lines[1] = api.Claim{Line: api.Dot{N: 2}, Version: api.Dot{N: 2}}, api.Claim{Line: api.Dot{R: 1, N: 2}, Version: api.Dot{N: 2}}
	is(t, "Lines", o, api.OK)
	o.Lines[1] = o.Lines[0]
	is(t, "Lines", o, api.ErrForm)
}

func TestCheckDotsOfLines(t *testing.T) { // P5.1: both dots of each are covered
	two := api.Dot{N: 2}
	three := []api.Claim{{Line: two, Version: two}, {Line: api.Dot{N: 3}, Version: two}, {Line: api.Dot{N: 4}, Version: two}}
	with := func(place int, c api.Claim) api.Op {
		o := valid(api.KdSubmit)
		o.Lines = slices.Clone(three)
		o.Lines[place] = c
		return o
	}
	for place := range three {
		for _, v := range covered() {
			is(t, "Version", with(place, api.Claim{Line: three[place].Line, Version: unpack(v)}), api.OK)
			is(t, "Line", with(place, api.Claim{Line: unpack(v), Version: two}), api.OK)
		}
		for _, v := range uncovered() {
			is(t, "Version", with(place, api.Claim{Line: three[place].Line, Version: unpack(v)}), api.ErrForm)
			is(t, "Line", with(place, api.Claim{Line: unpack(v), Version: two}), api.ErrForm)
		}
	}
}

func TestCovers(t *testing.T) { // P5.1
	numbers := []uint32{0, 1, 2, 3, 255, 256, 1<<31 - 1, 1 << 31, greatest - 1, greatest}
	for place := range 8 {
		for _, known := range numbers {
			o := api.Op{Dot: api.Dot{R: uint8(place), N: 7}, Cart: api.Dot{N: 3}}
			o.Dep[place] = known
			for r := range 256 {
				for _, n := range numbers {
					want := r == place && n >= 1 && n <= known
					if got := op.Covers(o, api.Dot{R: uint8(r), N: n}); got != want {
						t.Fatalf("Dep %v: Covers(%d %d) is %v", o.Dep, r, n, got)
					}
				}
			}
		}
	}
	o := valid(api.KdAdd)
	for r := range uint8(9) {
		for n := range uint32(10) {
			want := r == 0 && n >= 1 && n <= 7 || r == 1 && n >= 1 && n <= 4 || r == 2 && n >= 1 && n <= 2
			if got := op.Covers(o, api.Dot{R: r, N: n}); got != want {
				t.Errorf("Dep %v: Covers(%d %d) is %v", o.Dep, r, n, got)
			}
		}
	}
	if op.Covers(o, o.Dot) {
		t.Error("it covers its own dot")
	}
}

// plainCovers and plainCheck are the chapter's definitions, written out.
func plainCovers(o api.Op, dots ...api.Dot) bool {
	for _, d := range dots {
		if d.R > 7 || d.N < 1 || d.N > o.Dep[d.R] {
			return false
		}
	}
	return true
}

func plainCheck(o api.Op, n int) api.Errno {
	if n < 1 || n > 8 {
		return api.ErrArg
	}
	fine := int(o.Dot.R) < n && o.Dot.N > 0 && o.Time > 0 && o.Time <= 1<<48 && o.Who > 0
	for r, known := range o.Dep {
		fine = fine && (r < n || known == 0) && (r != int(o.Dot.R) || uint64(known)+1 == uint64(o.Dot.N))
	}
	only := api.Op{Dot: o.Dot, Dep: o.Dep, Time: o.Time, Who: o.Who, Cart: o.Cart, Kind: o.Kind}
	if o.Kind > 0 {
		only.Cred = o.Cred
		fine = fine && plainCovers(o, o.Cart, o.Cred)
	}
	switch o.Kind {
	case 0:
		fine = fine && o.Cart == o.Dot
	case 1:
		only.To, only.Roles, only.Depth, only.Cap = o.To, o.Roles, o.Depth, o.Cap
		fine = fine && o.To > 0 && o.Roles > 0 && o.Roles < 8 && o.Depth < 8 && o.Cap <= 1<<40
	case 2, 5:
		only.At = o.At
		fine = fine && plainCovers(o, o.At)
	case 3:
		only.Item, only.Qty, only.Price = o.Item, o.Qty, o.Price
		fine = fine && o.Qty > 0 && o.Qty < 65536 && o.Price < 1<<24
	case 4:
		only.At, only.Qty = o.At, o.Qty
		fine = fine && plainCovers(o, o.At) && o.Qty > 0 && o.Qty < 65536
	case 6, 7:
		only.At, only.Version = o.At, o.Version
		fine = fine && plainCovers(o, o.At, o.Version)
	case 8:
		only.Lines = o.Lines
		fine = fine && len(o.Lines) > 0 && len(o.Lines) < 17
		for i, c := range o.Lines {
			fine = fine && plainCovers(o, c.Line, c.Version) && !slices.ContainsFunc(o.Lines[:i], func(b api.Claim) bool { return b.Line == c.Line })
		}
	default:
		fine = false
	}
	if !fine || !plainSame(o, only) {
		return api.ErrForm
	}
	return api.OK
}

// plainSame compares all that an operation has: an empty list is the same as none.
func plainSame(a, b api.Op) bool {
	a.Lines, b.Lines = append([]api.Claim{}, a.Lines...), append([]api.Claim{}, b.Lines...)
	return reflect.DeepEqual(a, b)
}

// dice returns numbers below what it is passed, always the same ones for one seed.
func dice(seed uint64) func(below int) int {
	return func(below int) int {
		seed = seed*6364136223846793005 + 1442695040888963407
		return int(seed>>33) % below
	}
}

// anyOp returns an operation that is valid, or nearly so, or not at all.
func anyOp(roll func(below int) int) api.Op {
	o := valid(uint8(roll(9)))
	all := fields()
	for range roll(4) {
		f := all[roll(len(all))]
		values := slices.Concat(f.right, f.wrong)
		dots := append(covered(), uncovered()[roll(len(uncovered()))])
		v := dots[roll(len(dots))]
		switch roll(9) {
		case 0, 1, 2:
			f.set(&o, values[roll(len(values))])
		case 3:
			o.Kind = uint8(roll(10))
		case 4:
			o.Cart = unpack(v)
		case 5:
			o.Dep[roll(8)] = uint32(roll(9))
		case 6:
			o.Lines = append(o.Lines, submit(roll(17)).Lines...)
		case 7:
			o.Lines = append(o.Lines, api.Claim{Line: unpack(v), Version: api.Dot{N: 1}})
		case 8:
			o.Time, o.Who, o.Dot = uint64(roll(3)), uint32(roll(3)), api.Dot{R: uint8(roll(9)), N: uint32(roll(9))}
		}
	}
	return o
}

func TestCheckAny(t *testing.T) { // P5.1
	roll := dice(1)
	found := map[api.Errno]int{}
	for range 60000 {
		o, n := anyOp(roll), roll(11)-1
		want := plainCheck(o, n)
		if e := op.Check(o, n); e != want {
			t.Fatalf("Check of %+v for %d is %d, want %d", o, n, e, want)
		}
		found[want]++
	}
	if found[api.OK] < 5000 || found[api.ErrForm] < 5000 || found[api.ErrArg] < 5000 {
		t.Errorf("of the samples: %v", found)
	}
}

func TestCheckForMore(t *testing.T) { // P5.5: what is valid for n replicas is valid for more
	roll := dice(2)
	first := map[int]int{} // how many are valid from how many replicas on
	for range 30000 {
		o := anyOp(roll)
		for n := 1; n <= 8; n++ {
			if op.Check(o, n) != api.OK {
				continue
			}
			first[n]++
			for more := n; more <= 8; more++ {
				if e := op.Check(o, more); e != api.OK {
					t.Fatalf("%+v is valid for %d, and for %d: %d", o, n, more, e)
				}
			}
			break
		}
	}
	if len(first) < 6 {
		t.Errorf("of the samples: %v", first)
	}
	for n := 1; n <= 8; n++ { // of the last one of n replicas
		o := api.Op{Dot: api.Dot{R: uint8(n - 1), N: 2}, Time: 1, Who: 1, Kind: api.KdRevoke, Cart: api.Dot{N: 1}, Cred: api.Dot{N: 1}, At: api.Dot{R: uint8(n - 1), N: 1}}
		o.Dep[0], o.Dep[n-1] = 1, 1
		for m := 1; m <= 8; m++ {
			want := api.OK
			if m < n {
				want = api.ErrForm
			}
			if e := op.Check(o, m); e != want {
				t.Errorf("%+v for %d: %d", o, m, e)
			}
		}
	}
}

// different returns operations, valid and not, no two of which are equal.
func different() []api.Op {
	var l []api.Op
	seen := map[string]bool{}
	add := func(o api.Op, turn func(o *api.Op)) {
		o.Lines = slices.Clone(o.Lines)
		turn(&o)
		if said := fmt.Sprint(o); !seen[said] { // it says all of it; nil and empty lists alike
			seen[said] = true
			l = append(l, o)
		}
	}
	bases := []api.Op{{}, {Kind: 255}, submit(1), submit(15), submit(16)}
	for _, kind := range kinds() {
		bases = append(bases, valid(kind))
	}
	for _, o := range bases {
		add(o, func(*api.Op) {})
		for _, f := range fields() {
			for _, v := range slices.Concat(f.right, f.wrong) {
				add(o, func(o *api.Op) { f.set(o, v) })
			}
		}
		for _, v := range []uint64{0, 1, 2, 127, 128, 255, 256, greatest, 1 << 40, 1 << 48, math.MaxUint64} {
			add(o, func(o *api.Op) { o.Time = v })
			add(o, func(o *api.Op) { o.Who = uint32(v) })
			add(o, func(o *api.Op) { o.Kind = uint8(v) })
			add(o, func(o *api.Op) { o.Dot.R = uint8(v) })
			add(o, func(o *api.Op) { o.Dot.N = uint32(v) })
			add(o, func(o *api.Op) { o.Cart.R = uint8(v) })
			add(o, func(o *api.Op) { o.Cart.N = uint32(v) })
			for r := range o.Dep {
				add(o, func(o *api.Op) { o.Dep[r] = uint32(v) })
			}
			for i := range o.Lines {
				add(o, func(o *api.Op) { o.Lines[i].Line.R = uint8(v) })
				add(o, func(o *api.Op) { o.Lines[i].Line.N = uint32(v) })
				add(o, func(o *api.Op) { o.Lines[i].Version.R = uint8(v) })
				add(o, func(o *api.Op) { o.Lines[i].Version.N = uint32(v) })
			}
		}
		for i := range o.Lines {
			add(o, func(o *api.Op) { o.Lines = o.Lines[:i] })
			add(o, func(o *api.Op) { o.Lines = o.Lines[i:] })
			add(o, func(o *api.Op) { o.Lines[0], o.Lines[i] = o.Lines[i], o.Lines[0] })
		}
	}
	return l
}

func TestSame(t *testing.T) { // P5.3
	l := different()
	if len(l) < 1000 {
		t.Fatalf("%d operations", len(l))
	}
	for i, a := range l {
		for j, b := range l {
			if got := op.Same(a, b); got != (i == j) {
				t.Fatalf("Same(%+v, %+v) is %v", a, b, got)
			}
		}
		again := a
		again.Lines = slices.Clone(a.Lines)
		if !op.Same(a, again) || !op.Same(again, a) {
			t.Fatalf("%+v is not the same as itself", a)
		}
	}
}

func TestSameLines(t *testing.T) { // P5.3, R1: nil and empty lists are the same; lists may have any length
	a, b := valid(api.KdAdd), valid(api.KdAdd)
	b.Lines = []api.Claim{}
	if !op.Same(a, b) || !op.Same(b, a) {
		t.Error("nil and empty lists")
	}
	for _, count := range []int{1, 16, 17, 40} {
		a, b := submit(count), submit(count+1)
		if op.Same(a, b) || op.Same(b, a) || op.Same(submit(0), a) || op.Same(a, submit(0)) {
			t.Errorf("%d lines, and one more", count)
		}
		b.Lines = b.Lines[:count]
		if !op.Same(a, b) {
			t.Errorf("%d lines, with others after them", count)
		}
		for i := range count {
			b = submit(count)
			b.Lines[i].Version.N++
			if op.Same(a, b) || op.Same(b, a) {
				t.Errorf("%d lines, with another version at %d", count, i)
			}
		}
	}
}

func TestArgumentsStay(t *testing.T) { // R4, R5: nor is what is after the lines in their memory changed
	for _, count := range []int{0, 1, 3, 16, 17} {
		memory := submit(40).Lines
		o := submit(0)
		o.Lines = memory[:count]
		was := submit(40).Lines
		for range 2 {
			if e := op.Check(o, 3); e != plainCheck(o, 3) {
				t.Errorf("Check of %d lines is %d", count, e)
			}
			op.Covers(o, o.Cart)
			op.Put(o)
			if !op.Same(o, o) {
				t.Errorf("%d lines are not the same as themselves", count)
			}
		}
		if !slices.Equal(memory, was) {
			t.Errorf("%d lines: changed", count)
		}
	}
}
