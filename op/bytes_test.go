package op_test

import (
	"encoding/binary"
	"math"
	"slices"
	"strings"
	"testing"
	"unsafe"

	"tranter/api"
	"tranter/op"
)

// part is a number of an encoding, and the greatest that its field may have.
type part struct {
	name    string
	n, most uint64
}

func dotParts(name string, d api.Dot) []part {
	return []part{{name + ".R", uint64(d.R), math.MaxUint8}, {name + ".N", uint64(d.N), greatest}}
}

// plainParts is the chapter's definition of the encoding, written out: all of it is numbers.
func plainParts(o api.Op) []part {
	l := dotParts("Dot", o.Dot)
	for _, known := range o.Dep {
		l = append(l, part{"Dep", uint64(known), greatest})
	}
	l = append(l, part{"Time", o.Time, math.MaxUint64}, part{"Who", uint64(o.Who), greatest})
	l = append(l, dotParts("Cart", o.Cart)...)
	l = append(l, part{"Kind", uint64(o.Kind), math.MaxUint8})
	l = append(l, dotParts("Cred", o.Cred)...)
	l = append(l, part{"To", uint64(o.To), greatest}, part{"Roles", uint64(o.Roles), math.MaxUint8}, part{"Depth", uint64(o.Depth), math.MaxUint8}, part{"Cap", o.Cap, math.MaxUint64})
	l = append(l, dotParts("At", o.At)...)
	l = append(l, dotParts("Version", o.Version)...)
	l = append(l, part{"Item", uint64(o.Item), greatest}, part{"Qty", uint64(o.Qty), greatest}, part{"Price", uint64(o.Price), greatest})
	l = append(l, part{"Lines", uint64(len(o.Lines)), 16})
	for _, c := range o.Lines {
		l = append(l, dotParts("Line", c.Line)...)
		l = append(l, dotParts("Version", c.Version)...)
	}
	return l
}

func plainNum(n uint64) string {
	if n < 128 {
		return string([]byte{byte(n)})
	}
	b := strings.TrimLeft(string(binary.BigEndian.AppendUint64(nil, n)), "\x00")
	return string([]byte{byte(128 + len(b))}) + b
}

func plainPut(o api.Op) string {
	s := ""
	for _, p := range plainParts(o) {
		s += plainNum(p.n)
	}
	return s
}

// full returns the operation whose fields are all as great as they can be, with count lines.
func full(count int) api.Op {
	d := api.Dot{R: math.MaxUint8, N: greatest}
	o := api.Op{Dot: d, Time: math.MaxUint64, Who: greatest, Cart: d, Kind: 255, Cred: d, To: greatest, Roles: 255, Depth: 255, Cap: math.MaxUint64, At: d, Version: d, Item: greatest, Qty: greatest, Price: greatest}
	for r := range o.Dep {
		o.Dep[r] = greatest
	}
	for range count {
		o.Lines = append(o.Lines, api.Claim{Line: d, Version: d})
	}
	return o
}

// samples returns operations of each kind, and others that no kind is like, with up to 16 lines.
func samples() []api.Op {
	l := []api.Op{{}, {Kind: 9}, full(0), full(1), full(16), {Lines: make([]api.Claim, 16)}}
	for _, kind := range kinds() {
		l = append(l, valid(kind))
	}
	for count := range 17 {
		l = append(l, submit(count))
	}
	o := api.Op{Dot: api.Dot{R: 1, N: 2}, Dep: api.Vector{3, 4, 5, 6, 7, 8, 9, 10}, Time: 11, Who: 12, Cart: api.Dot{R: 13, N: 14}, Kind: 15, Cred: api.Dot{R: 16, N: 17}, To: 18, Roles: 19, Depth: 20, Cap: 21, At: api.Dot{R: 22, N: 23}, Version: api.Dot{R: 24, N: 25}, Item: 26, Qty: 27, Price: 28}
	o.Lines = []api.Claim{{Line: api.Dot{R: 30, N: 31}, Version: api.Dot{R: 32, N: 33}}, {Line: api.Dot{R: 34, N: 35}, Version: api.Dot{R: 36, N: 37}}}
	return append(l, o)
}

// notOne says that no operation has those bytes.
func notOne(t *testing.T, what, b string) {
	t.Helper()
	if o, e := op.Get(b); e != api.ErrForm || !plainSame(o, api.Op{}) || o.Lines != nil {
		t.Errorf("%s: Get(%x) is %+v, %d, want ErrForm", what, b, o, e)
	}
}

func TestPutKnown(t *testing.T) { // P5.2
	g := api.Op{Dot: api.Dot{N: 1}, Time: 1, Who: 7, Cart: api.Dot{N: 1}}
	s := api.Op{Dot: api.Dot{R: 1, N: 300}, Dep: api.Vector{9, 299, 0, 0, 0, 0, 0, 1}, Time: 1 << 48, Who: 128, Cart: api.Dot{R: 0, N: 1}, Kind: api.KdSubmit, Cred: api.Dot{R: 7, N: 1},
		Lines: []api.Claim{{Line: api.Dot{N: 3}, Version: api.Dot{N: 4}}, {Line: api.Dot{R: 1, N: 5}, Version: api.Dot{R: 1, N: 256}}}}
	r := api.Op{Dot: api.Dot{N: 2}, Dep: api.Vector{1}, Time: 2, Who: 1, Cart: api.Dot{N: 1}, Kind: api.KdGrant, Cred: api.Dot{N: 1}, To: 65536, Roles: 7, Depth: 6, Cap: 1 << 40}
	p := api.Op{Dot: api.Dot{N: 2}, Dep: api.Vector{3}, Time: 2, Who: 1, Cart: api.Dot{N: 1}, Kind: api.KdApprove, Cred: api.Dot{N: 1}, At: api.Dot{R: 4, N: 2}, Version: api.Dot{R: 5, N: 3}}
	for _, x := range []struct {
		o api.Op
		b string
	}{
		{g, "\x00\x01" + strings.Repeat("\x00", 8) + "\x01\x07\x00\x01\x00" + strings.Repeat("\x00", 14)},
		{s, "\x01\x82\x01\x2c\x09\x82\x01\x2b\x00\x00\x00\x00\x00\x01\x87\x01\x00\x00\x00\x00\x00\x00\x81\x80\x00\x01\x08\x07\x01" + strings.Repeat("\x00", 11) + "\x02\x00\x03\x00\x04\x01\x05\x01\x82\x01\x00"},
		{r, "\x00\x02\x01\x00\x00\x00\x00\x00\x00\x00\x02\x01\x00\x01\x01\x00\x01\x83\x01\x00\x00\x07\x06\x86\x01\x00\x00\x00\x00\x00" + strings.Repeat("\x00", 8)},
		{p, "\x00\x02\x03\x00\x00\x00\x00\x00\x00\x00\x02\x01\x00\x01\x06\x00\x01\x00\x00\x00\x00\x04\x02\x05\x03\x00\x00\x00\x00"},
		{api.Op{}, strings.Repeat("\x00", 29)},
	} {
		if b, e := op.Put(x.o); b != x.b || e != api.OK {
			t.Errorf("Put(%+v) is %x, %d, want %x", x.o, b, e, x.b)
		}
		if o, e := op.Get(x.b); !plainSame(o, x.o) || e != api.OK {
			t.Errorf("Get(%x) is %+v, %d, want %+v", x.b, o, e, x.o)
		}
	}
}

func TestPut(t *testing.T) { // P5.2: whatever the form
	for _, o := range slices.Concat(samples(), different()) {
		if b, e := op.Put(o); b != plainPut(o) || e != api.OK {
			t.Fatalf("Put(%+v) is %x, %d, want %x", o, b, e, plainPut(o))
		}
	}
}

func TestPutLong(t *testing.T) { // P5.2, R3
	for _, count := range []int{17, 18, 32, 255, 256, 257, 272, 65536, 65552} {
		for _, o := range []api.Op{submit(count), full(count), {Lines: make([]api.Claim, count)}} {
			if b, e := op.Put(o); b != "" || e != api.ErrLong {
				t.Errorf("%d lines: %x, %d, want ErrLong", count, b, e)
			}
		}
	}
	o := valid(api.KdSubmit)
	o.Lines = []api.Claim{}
	none := o
	none.Lines = nil
	a, _ := op.Put(o)
	if b, e := op.Put(none); a != b || e != api.OK {
		t.Errorf("of an empty list %x, of none %x, %d", a, b, e)
	}
}

func TestGet(t *testing.T) { // P5.2, P5.4: whatever the form; no lines as nil
	for _, o := range slices.Concat(samples(), different()) {
		b, e := op.Put(o)
		if e != api.OK {
			t.Fatalf("Put(%+v) is %d", o, e)
		}
		got, e := op.Get(b)
		if !plainSame(got, o) || !op.Same(got, o) || e != api.OK || len(o.Lines) == 0 && got.Lines != nil {
			t.Fatalf("Get(%x) is %+v, %d, want %+v", b, got, e, o)
		}
		if again, e := op.Put(got); again != b || e != api.OK {
			t.Fatalf("%x is read, and put as %x, %d", b, again, e)
		}
	}
}

func TestGetCut(t *testing.T) { // P5.2, R3, R6
	for _, o := range samples() {
		b := plainPut(o)
		for cut := range len(b) {
			notOne(t, "cut", b[:cut])
		}
		for _, more := range []string{"\x00", "\x01", "\x80", "\xff", b} {
			notOne(t, "more", b+more)
		}
	}
	notOne(t, "none", "")
}

// longNumbers returns ways to write the number that take more bytes than it needs, and what is no number at all.
func longNumbers(n uint64) []string {
	eight := string(binary.BigEndian.AppendUint64(nil, n))
	needs := len(strings.TrimLeft(eight, "\x00"))
	l := []string{"\x80", "\x89" + eight, "\x89\x00" + eight, "\xff"}
	for count := 1; count <= 8; count++ {
		if count > needs || n < 128 && count == needs {
			l = append(l, string([]byte{byte(128 + count)})+eight[8-count:])
		}
	}
	return l
}

func TestGetWrongNumbers(t *testing.T) { // P5.2, R6: at each place longer than it need be, or above what its field may be
	for _, o := range samples() {
		parts := plainParts(o)
		with := func(place int, s string) string {
			b := ""
			for i, p := range parts {
				if i == place {
					b += s
				} else {
					b += plainNum(p.n)
				}
			}
			return b
		}
		for i, p := range parts {
			for _, s := range longNumbers(p.n) {
				notOne(t, p.name, with(i, s))
			}
			for _, n := range []uint64{p.most + 1, p.most + 2, p.most*2 + 1, p.most + 1 + p.n, p.most<<8 + 1, 1 << 63, math.MaxUint64} {
				if n > p.most {
					notOne(t, p.name, with(i, plainNum(n)))
				}
			}
			if p.name == "Lines" {
				continue
			}
			if got, e := op.Get(with(i, plainNum(p.most))); e != api.OK || plainParts(got)[i].n != p.most {
				t.Errorf("%s of %d: %+v, %d", p.name, p.most, got, e)
			}
		}
	}
}

func TestGetNumberOfLines(t *testing.T) { // P5.2: up to 16, and as many as there are
	head := strings.Repeat("\x00", 28)
	for there := range 20 {
		for said := range uint64(20) {
			b := head + plainNum(said) + strings.Repeat("\x01\x02\x03\x04", there)
			if uint64(there) != said || there > 16 {
				notOne(t, "Lines", b)
				continue
			}
			got, e := op.Get(b)
			want := api.Op{Lines: slices.Repeat([]api.Claim{{Line: api.Dot{R: 1, N: 2}, Version: api.Dot{R: 3, N: 4}}}, there)}
			if !plainSame(got, want) || e != api.OK {
				t.Errorf("%d lines: %+v, %d", there, got, e)
			}
		}
	}
	for _, said := range []uint64{17, 18, 255, 256, 272, 1 << 32, 1<<32 + 1, 1 << 63, math.MaxUint64} {
		for _, there := range []int{0, 1, 16, 17, 272} {
			notOne(t, "Lines", head+plainNum(said)+strings.Repeat("\x00", 4*there))
		}
	}
}

func TestGetAny(t *testing.T) { // P5.4, R6: what is read of any bytes is put as these
	roll := dice(3)
	const digits = "\x00\x00\x01\x02\x05\x7f\x80\x81\x82\x84\x88\x89\xff"
	all := samples()
	fine, wrong := 0, 0
	for range 60000 {
		b := []byte(plainPut(all[roll(len(all))]))
		for range roll(3) + 1 {
			at := roll(len(b))
			switch roll(3) {
			case 0:
				b = slices.Delete(b, at, at+1)
			case 1:
				b = slices.Insert(b, at, digits[roll(len(digits))])
			case 2:
				b[at] = digits[roll(len(digits))]
			}
		}
		o, e := op.Get(string(b))
		if e != api.OK {
			notOne(t, "any", string(b))
			wrong++
			continue
		}
		fine++
		if again, e := op.Put(o); again != string(b) || e != api.OK || len(o.Lines) > 16 {
			t.Fatalf("%x is read as %+v, and put as %x, %d", b, o, again, e)
		}
	}
	if fine < 1000 || wrong < 1000 {
		t.Errorf("%d samples are operations, %d are not", fine, wrong)
	}
}

func TestDifferentEncodings(t *testing.T) { // P5.4
	seen := map[string]int{}
	l := different()
	for i, o := range l {
		b, _ := op.Put(o)
		if j, is := seen[b]; is {
			t.Fatalf("%x is put for %+v and for %+v", b, o, l[j])
		}
		seen[b] = i
	}
}

func TestGetIsNewMemory(t *testing.T) { // R4, R5
	bytes := []byte(plainPut(submit(5)))
	first, _ := op.Get(unsafe.String(&bytes[0], len(bytes)))
	second, _ := op.Get(string(bytes))
	all := first.Lines[:cap(first.Lines)]
	for i := range all {
		all[i] = api.Claim{Line: api.Dot{R: 99, N: 99}}
	}
	third, _ := op.Get(string(bytes))
	o := submit(5)
	b, _ := op.Put(o)
	clear(bytes)
	clear(o.Lines)
	if !plainSame(second, submit(5)) || !plainSame(third, submit(5)) || b != plainPut(submit(5)) {
		t.Errorf("%+v, %+v, %x", second, third, b)
	}
}
