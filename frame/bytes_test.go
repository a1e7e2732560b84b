package frame_test

import (
	"encoding/binary"
	"encoding/hex"
	"hash/crc32"
	"math"
	"slices"
	"strings"
	"testing"
	"unsafe"

	"tranter/api"
	"tranter/frame"
	"tranter/op"
	"tranter/wire"
)

func num(n uint64) string {
	w := wire.New()
	w.Num(n)
	return w.Bytes()
}

// parts is the chapter's definition of what is sealed, written out: number by number, and each operation's string after its length.
func parts(f api.Frame) []string {
	l := []string{num(uint64(f.Kind)), num(uint64(f.From)), num(uint64(f.To))}
	for _, known := range f.Have {
		l = append(l, num(uint64(known)))
	}
	l = append(l, num(uint64(len(f.Ops))))
	for _, o := range f.Ops {
		b, _ := op.Put(o)
		l = append(l, num(uint64(len(b))), b)
	}
	return l
}

const (
	placeOfCount = 11 // among the parts
	placeOfOps   = 12 // of the first one's length; its string is next
)

func seal(parts ...string) string {
	b := strings.Join(parts, "")
	sum := crc32.Checksum([]byte(b), crc32.MakeTable(crc32.Castagnoli))
	return string(binary.LittleEndian.AppendUint32([]byte(b), sum))
}

func plainPut(f api.Frame) string {
	return seal(parts(f)...)
}

// short tells a test's failure without thousands of bytes in it.
func short(s string) string {
	if len(s) > 60 {
		return hex.EncodeToString([]byte(s[:60])) + " .."
	}
	return hex.EncodeToString([]byte(s))
}

// samples returns valid frames: digests, and deltas of no, one, several and all operations that there can be.
func samples() []api.Frame {
	l := []api.Frame{digest(), {To: 7}, {From: 7}, {Kind: api.FrDelta, From: 6, To: 7}, delta(), delta(api.Op{}), delta(greatestOp()), delta(api.Op{}, api.Op{}), delta(slices.Repeat([]api.Op{greatestOp()}, 64)...)}
	for _, count := range []int{1, 2, 3, 17, 63, 64} {
		l = append(l, delta(operations(count)...))
	}
	return l
}

// notOne says that no frame has those bytes.
func notOne(t *testing.T, what, b string) {
	t.Helper()
	f, e := frame.Get(b)
	if e != api.ErrForm || !plainSame(f, api.Frame{}) || f.Ops != nil {
		t.Errorf("%s: Get(%s) is %+v, %d, want ErrForm", what, short(b), f, e)
	}
}

func TestPutKnown(t *testing.T) { // P6.1, P6.2
	zeros := strings.Repeat("\x00", 8)
	genesis := api.Op{Dot: api.Dot{N: 1}, Time: 1, Who: 7, Cart: api.Dot{N: 1}}
	encoding := "\x00\x01" + zeros + "\x01\x07\x00\x01\x00" + strings.Repeat("\x00", 14)
	for _, x := range []struct {
		f api.Frame
		b string
	}{
		{api.Frame{Kind: api.FrDigest, From: 1, To: 2, Have: api.Vector{3}}, "\x00\x01\x02\x03" + strings.Repeat("\x00", 7) + "\x00"},
		{api.Frame{Kind: api.FrDelta, From: 0, To: 1}, "\x01\x00\x01" + zeros + "\x00"},
		{api.Frame{Kind: api.FrDigest, From: 7, To: 0, Have: api.Vector{0, 0, 0, 0, 0, 0, 300, 1}}, "\x00\x07\x00\x00\x00\x00\x00\x00\x00\x82\x01\x2c\x01\x00"},
		{api.Frame{Kind: api.FrDelta, From: 3, To: 4, Have: api.Vector{1, 128}, Ops: []api.Op{genesis, {}}}, "\x01\x03\x04\x01\x81\x80\x00\x00\x00\x00\x00\x00\x02\x1d" + encoding + "\x1d" + strings.Repeat("\x00", 29)},
	} {
		if b, e := frame.Put(x.f); b != seal(x.b) || e != api.OK {
			t.Errorf("Put(%+v) is %x, %d, want %x", x.f, b, e, seal(x.b))
		}
		if f, e := frame.Get(seal(x.b)); !plainSame(f, x.f) || e != api.OK {
			t.Errorf("Get(%x) is %+v, %d, want %+v", seal(x.b), f, e, x.f)
		}
	}
	if b, e := frame.Put(api.Frame{From: 1, To: 2, Have: api.Vector{3}}); !strings.HasSuffix(b, "\x0e\xcf\xfe\x36") || e != api.OK {
		t.Errorf("the sum's bytes: %x, %d", b, e)
	}
}

func TestGetOfPut(t *testing.T) { // P6.2, P6.3: no operations as nil
	for _, f := range samples() {
		b, e := frame.Put(f)
		if b != plainPut(f) || e != api.OK {
			t.Fatalf("Put(%+v) is %s, %d", f, short(b), e)
		}
		for range 2 { // R4
			got, e := frame.Get(b)
			if !plainSame(got, f) || !frame.Same(got, f) || e != api.OK || len(f.Ops) == 0 && got.Ops != nil {
				t.Fatalf("Get(%s) is %+v, %d, want %+v", short(b), got, e, f)
			}
			if again, e := frame.Put(got); again != b || e != api.OK {
				t.Fatalf("%s is read, and put as %s, %d", short(b), short(again), e)
			}
		}
	}
	if f, e := frame.Get(plainPut(api.Frame{To: 1, Ops: []api.Op{}})); f.Ops != nil || e != api.OK {
		t.Errorf("of an empty list: %+v, %d", f, e)
	}
}

func TestGetNotSealed(t *testing.T) { // P6.2, R3
	for _, b := range []string{"", "\x00", "\x00\x00\x00", "\x00\x00\x00\x00", "\x00\x00\x00\x00\x00", strings.Repeat("\xff", 20), strings.Repeat("\x00", 1<<20)} {
		notOne(t, "no frame", b)
	}
	notOne(t, "nothing", seal())
	for _, f := range samples() {
		b := plainPut(f)
		content := b[:len(b)-4]
		notOne(t, "no sum", content)
		notOne(t, "another sum", content+"\x00\x00\x00\x00")
		sum := []byte(b[len(b)-4:])
		slices.Reverse(sum)
		notOne(t, "a sum from its other end", content+string(sum))
		notOne(t, "sealed twice", seal(b))
	}
}

func TestGetCut(t *testing.T) { // P6.2, R6: at each place, as it is and sealed; and what has more
	for _, f := range samples() {
		b := plainPut(f)
		content := b[:len(b)-4]
		if len(b) > 4000 {
			content = content[:4000]
		}
		for cut := range len(content) {
			notOne(t, "cut", b[:cut])
			notOne(t, "cut at its beginning", b[cut+1:])
			notOne(t, "cut, and sealed", seal(content[:cut]))
		}
		for _, more := range []string{"\x00", "\x01", "\x80", "\xff", b} {
			notOne(t, "more", b+more)
			notOne(t, "more, and sealed", seal(b[:len(b)-4], more))
			notOne(t, "more ahead", more+b)
		}
	}
}

// with returns the sealed parts with another one at a place.
func with(l []string, place int, s string) string {
	l = slices.Clone(l)
	l[place] = s
	return seal(l...)
}

// longNumbers returns ways to write the number that take more bytes than it needs, and what is no number at all.
func longNumbers(n string) []string {
	digits := n
	if n[0] >= 128 {
		digits = n[1:]
	}
	l := []string{"", "\x80", "\x80" + n, "\x89\x00" + strings.Repeat("\x00", 8-len(digits)) + digits, "\xff"}
	for count := len(digits); count <= 8; count++ {
		if count > len(digits) || n[0] < 128 {
			l = append(l, string([]byte{byte(128 + count)})+strings.Repeat("\x00", count-len(digits))+digits)
		}
	}
	return l
}

// isNumber says whether the part there is a number, rather than an operation's string.
func isNumber(place int) bool {
	return place <= placeOfCount || (place-placeOfOps)%2 == 0
}

func TestGetWrongNumbers(t *testing.T) { // P6.2, R6: at each place longer than it need be
	for _, f := range samples() {
		l := parts(f)
		if with(l, 0, l[0]) != plainPut(f) {
			t.Fatal("the test's own parts")
		}
		for place, part := range l {
			if !isNumber(place) {
				continue
			}
			for _, s := range longNumbers(part) {
				notOne(t, "a long number", with(l, place, s))
			}
		}
	}
}

func TestGetGreatNumbers(t *testing.T) { // P6.2, R6: above what the field may be, and what would be it if it were cut
	great := []uint64{64, 65, 127, 128, 255, 256, 257, 258, 259, 261, 1<<16 + 1, 1 << 32, 1<<32 + 1, 1<<32 + 3, 1 << 63, math.MaxUint64}
	for _, f := range []api.Frame{digest(), delta(), delta(operations(2)...)} {
		l := parts(f)
		for _, n := range great {
			notOne(t, "Kind", with(l, 0, num(n)))
			notOne(t, "From", with(l, 1, num(n)))
			notOne(t, "To", with(l, 2, num(n)))
			notOne(t, "the number of operations", with(l, placeOfCount, num(n)))
			for place := 3; place < placeOfCount; place++ {
				if n <= greatest {
					continue
				}
				notOne(t, "Have", with(l, place, num(n)))
			}
		}
	}
}

func TestGetNotValid(t *testing.T) { // P6.2: what would be the encoding of a frame that is not valid
	fine, wrong := 0, 0
	for kind := range uint8(4) {
		for from := range uint8(10) {
			for to := range uint8(10) {
				for _, count := range []int{0, 1, 2, 64, 65} {
					f := api.Frame{Kind: kind, From: from, To: to, Have: digest().Have, Ops: make([]api.Op, count)}
					b := plainPut(f)
					if !plainMay(f) {
						wrong++
						notOne(t, "not valid", b)
						continue
					}
					fine++
					if got, e := frame.Get(b); !plainSame(got, f) || e != api.OK {
						t.Errorf("Get(%s) is %+v, %d", short(b), got, e)
					}
				}
			}
		}
	}
	if fine == 0 || wrong == 0 {
		t.Errorf("%d frames are valid, %d are not", fine, wrong)
	}
	for _, count := range []int{66, 127, 128, 255, 256, 257, 320, 1 << 16} {
		notOne(t, "a delta of too many", plainPut(api.Frame{Kind: api.FrDelta, To: 1, Ops: make([]api.Op, count)}))
		notOne(t, "a digest of many", plainPut(api.Frame{Kind: api.FrDigest, To: 1, Ops: make([]api.Op, count)}))
	}
}

func TestGetNumberOfOps(t *testing.T) { // P6.2: as many as there are, no more, no fewer
	one := []string{num(29), strings.Repeat("\x00", 29)}
	head := parts(delta())[:placeOfCount]
	for there := range 67 {
		for said := range 67 {
			l := append(slices.Clone(head), num(uint64(said)))
			b := seal(append(l, slices.Repeat(one, there)...)...)
			if there != said || said > 64 {
				notOne(t, "another number", b)
				continue
			}
			if f, e := frame.Get(b); !plainSame(f, delta(make([]api.Op, there)...)) || e != api.OK {
				t.Errorf("%d operations: %+v, %d", there, f, e)
			}
		}
	}
}

// noOps returns strings that are the encoding of no operation: empty, cut, longer, with numbers that are longer than they need be, or of too many lines.
func noOps(b string) []string {
	zeros := strings.Repeat("\x00", 28)
	l := []string{"", "\x00", b + "\x00", b + b, "\x00" + b, "\x81" + b, zeros, zeros + "\x01", zeros + "\x80", zeros + "\x81\x00", zeros + "\x11" + strings.Repeat("\x00", 17*4)}
	for cut := range len(b) {
		l = append(l, b[:cut])
	}
	return l
}

func TestGetWrongOps(t *testing.T) { // P6.2, R3, R6: at each place, after others that are valid, and before
	for _, count := range []int{1, 2, 5, 64} {
		l := parts(delta(operations(count)...))
		for place := placeOfOps; place < len(l); place += 2 {
			for _, s := range noOps(l[place+1]) {
				wrong := slices.Clone(l)
				wrong[place], wrong[place+1] = num(uint64(len(s))), s
				notOne(t, "no operation", seal(wrong...))
			}
			if count == 64 {
				place += 2 * 7
			}
		}
	}
}

func TestGetWrongLengths(t *testing.T) { // P6.2, R6: of an operation's string
	for _, f := range []api.Frame{delta(api.Op{}), delta(operations(3)...), delta(greatestOp(), api.Op{})} {
		l := parts(f)
		for place := placeOfOps; place < len(l); place += 2 {
			length := uint64(len(l[place+1]))
			for _, n := range []uint64{0, 1, length - 1, length + 1, length + 4, length + 256, length + 1<<32, 1 << 31, 1 << 32, 1 << 63, math.MaxUint64} {
				notOne(t, "another length", with(l, place, num(n)))
			}
		}
	}
}

func TestGetAny(t *testing.T) { // P6.2, P6.3, R1, R6: what is read of any bytes is put as these
	const digits = "\x00\x00\x01\x02\x03\x05\x07\x08\x1d\x7f\x80\x81\x82\x84\x88\xff"
	roll := dice(2)
	all := []api.Frame{digest(), {To: 1}, delta(), delta(api.Op{}), delta(operations(3)...), delta(greatestOp(), api.Op{})}
	fine, wrong := 0, 0
	for range 60000 {
		b := []byte(plainPut(all[roll(len(all))]))
		b = b[:len(b)-4]
		for range roll(3) + 1 {
			at := roll(len(b))
			switch roll(4) {
			case 0:
				b = slices.Delete(b, at, at+1)
			case 1:
				b = slices.Insert(b, at, digits[roll(len(digits))])
			default:
				b[at] = digits[roll(len(digits))]
			}
		}
		sealed := seal(string(b))
		f, e := frame.Get(sealed)
		if e != api.OK {
			notOne(t, "any", sealed)
			wrong++
			continue
		}
		fine++
		if again, e := frame.Put(f); again != sealed || e != api.OK || !plainMay(f) {
			t.Fatalf("%s is read as %+v, and put as %s, %d", short(sealed), f, short(again), e)
		}
	}
	if fine < 1000 || wrong < 1000 {
		t.Errorf("%d samples are frames, %d are not", fine, wrong)
	}
}

// inverted returns the bytes with the pattern's bits inverted, from a bit on; false if that is past the last byte.
func inverted(s string, from int, pattern uint32) (string, bool) {
	b := []byte(s)
	for bit := range 32 {
		if pattern>>bit&1 == 0 {
			continue
		}
		place := (from + bit) / 8
		if place >= len(b) {
			return "", false
		}
		b[place] ^= 1 << ((from + bit) % 8)
	}
	return string(b), true
}

func TestBursts(t *testing.T) { // P6.3
	patterns := []uint32{1, 3, 5, 1<<31 | 1, 1<<16 | 1, 255, math.MaxUint32, 0x82f63b79, 0xdeadbeef}
	for _, f := range []api.Frame{{To: 1}, digest(), delta(), delta(api.Op{}), delta(operation(9, 3), operation(8, 1))} {
		b := plainPut(f)
		for from := range 8 * len(b) {
			for _, pattern := range patterns {
				if wrong, is := inverted(b, from, pattern); is {
					notOne(t, "a burst", wrong)
				}
			}
		}
	}
}

func TestDifferentEncodings(t *testing.T) { // P6.3: frames that are not equal
	seen := map[string]int{}
	l := different()
	for i, f := range l {
		b, e := frame.Put(f)
		if (e == api.OK) != plainMay(f) {
			t.Fatalf("Put(%+v) is %d", f, e)
		}
		if e != api.OK {
			continue
		}
		if j, is := seen[b]; is {
			t.Errorf("%s is put for %+v and for %+v", short(b), f, l[j])
		}
		seen[b] = i
	}
	if len(seen) < 30 {
		t.Errorf("%d frames are valid", len(seen))
	}
}

func TestGetIsNewMemory(t *testing.T) { // R5: nothing is shared with the argument, with another result, or between two lists of one
	want := delta(operations(20)...)
	bytes := []byte(plainPut(want))
	first, _ := frame.Get(unsafe.String(&bytes[0], len(bytes)))
	second, _ := frame.Get(string(bytes))
	clear(bytes)
	for _, o := range first.Ops[:cap(first.Ops)] {
		lines := o.Lines[:cap(o.Lines)]
		for i := range lines {
			lines[i] = api.Claim{Line: api.Dot{R: 99, N: 99}}
		}
	}
	for i, o := range first.Ops {
		if len(o.Lines) != len(want.Ops[i].Lines) || len(o.Lines) > 0 && o.Lines[0].Line.R != 99 {
			t.Errorf("the operation %d: %+v", i, o)
		}
	}
	clear(first.Ops[:cap(first.Ops)])
	if !plainSame(second, want) {
		t.Errorf("%+v", second)
	}
	third, _ := frame.Get(plainPut(want))
	for place, o := range third.Ops {
		clear(o.Lines[:cap(o.Lines)])
		third.Ops[place].Lines = operation(0, len(o.Lines)).Lines
		if !plainSame(third, want) {
			t.Fatalf("the lines of %d are those of another one: %+v", place, third)
		}
	}
}
