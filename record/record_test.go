package record_test

import (
	"math"
	"slices"
	"strings"
	"testing"
	"unsafe"

	"tranter/api"
	"tranter/record"
)

func TestPutKnown(t *testing.T) { // P8.1
	for _, x := range []struct {
		l   []string
		row string
	}{
		{nil, ""},
		{[]string{}, ""},
		{[]string{""}, "\x00\x51\x53\x7d\x52"},
		{[]string{"a"}, "\x01a\xc4\xff\x6e\x71"},
		{[]string{"a", ""}, "\x01a\xc4\xff\x6e\x71\x00\x51\x53\x7d\x52"},
		{[]string{"", "a"}, "\x00\x51\x53\x7d\x52\x01a\xc4\xff\x6e\x71"},
	} {
		if row, e := record.Put(x.l...); row != x.row || e != api.OK {
			t.Errorf("Put(%q) is %x, %d, want %x", x.l, row, e, x.row)
		}
	}
	for length, head := range map[int]string{127: "\x7f", 128: "\x81\x80", 255: "\x81\xff", 256: "\x82\x01\x00", 65535: "\x82\xff\xff", 65536: "\x83\x01\x00\x00"} {
		text := strings.Repeat("x", length)
		if row, e := record.Put(text); row != plainSeal(head+text) || e != api.OK {
			t.Errorf("a string of %d bytes: %s, %d", length, short(row), e)
		}
	}
}

func TestPutRows(t *testing.T) { // P8.1
	for _, l := range rows() {
		for range 2 { // R4
			if row, e := record.Put(l...); row != plainRow(l...) || e != api.OK {
				t.Errorf("%d strings: %s, %d, want %s", len(l), short(row), e, short(plainRow(l...)))
			}
		}
	}
}

func TestPutTooLong(t *testing.T) { // P8.1, R3: wherever it is
	fine := []string{"", "a", strings.Repeat("y", 65536)}
	for _, long := range tooLong() {
		for at := range len(fine) + 1 {
			if row, e := record.Put(slices.Insert(slices.Clone(fine), at, long)...); row != "" || e != api.ErrLong {
				t.Errorf("a string of %d bytes at %d: %s, %d, want ErrLong", len(long), at, short(row), e)
			}
		}
		if row, e := record.Put(long); row != "" || e != api.ErrLong {
			t.Errorf("a string of %d bytes: %s, %d, want ErrLong", len(long), short(row), e)
		}
	}
	if row, e := record.Put(fine...); row != plainRow(fine...) || e != api.OK {
		t.Errorf("of 65536 bytes: %s, %d", short(row), e)
	}
}

func TestScanKnown(t *testing.T) { // P8.2: the chapter's examples, and more
	row := plainRow("a", "")
	scans(t, "two", row, []string{"a", ""}, 11, 0)
	scans(t, "without the last byte", row[:10], []string{"a"}, 6, 1)
	scans(t, "with 05 behind", row+"\x05", []string{"a", ""}, 11, 1)
	scans(t, "the first one", row[:6], []string{"a"}, 6, 0)
	scans(t, "nothing", "", nil, 0, 0)
	for _, before := range [][]string{nil, {""}, {"a", ""}, {strings.Repeat("x", 300), "b"}} {
		begun := plainRow(before...)
		for _, bad := range []string{"\x82\x00", "\x84", "\x81\x05", "\x83\x02"} {
			scans(t, "bad", begun+bad, before, len(begun), 2)
		}
		scans(t, "torn", begun+"\x83", before, len(begun), 1)
	}
	if l, _, _ := record.Scan("\x84"); l != nil {
		t.Errorf("no strings are %#v", l)
	}
}

func TestScanOfPut(t *testing.T) { // P8.2, P8.3
	for _, l := range rows() {
		row, e := record.Put(l...)
		if e != api.OK {
			t.Fatal(e)
		}
		scans(t, "a row", row, l, len(row), 0)
	}
}

// ends returns where each record of a row ends.
func ends(l []string) []int {
	var all []int
	end := 0
	for _, text := range l {
		end += len(plainRecord(text))
		all = append(all, end)
	}
	return all
}

// cuts returns all places of a row, or of a long one those around the ends, and some others.
func cuts(ends []int, size int) []int {
	var all []int
	for cut := range size {
		near := size < 600 || cut%9973 == 0 || cut < 8
		for _, end := range ends {
			near = near || cut > end-8 && cut < end+8
		}
		if near {
			all = append(all, cut)
		}
	}
	return all
}

func TestScanOfBeginnings(t *testing.T) { // P8.3: what is complete, and torn
	for _, l := range rows() {
		row := plainRow(l...)
		at := ends(l)
		for _, cut := range cuts(at, len(row)) {
			count, taken := 0, 0
			for count < len(l) && at[count] <= cut {
				taken = at[count]
				count++
			}
			state := uint8(1)
			if taken == cut {
				state = 0
			}
			scans(t, "a beginning", row[:cut], l[:count], taken, state)
		}
	}
}

func TestScanAllShort(t *testing.T) { // P8.2, R6: all of up to two bytes, and three of those that begin with a length's count
	all := allLengths()
	states := map[uint8]int{}
	states[all.asPlain(t, "")]++
	for a := range 256 {
		states[all.asPlain(t, string([]byte{byte(a)}))]++
		for b := range 256 {
			states[all.asPlain(t, string([]byte{byte(a), byte(b)}))]++
			if a < 128 || a > 137 {
				continue
			}
			for c := range 256 {
				s := string([]byte{byte(a), byte(b), byte(c)})
				_, taken, state := record.Scan(s)
				if taken != 0 || state != all.state(s) {
					t.Fatalf("Scan(%s) is %d, %d, want 0, %d", short(s), taken, state, all.state(s))
				}
			}
		}
	}
	if states[0] != 1 || states[1] < 1000 || states[2] < 1000 {
		t.Error(states)
	}
}

func TestScanIncompleteLengths(t *testing.T) { // P8.2: alone, and behind records
	torn := []string{"\x81", "\x82", "\x82\x01", "\x82\x7f", "\x82\x80", "\x82\xff", "\x83", "\x83\x01", "\x83\x01\x00"}
	bad := []string{"\x80", "\x82\x00", "\x83\x00", "\x83\x02", "\x83\x80", "\x83\xff", "\x83\x01\x01", "\x83\x01\xff", "\x83\x00\x01"}
	for first := 0x84; first <= 0xff; first++ {
		for _, digits := range []string{"", "\x00", "\x01", "\x00\x01", "\x01\x00", "\x00\x00\x00", "\x00\x01\x00", "\xff"} {
			bad = append(bad, string([]byte{byte(first)})+digits)
		}
	}
	for _, before := range [][]string{nil, {""}, {"a", strings.Repeat("b", 200)}} {
		begun := plainRow(before...)
		for _, s := range torn {
			scans(t, "can still become a length", begun+s, before, len(begun), 1)
		}
		for _, s := range bad {
			scans(t, "can become none", begun+s, before, len(begun), 2)
		}
	}
}

func TestScanWholeLengths(t *testing.T) { // P8.2, R6: with nothing behind, and with a text and a sum that would be right
	for _, x := range []struct {
		head   string
		length int
		fine   bool
	}{
		{"\x00", 0, true}, {"\x7f", 127, true}, {"\x81\x80", 128, true}, {"\x81\xff", 255, true}, {"\x82\x01\x00", 256, true}, {"\x82\xff\xff", 65535, true}, {"\x83\x01\x00\x00", 65536, true},
		{"\x80", 0, false}, {"\x81\x00", 0, false}, {"\x81\x05", 5, false}, {"\x81\x7f", 127, false}, {"\x82\x00\x80", 128, false}, {"\x82\x00\xff", 255, false}, {"\x83\x00\x01\x00", 256, false}, {"\x83\x00\xff\xff", 65535, false}, {"\x84\x00\x01\x00\x00", 65536, false}, {"\x88\x00\x00\x00\x00\x00\x00\x00\x05", 5, false},
		{"\x83\x01\x00\x01", 65537, false}, {"\x83\x02\x00\x00", 131072, false}, {"\x83\xff\xff\xff", 1<<24 - 1, false}, {"\x84\x01\x00\x00\x00", 1 << 24, false}, {"\x84\x01\x00\x00\x05", 5, false}, {"\x85\x01\x00\x00\x00\x05", 5, false}, {"\x88\x80\x00\x00\x00\x00\x00\x00\x05", 5, false}, {"\x88\xff\xff\xff\xff\xff\xff\xff\xff", 8, false}, {"\x89\x00\x00\x00\x00\x00\x00\x00\x00\x05", 5, false},
	} {
		text := strings.Repeat("x", x.length)
		whole := plainSeal(x.head + text)
		if !x.fine {
			scans(t, "a length that is none", x.head, nil, 0, 2)
			scans(t, "a length that is none, with its text", whole, nil, 0, 2)
			scans(t, "a length that is none, behind a record", plainRecord("a")+whole, []string{"a"}, 6, 2)
			continue
		}
		scans(t, "a length", x.head, nil, 0, 1)
		scans(t, "a length, with its text", whole, []string{text}, len(whole), 0)
	}
}

func TestScanWrongSums(t *testing.T) { // P8.2: each byte of a sum another one, whole and cut
	for _, text := range []string{"", "a", "\x00\x00\x00\x00", noise(1, 127), noise(2, 128), noise(3, 300), noise(4, 65536)} {
		good := plainRecord(text)
		begun := plainRow("b", "")
		for at := len(good) - 4; at < len(good); at++ {
			for _, flip := range []byte{1, 0x80, 0xff} {
				wrong := []byte(good)
				wrong[at] ^= flip
				for cut := at + 1; cut <= len(good); cut++ {
					scans(t, "a wrong sum", string(wrong[:cut]), nil, 0, 2)
					scans(t, "a wrong sum, behind records", begun+string(wrong[:cut]), []string{"b", ""}, len(begun), 2)
				}
				scans(t, "a wrong sum, with more behind", string(wrong)+begun, nil, 0, 2)
				scans(t, "a sum that is torn ahead of what is wrong", good[:at], nil, 0, 1)
			}
		}
		scans(t, "no sum", good[:len(good)-4], nil, 0, 1)
		scans(t, "another one's sum", good[:len(good)-4]+plainRecord("other")[6:], nil, 0, 2)
	}
	scans(t, "zeros", strings.Repeat("\x00", 5), nil, 0, 2)
	scans(t, "zeros that are no sum", "\x00\x00", nil, 0, 2)
	scans(t, "what is sealed without a length", plainSeal("abc"), nil, 0, 1) // its first byte is one of 97
}

func TestScanStopsAtTheFirst(t *testing.T) { // P8.2: good records behind what is bad, or torn, are not taken
	begun, more := plainRow("a", ""), plainRow("b", "c", "d")
	for _, bad := range []string{"\x80", "\x84", "\x81\x05", "\x83\x02", "\xff", plainRecord("x")[:5] + "\x00"} {
		scans(t, "bad", begun+bad+more, []string{"a", ""}, len(begun), 2)
	}
	scans(t, "a long text", begun+"\x7f"+more, []string{"a", ""}, len(begun), 1)
	scans(t, "without its first byte", more[1:], nil, 0, 1)
}

func TestScanAny(t *testing.T) { // P8.2, R1: rows that something was done to
	const digits = "\x00\x01\x02\x05\x7f\x80\x81\x82\x83\x84\xff"
	all := allLengths()
	roll := dice(5)
	some := []string{"", "a", "\x00", "bc", "\x83\x01\x00", noise(1, 9), noise(2, 127), noise(3, 128)}
	states, strs := map[uint8]int{}, 0
	for range 12000 {
		var l []string
		for range roll(3) + 1 {
			l = append(l, some[roll(roll(len(some))+1)])
		}
		b := []byte(plainRow(l...))
		for range roll(3) {
			at := roll(len(b))
			switch roll(5) {
			case 0:
				b = slices.Delete(b, at, at+1)
			case 1:
				b = slices.Insert(b, at, digits[roll(len(digits))])
			case 2:
				b = append(b, digits[roll(len(digits))])
			case 3:
				b = b[:at+1]
			default:
				b[at] ^= 1 << roll(8)
			}
			if len(b) == 0 {
				b = []byte{0}
			}
		}
		states[all.asPlain(t, string(b))]++
		got, _, _ := record.Scan(string(b))
		strs += len(got)
	}
	if states[0] < 1000 || states[1] < 1000 || states[2] < 1000 || strs < 1000 {
		t.Error(states, strs)
	}
}

// inverted returns the bytes with the pattern's bits inverted, from a bit on; false if that is not all within a part of them.
func inverted(s string, part [2]int, from int, pattern uint32) (string, bool) {
	b := []byte(s)
	for bit := range 32 {
		if pattern>>bit&1 == 0 {
			continue
		}
		place := (from + bit) / 8
		if place < part[0] || place >= part[1] {
			return "", false
		}
		b[place] ^= 1 << ((from + bit) % 8)
	}
	return string(b), true
}

func TestBursts(t *testing.T) { // P8.4
	patterns := []uint32{1, 3, 5, 1<<31 | 1, 1<<16 | 1, 255, math.MaxUint32, 0x82f63b79, 0xdeadbeef}
	for _, l := range [][]string{{""}, {"a", ""}, {"", "ab", noise(1, 10), "c"}, {noise(2, 130), "d", noise(3, 260), ""}} {
		row, begin := plainRow(l...), 0
		for i, end := range ends(l) {
			for from := 8 * begin; from < 8*end; from++ {
				for _, pattern := range patterns {
					wrong, is := inverted(row, [2]int{begin, end}, from, pattern)
					if !is {
						continue
					}
					got, taken, _ := record.Scan(wrong)
					if len(got) < i || !slices.Equal(got[:i], l[:i]) || taken < begin {
						t.Fatalf("a burst at the bit %d of the record %d: %d strings, %d bytes", from, i, len(got), taken)
					}
					if len(got) > i && got[i] == l[i] {
						t.Fatalf("a burst at the bit %d of the record %d: it is taken", from, i)
					}
				}
			}
			begin = end
		}
	}
}

func TestScanIsNewMemory(t *testing.T) { // R5: nothing is shared with the argument, between two results, or two strings of one
	want := []string{"abcdefgh", noise(1, 200), "ijklmnop", noise(2, 5000)}
	b := []byte(plainRow(want...))
	l, _, _ := record.Scan(unsafe.String(&b[0], len(b)))
	again, _, _ := record.Scan(unsafe.String(&b[0], len(b)))
	clear(b)
	if !slices.Equal(l, want) {
		t.Error("what is done to the argument is seen in the result")
	}
	for i := range l {
		if unsafe.StringData(l[i]) == unsafe.StringData(again[i]) {
			t.Error("two results share a string's memory")
		}
	}
	for i := range l {
		l[i] = "changed"
	}
	_ = append(l[:0:cap(l)], make([]string, cap(l))...)
	if !slices.Equal(again, want) {
		t.Error("what is done to a result is seen in another one")
	}
}

func TestPutIsNewMemory(t *testing.T) { // R5: of one string too
	for _, want := range [][]string{{"abcdefgh"}, {"abcdefgh", "ijkl"}} {
		var l []string
		var all [][]byte
		for _, text := range want {
			b := []byte(text)
			all = append(all, b)
			l = append(l, unsafe.String(&b[0], len(b)))
		}
		list := append(slices.Clone(l), "behind", "it")
		row, e := record.Put(list[:len(l)]...)
		if list[len(l)] != "behind" || list[len(l)+1] != "it" {
			t.Error("what is after the argument is changed")
		}
		for i, b := range all {
			if string(b) != want[i] {
				t.Error("the argument is changed")
			}
			clear(b)
		}
		if row != plainRow(want...) || e != api.OK {
			t.Errorf("what is done to the argument is seen in the row: %s, %d", short(row), e)
		}
	}
}

func TestGreatRows(t *testing.T) { // R1: as long as a log's segments, or a disk, can be
	for _, l := range [][]string{slices.Repeat([]string{""}, 1<<22/5), slices.Repeat([]string{noise(1, 65536)}, 1<<24/65544)} {
		row, e := record.Put(l...)
		if e != api.OK {
			t.Fatal(e)
		}
		got, taken, state := record.Scan(row)
		if !slices.Equal(got, l) || taken != len(row) || state != 0 {
			t.Errorf("%d strings: %d, %d, %d", len(l), len(got), taken, state)
		}
		got, taken, state = record.Scan(row[:len(row)-1])
		if !slices.Equal(got, l[1:]) || taken != len(row)-len(plainRecord(l[0])) || state != 1 {
			t.Errorf("%d strings, without the last byte: %d, %d, %d", len(l), len(got), taken, state)
		}
	}
	scans(t, "only zeros", strings.Repeat("\x00", 1<<24), nil, 0, 2)
	scans(t, "only the greatest bytes", strings.Repeat("\xff", 1<<24), nil, 0, 2)
	scans(t, "a great length, with much behind", "\x83\x01\x00\x00"+strings.Repeat("x", 1<<24), nil, 0, 2)
}
