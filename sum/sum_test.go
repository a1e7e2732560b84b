package sum_test

import (
	"hash/crc32"
	"strings"
	"testing"
	"unsafe"

	"tranter/sum"
)

// plainWord is the chapter's definition of a word of the table, written out.
func plainWord(i int) uint32 {
	w := uint32(i)
	for round := 0; round < 8; round++ {
		if w%2 == 1 {
			w = w/2 ^ 0x82f63b78
		} else {
			w = w / 2
		}
	}
	return w
}

// plainSum is the chapter's definition of a sum, written out.
func plainSum(s string) uint32 {
	w := uint32(0xffffffff)
	for i := 0; i < len(s); i++ {
		w = plainWord(int(w&0xff)^int(s[i])) ^ w>>8
	}
	return w ^ 0xffffffff
}

// noise returns n bytes that look irregular, the same ones for the same seed.
func noise(seed uint32, n int) string {
	b := make([]byte, n)
	for i := range b {
		seed = seed*1664525 + 1013904223
		b[i] = byte(seed >> 24)
	}
	return string(b)
}

// samples returns texts of many lengths and contents, the edges among them.
func samples() []string {
	l := []string{
		"", "\x00", "\x01", "\x80", "\xff", "a", "ab", "abc", "abcd", "abcde",
		"\x00\x00\x00\x00", "\xff\xff\xff\xff", "123456789", "h\u00e4l\u00e4", "\xc3\x28",
		strings.Repeat("\x00", 256), strings.Repeat("\xff", 257),
	}
	for n := range 70 {
		l = append(l, noise(uint32(n), n))
	}
	return append(l, noise(7, 1000), noise(8, 70000))
}

func TestTableWords(t *testing.T) { // P1.1
	table := sum.Table()
	for i, w := range table {
		if want := plainWord(i); w != want {
			t.Errorf("word %d: %08x, want %08x", i, w, want)
		}
	}
	given := map[int]uint32{0: 0, 1: 0xf26b8303, 2: 0xe13b70f7, 128: 0x82f63b78, 255: 0xad7d5351}
	for i, want := range given {
		if table[i] != want {
			t.Errorf("word %d: %08x, want %08x", i, table[i], want)
		}
	}
}

func TestTableIsNewEachTime(t *testing.T) { // P1.1, R5
	table := sum.Table()
	for i := range table {
		table[i] = 0xdeadbeef
	}
	if again := sum.Table(); again[0] != 0 || again[255] != plainWord(255) {
		t.Errorf("a changed result changed the table: %08x %08x", again[0], again[255])
	}
	if got := sum.Sum("123456789"); got != 0xe3069283 {
		t.Errorf("a changed result changed a sum: %08x", got)
	}
}

func TestSumKnown(t *testing.T) { // P1.1
	var up, down [32]byte
	for i := range 32 {
		up[i], down[31-i] = byte(i), byte(i)
	}
	known := map[string]uint32{
		"":                         0,
		"a":                        0xc1d04330,
		"123456789":                0xe3069283,
		strings.Repeat("\x00", 32): 0x8a9136aa,
		strings.Repeat("\xff", 32): 0x62a8ab43,
		string(up[:]):              0x46dd794e,
		string(down[:]):            0x113fdb5c,
	}
	for s, want := range known {
		if got := sum.Sum(s); got != want {
			t.Errorf("Sum(%x) = %08x, want %08x", s, got, want)
		}
	}
}

func TestSumOfEachByte(t *testing.T) { // P1.1: each word of the table is used, the first and the last one too
	for i := range 256 {
		s := string([]byte{byte(i)})
		if got, want := sum.Sum(s), plainSum(s); got != want {
			t.Errorf("Sum(%x) = %08x, want %08x", s, got, want)
		}
	}
}

func TestSumDefinition(t *testing.T) { // P1.1
	other := crc32.MakeTable(crc32.Castagnoli)
	for _, s := range samples() {
		got := sum.Sum(s)
		if want := plainSum(s); got != want {
			t.Errorf("Sum of %d bytes = %08x, want %08x", len(s), got, want)
		}
		if want := crc32.Checksum([]byte(s), other); got != want {
			t.Errorf("Sum of %d bytes = %08x, want %08x", len(s), got, want)
		}
		if again := sum.Sum(s); again != got { // R4
			t.Errorf("Sum of %d bytes = %08x, then %08x", len(s), got, again)
		}
	}
}

func TestMoreAtEachCut(t *testing.T) { // P1.2
	for _, s := range samples() {
		if len(s) > 1000 {
			continue
		}
		want := plainSum(s)
		for cut := range len(s) + 1 {
			if got := sum.More(sum.Sum(s[:cut]), s[cut:]); got != want {
				t.Fatalf("%d bytes cut at %d: %08x, want %08x", len(s), cut, got, want)
			}
		}
	}
}

func TestMoreByteByByte(t *testing.T) { // P1.2
	s := noise(3, 300)
	got := uint32(0)
	for i := range len(s) {
		got = sum.More(got, s[i:i+1])
	}
	if want := plainSum(s); got != want {
		t.Errorf("%08x, want %08x", got, want)
	}
}

// bytesWithSum returns four bytes that have that sum: it goes back from the sum to the word at the beginning.
func bytesWithSum(want uint32) string {
	byTop := map[byte]int{}
	for i := range 256 {
		byTop[byte(plainWord(i)>>24)] = i
	}
	var indexes [4]int
	w := ^want
	for i := 3; i >= 0; i-- {
		indexes[i] = byTop[byte(w>>24)]
		w = (w ^ plainWord(indexes[i])) << 8
	}
	b := make([]byte, 4)
	w = 0xffffffff
	for i, index := range indexes {
		b[i] = byte(w) ^ byte(index)
		w = plainWord(index) ^ w>>8
	}
	return string(b)
}

func TestMoreOfAnySum(t *testing.T) { // P1.2: each number of 32 bits is the sum of some bytes
	for _, first := range []uint32{0, 1, 0x80000000, 0xffffffff, 0xfffffffe, 0x82f63b78, 0xe3069283, 0x12345678} {
		head := bytesWithSum(first)
		if got := plainSum(head); got != first {
			t.Fatalf("the test's own bytes %x have the sum %08x, not %08x", head, got, first)
		}
		if got := sum.More(first, ""); got != first {
			t.Errorf("More(%08x, nothing) = %08x", first, got)
		}
		for _, s := range []string{"\x00", "\xff", "ab", "56789", noise(11, 40)} {
			if got, want := sum.More(first, s), plainSum(head+s); got != want {
				t.Errorf("More(%08x, %x) = %08x, want %08x", first, s, got, want)
			}
		}
	}
}

func TestSealAndOpen(t *testing.T) { // P1.3
	for _, s := range samples() {
		w := plainSum(s)
		want := s + string([]byte{byte(w), byte(w >> 8), byte(w >> 16), byte(w >> 24)})
		if got := sum.Seal(s); got != want {
			t.Errorf("Seal of %d bytes ends with %x, want %x", len(s), got[len(got)-4:], want[len(s):])
		}
		if got, is := sum.Open(want); !is || got != s {
			t.Errorf("Open of %d sealed bytes: %d bytes, %v", len(s), len(got), is)
		}
	}
}

func TestSealKnown(t *testing.T) { // P1.3
	known := map[string]string{
		"":          "\x00\x00\x00\x00",
		"a":         "a\x30\x43\xd0\xc1",
		"123456789": "123456789\x83\x92\x06\xe3",
	}
	for s, want := range known {
		if got := sum.Seal(s); got != want {
			t.Errorf("Seal(%x) = %x, want %x", s, got, want)
		}
	}
}

func TestSealTwiceOpensOnce(t *testing.T) { // P1.3
	for _, s := range samples() {
		once := sum.Seal(s)
		if got, is := sum.Open(sum.Seal(once)); !is || got != once {
			t.Errorf("%d bytes: %d bytes, %v", len(s), len(got), is)
		}
	}
}

// refused says that Open must not take s.
func refused(t *testing.T, why, s string) {
	t.Helper()
	if got, is := sum.Open(s); is || got != "" {
		t.Errorf("%s: Open of %d bytes: %q, %v", why, len(s), got, is)
	}
}

func TestOpenShort(t *testing.T) { // P1.3: bytes that are shorter than a sum
	for n := range 4 {
		refused(t, "zero bytes", strings.Repeat("\x00", n))
		refused(t, "ones", strings.Repeat("\xff", n))
		refused(t, "text", "abc"[:n])
		refused(t, "a part of a sum", sum.Seal("123456789")[9:9+n])
	}
}

func TestOpenSumAlone(t *testing.T) { // P1.3: of four bytes only the sum of nothing is a result of Seal
	if got, is := sum.Open("\x00\x00\x00\x00"); !is || got != "" {
		t.Errorf("%q, %v", got, is)
	}
	for _, s := range []string{"\x01\x00\x00\x00", "\x00\x00\x00\x80", "\xff\xff\xff\xff", "abcd"} {
		refused(t, "four bytes", s)
	}
}

func TestOpenWrong(t *testing.T) { // P1.3
	for _, s := range samples() {
		sealed := sum.Seal(s)
		w := plainSum(s)
		refused(t, "a byte too few", sealed[:len(sealed)-1])
		refused(t, "a byte too many", sealed+"\x01")
		refused(t, "all bits of the sum inverted", s+inverted(sealed[len(s):]))
		if s != "" && s != "\xff\xff\xff\xff" { // the sum of four ff is four ff, whatever is done to it
			refused(t, "highest byte first", s+string([]byte{byte(w >> 24), byte(w >> 16), byte(w >> 8), byte(w)}))
			refused(t, "sum ahead", sealed[len(s):]+s)
			refused(t, "no sum", s+"\x00\x00\x00\x00")
			refused(t, "first byte lost", sealed[1:])
		}
	}
}

func inverted(s string) string {
	b := []byte(s)
	for i := range b {
		b[i] = ^b[i]
	}
	return string(b)
}

func TestOpenIsStrict(t *testing.T) { // P1.3, R6: of all sums that differ in their two low bytes only one is taken
	const s = "ab"
	w := plainSum(s)
	taken := 0
	for low := range 1 << 16 {
		v := w&0xffff0000 | uint32(low)
		b, is := sum.Open(s + string([]byte{byte(v), byte(v >> 8), byte(v >> 16), byte(v >> 24)}))
		if is != (v == w) || is && b != s || !is && b != "" {
			t.Fatalf("sum %08x: %q, %v", v, b, is)
		}
		if is {
			taken++
		}
	}
	if taken != 1 {
		t.Errorf("%d sums taken", taken)
	}
}

func TestOpenIsNewMemory(t *testing.T) { // R5
	sealed := sum.Seal("123456789")
	body, _ := sum.Open(sealed)
	if unsafe.StringData(body) == unsafe.StringData(sealed) {
		t.Error("a result of Open is in its argument's memory")
	}
}

// burst returns s with the bits of pattern inverted from the bit at on, the lowest bit of a byte first; false if one is beyond s.
func burst(s string, at int, pattern uint32) (string, bool) {
	b := []byte(s)
	for i := range 32 {
		if pattern>>i&1 == 0 {
			continue
		}
		bit := at + i
		if bit >= 8*len(b) {
			return "", false
		}
		b[bit/8] ^= 1 << (bit % 8)
	}
	return string(b), true
}

// burstsDetected inverts the pattern at each place of what is sealed: within a byte, across bytes, across the sum's beginning, within the sum.
func burstsDetected(t *testing.T, body string, pattern uint32) {
	t.Helper()
	sealed := sum.Seal(body)
	tried := 0
	for at := range 8 * len(sealed) {
		s, fits := burst(sealed, at, pattern)
		if !fits {
			continue
		}
		tried++
		if got, is := sum.Open(s); is || got != "" {
			t.Fatalf("%d bytes, burst %08x at bit %d: %q, %v", len(body), pattern, at, got, is)
		}
	}
	if tried == 0 {
		t.Fatalf("%d bytes, burst %08x: it fits nowhere", len(body), pattern)
	}
}

func TestBurstsOfSamples(t *testing.T) { // P1.4
	patterns := []uint32{1, 3, 0x81, 0xff, 0x101, 0xffff, 0x80000001, 0xffffffff, 0xfffffffe, 0x82f63b78, 0x82f63b79, 0xedb88321, 0x05ec76f1, 0xaaaaaaab, 0xdeadbeef}
	for _, s := range samples() {
		if len(s) > 300 {
			continue
		}
		for _, p := range patterns {
			burstsDetected(t, s, p)
		}
	}
}

func TestBurstsOfTwoBits(t *testing.T) { // P1.4: each distance that is within 32 bits
	for distance := range 31 {
		for _, s := range []string{"", "a", "123456789", noise(5, 40)} {
			burstsDetected(t, s, 1|1<<(distance+1))
		}
	}
}

func TestBurstsOfManyPatterns(t *testing.T) { // P1.4
	pattern := uint32(1)
	for range 2000 {
		pattern = pattern*1664525 + 1013904223
		burstsDetected(t, "12345", pattern|1)
	}
}

func TestBeyondABurst(t *testing.T) { // P1.3: 33 bits can turn a result of Seal into another one, which is opened
	sealed := []byte(sum.Seal("123456789"))
	for i, x := range []byte{0xf1, 0x76, 0xec, 0x05, 0x01} { // a one, then the bits that a round combines with
		sealed[i] ^= x
	}
	want := string(sealed[:9])
	if got, is := sum.Open(string(sealed)); !is || got != want {
		t.Errorf("%x, %v, want %x", got, is, want)
	}
}

// together returns the exclusive or of three strings of one length, byte by byte.
func together(x, y, z string) string {
	b := []byte(x)
	for i := range b {
		b[i] ^= y[i] ^ z[i]
	}
	return string(b)
}

func TestExclusiveOr(t *testing.T) { // P1.5
	for n := range 200 {
		x, y, z := noise(uint32(3*n), n), noise(uint32(3*n+1), n), noise(uint32(3*n+2), n)
		zero := strings.Repeat("\x00", n)
		for _, l := range [][3]string{{x, y, z}, {x, x, y}, {x, x, x}, {x, y, zero}, {zero, zero, zero}, {inverted(x), x, zero}} {
			got := sum.Sum(together(l[0], l[1], l[2]))
			if want := sum.Sum(l[0]) ^ sum.Sum(l[1]) ^ sum.Sum(l[2]); got != want {
				t.Errorf("%d bytes: %08x, want %08x", n, got, want)
			}
		}
	}
}
