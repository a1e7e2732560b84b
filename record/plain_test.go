package record_test

import (
	"encoding/binary"
	"encoding/hex"
	"hash/crc32"
	"math/big"
	"slices"
	"strconv"
	"strings"
	"testing"

	"tranter/api"
	"tranter/record"
)

// plainNum is layer 2's encoding of a number, written out.
func plainNum(n int) string {
	if n < 128 {
		return string([]byte{byte(n)})
	}
	b := big.NewInt(int64(n)).Bytes()
	return string([]byte{byte(128 + len(b))}) + string(b)
}

func plainSeal(content string) string {
	sum := crc32.Checksum([]byte(content), crc32.MakeTable(crc32.Castagnoli))
	return string(binary.LittleEndian.AppendUint32([]byte(content), sum))
}

// plainRecord is a record, whether its text is too long or not.
func plainRecord(text string) string {
	return plainSeal(plainNum(len(text)) + text)
}

func plainRow(l ...string) string {
	row := ""
	for _, text := range l {
		row += plainRecord(text)
	}
	return row
}

// lengths is all that a record can begin with: each length by its encoding, and the beginnings of all encodings that are none.
type lengths struct {
	whole map[string]int
	begun map[string]bool
}

func allLengths() lengths {
	a := lengths{map[string]int{}, map[string]bool{}}
	for n := range 65537 {
		b := plainNum(n)
		a.whole[b] = n
		for cut := 1; cut < len(b); cut++ {
			a.begun[b[:cut]] = true
		}
	}
	return a
}

// head returns the size of the length that s begins with, and the length.
func (a lengths) head(s string) (size, length int, is bool) {
	for size := 1; size <= min(4, len(s)); size++ {
		if n, is := a.whole[s[:size]]; is {
			return size, n, true
		}
	}
	return 0, 0, false
}

// textOf returns the text whose record is all of s.
func (a lengths) textOf(s string) (string, bool) {
	size, length, is := a.head(s)
	if !is || len(s) != size+length+4 {
		return "", false
	}
	text := s[size : size+length]
	return text, plainRecord(text) == s
}

// begins says whether s is the beginning of a record, and not all of one.
func (a lengths) begins(s string) bool {
	size, length, is := a.head(s)
	if !is {
		return a.begun[s]
	}
	if len(s) < size+length {
		return true
	}
	all := plainRecord(s[size : size+length])
	return len(s) < len(all) && all[:len(s)] == s
}

// scan is the chapter's definition: of all beginnings that are rows, found by trying every division, the longest one.
func (a lengths) scan(s string) (l []string, taken int, state uint8) {
	rows := map[int][]string{0: nil}
	for end := range len(s) + 1 {
		for from := range end {
			row, is := rows[from]
			if !is {
				continue
			}
			if text, is := a.textOf(s[from:end]); is {
				rows[end] = append(slices.Clone(row), text)
			}
		}
		if _, is := rows[end]; is {
			taken = end
		}
	}
	return rows[taken], taken, a.state(s[taken:])
}

func (a lengths) state(rest string) uint8 {
	switch {
	case rest == "":
		return 0
	case a.begins(rest):
		return 1
	}
	return 2
}

// short tells a test's failure without thousands of bytes in it.
func short(s string) string {
	if len(s) > 60 {
		return hex.EncodeToString([]byte(s[:60])) + ".. of " + strconv.Itoa(len(s)) + " bytes"
	}
	return hex.EncodeToString([]byte(s))
}

// scans says what Scan has to return, twice (R4).
func scans(t *testing.T, what, s string, l []string, taken int, state uint8) {
	t.Helper()
	for range 2 {
		gotL, gotTaken, gotState := record.Scan(s)
		if !slices.Equal(gotL, l) || gotTaken != taken || gotState != state {
			t.Fatalf("%s: Scan(%s) is %d strings, %d, %d, want %d, %d, %d", what, short(s), len(gotL), gotTaken, gotState, len(l), taken, state)
		}
	}
}

// asPlain says that Scan returns what the chapter's definition gives, and returns the state.
func (a lengths) asPlain(t *testing.T, s string) uint8 {
	t.Helper()
	l, taken, state := a.scan(s)
	scans(t, "as it is defined", s, l, taken, state)
	return state
}

// dice returns numbers below what it is passed, always the same ones for one seed.
func dice(seed uint64) func(below int) int {
	return func(below int) int {
		seed = seed*6364136223846793005 + 1442695040888963407
		return int(seed>>33) % below
	}
}

// noise returns n bytes that look irregular, the same ones for the same seed.
func noise(seed uint64, n int) string {
	roll := dice(seed)
	b := make([]byte, n)
	for i := range b {
		b[i] = byte(roll(256))
	}
	return string(b)
}

// texts returns strings of many lengths and contents, those among them at which a length has a byte more, and those that look like records.
func texts() []string {
	l := []string{"", "a", "\x00", "\x00\x00\x00\x00", "\xff", "\x80", "h\u00e4l\u00e4", "\xc3\x28", plainRecord(""), plainRow("a", "")}
	for _, n := range []int{2, 3, 5, 60, 126, 127, 128, 129, 255, 256, 257, 1000, 65535, 65536} {
		l = append(l, noise(uint64(n), n), strings.Repeat("\x00", n))
	}
	return l
}

// rows returns lists of strings: none, each one alone, and several.
func rows() [][]string {
	l := [][]string{nil, {}, {"a", ""}, {"", "", ""}, {"", "a", "", "bc"}, texts()}
	for _, text := range texts() {
		l = append(l, []string{text})
	}
	all := texts()
	roll := dice(1)
	for range 20 {
		var row []string
		for range roll(6) + 1 {
			row = append(row, all[roll(len(all))])
		}
		l = append(l, row)
	}
	return l
}

// tooLong returns strings that no record can have.
func tooLong() []string {
	var l []string
	for _, n := range []int{65537, 65538, 65792, 131072, 1 << 20, 1<<24 + 1} {
		l = append(l, strings.Repeat("x", n))
	}
	return l
}

func TestStates(t *testing.T) { // the numbers that the other tests write out
	if api.ScWhole != 0 || api.ScTorn != 1 || api.ScBad != 2 || api.MaxRecord != 65536 {
		t.Error(api.ScWhole, api.ScTorn, api.ScBad, api.MaxRecord)
	}
}
