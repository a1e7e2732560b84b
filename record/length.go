package record

import (
	"tranter/api"
	"tranter/wire"
)

// How layer 2 writes a length: if it is not below plainLengths, the first byte says how many digits follow.
const (
	plainLengths = 128
	mostDigits   = 3 // as many as MaxRecord has
	digitBits    = 8
)

// readLength returns how many bytes the length has that s begins with, and the length; false if s begins with none that a record can have. The reader gets no more than a length's bytes, since it copies what it is passed.
func readLength(s string) (head, length int, is bool) {
	window := s[:min(len(s), 1+mostDigits)]
	r := wire.Open(window)
	length = int(r.Num(api.MaxRecord))
	return len(window) - r.Left(), length, r.Fine()
}

// beginsLength reports whether s, which is not empty, is an incomplete length that can still become one that a record can have. The missing digits are open: shortened by these, the numbers from the least to the greatest one of that many digits are all that can be there.
func beginsLength(s string) bool {
	digits := int(s[0]) - plainLengths
	missing := digits - len(s[1:])
	if digits > mostDigits || missing <= 0 {
		return false
	}
	shortened := func(n int) int { return n >> (digitBits * missing) }
	least := max(plainLengths, numbersOf(digits-1))
	greatest := min(api.MaxRecord, numbersOf(digits)-1)
	there := bigEndian(s[1:])
	return shortened(least) <= there && there <= shortened(greatest)
}

// numbersOf returns how many numbers have at most count digits; the first number that has more is the same.
func numbersOf(count int) int {
	return 1 << (digitBits * count)
}

func bigEndian(digits string) int {
	n := 0
	for i := range len(digits) {
		n = n<<digitBits | int(digits[i])
	}
	return n
}
