// Package sum computes checksums, and bytes that contain one: layer 1, see shared/doc/01-sum.md.
package sum

import "strings"

const (
	mask     = 0x82f63b78 // what a round combines a word with
	byteBits = 8
	sumBytes = 4
)

// Table takes only the indexes of one bit through the rounds: a round is linear for exclusive or, so every other word is the exclusive or of those of its index's bits. Nothing may be kept between calls, so each sum computes the table, and a short text's sum costs little more than that.
func Table() [256]uint32 {
	var table [256]uint32
	for bit := range byteBits {
		high := 1 << bit
		word := eightRounds(uint32(high))
		for lower := range high {
			table[high|lower] = table[lower] ^ word
		}
	}
	return table
}

func eightRounds(word uint32) uint32 {
	for range byteBits {
		odd := word&1 == 1
		word >>= 1
		if odd {
			word ^= mask
		}
	}
	return word
}

func Sum(s string) uint32 {
	return More(0, s) // 0 is the sum of no bytes
}

// More inverts the bits of a sum to get back the word that it was made of.
func More(sum uint32, s string) uint32 {
	return ^takeBytes(Table(), ^sum, s)
}

func takeBytes(table [256]uint32, word uint32, s string) uint32 {
	for i := range len(s) {
		word = table[byte(word)^s[i]] ^ word>>byteBits
	}
	return word
}

func Seal(s string) string {
	return s + lowestFirst(Sum(s))
}

func lowestFirst(sum uint32) string {
	var b [sumBytes]byte
	for i := range sumBytes {
		b[i] = byte(sum >> (byteBits * i))
	}
	return string(b[:])
}

// Open clones, since a result shares no memory with an argument.
func Open(s string) (string, bool) {
	cut := len(s) - sumBytes
	if cut < 0 || s[cut:] != lowestFirst(Sum(s[:cut])) {
		return "", false
	}
	return strings.Clone(s[:cut]), true
}
