package wire

import (
	"math"
	"strings"

	"tranter/api"
)

type Reader struct {
	rest string // what is after the position
	fine bool   // false in a reader that Open did not make: it is failed
}

// Open clones, since a reader lives on, and an argument is not kept.
func Open(s string) *Reader {
	return &Reader{rest: strings.Clone(s), fine: true}
}

func (r *Reader) Num(most uint64) uint64 {
	n, is := readNumber(r.take)
	return result(r, n, is && n <= most)
}

// Text clones, so that a text does not keep all of the reader's bytes in memory.
func (r *Reader) Text(most int) string {
	length := r.Num(uint64(max(most, 0)))
	text, is := r.take(length)
	return result(r, strings.Clone(text), is)
}

func (r *Reader) Dot() api.Dot {
	replica := r.Num(math.MaxUint8)
	number := r.Num(math.MaxUint32)
	return result(r, api.Dot{R: uint8(replica), N: uint32(number)}, r.Fine())
}

func (r *Reader) Vector() api.Vector {
	var v api.Vector
	for i := range v {
		v[i] = uint32(r.Num(math.MaxUint32))
	}
	return result(r, v, r.Fine())
}

func (r *Reader) Left() int {
	if !r.Fine() {
		return 0
	}
	return len(r.rest)
}

func (r *Reader) Fine() bool {
	return r != nil && r.fine
}

func (r *Reader) End() api.Errno {
	if !r.Fine() || r.Left() > 0 {
		return api.ErrForm
	}
	return api.OK
}

// take returns the next count bytes, if there are so many, and goes on behind them.
func (r *Reader) take(count uint64) (string, bool) {
	if !r.Fine() || count > uint64(len(r.rest)) {
		return "", false
	}
	taken := r.rest[:count]
	r.rest = r.rest[count:]
	return taken, true
}

// result returns what was read. If it is not what it has to be, the reader fails, and the value is lost, so that nothing read in part is seen.
func result[T any](r *Reader, value T, is bool) T {
	if is {
		return value
	}
	if r != nil {
		*r = Reader{}
	}
	var none T
	return none
}
