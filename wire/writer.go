package wire

import "tranter/api"

type Writer struct {
	bytes []byte
	made  bool // a writer that New did not make is none
}

func New() *Writer {
	return &Writer{made: true}
}

func (w *Writer) Num(n uint64) {
	if w.none() {
		return
	}
	if n < plainNumbers {
		w.bytes = append(w.bytes, byte(n))
		return
	}
	count := byteCount(n)
	w.bytes = append(w.bytes, byte(plainNumbers+count))
	for left := count; left > 0; left-- {
		w.bytes = append(w.bytes, byte(n>>(byteBits*(left-1))))
	}
}

func (w *Writer) Text(s string) {
	if w.none() {
		return
	}
	w.Num(uint64(len(s)))
	w.bytes = append(w.bytes, s...)
}

func (w *Writer) Dot(d api.Dot) {
	w.Num(uint64(d.R))
	w.Num(uint64(d.N))
}

func (w *Writer) Vector(v api.Vector) {
	for _, n := range v {
		w.Num(uint64(n))
	}
}

func (w *Writer) Bytes() string {
	if w.none() {
		return ""
	}
	return string(w.bytes)
}

func (w *Writer) none() bool {
	return w == nil || !w.made
}
