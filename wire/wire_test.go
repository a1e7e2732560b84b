package wire_test

import (
	"encoding/hex"
	"math"
	"math/big"
	"strconv"
	"strings"
	"testing"
	"unsafe"

	"tranter/api"
	"tranter/wire"
)

// plainNum is the chapter's encoding of a number, written out.
func plainNum(n uint64) string {
	if n < 128 {
		return string([]byte{byte(n)})
	}
	b := new(big.Int).SetUint64(n).Bytes() // big-endian, the first byte not 0
	return string([]byte{byte(128 + len(b))}) + string(b)
}

func plainText(s string) string { return plainNum(uint64(len(s))) + s }

func plainDot(d api.Dot) string { return plainNum(uint64(d.R)) + plainNum(uint64(d.N)) }

func plainVector(v api.Vector) string {
	s := ""
	for _, n := range v {
		s += plainNum(uint64(n))
	}
	return s
}

// numbers returns the chapter's edges, those around each power of two, and irregular ones of each length; in increasing order they are not.
func numbers() []uint64 {
	l := []uint64{0, 1, 5, 127, 128, 129, 255, 256, 257, 300, 65535, 65536, math.MaxUint32, math.MaxUint32 + 1, math.MaxInt64, math.MaxUint64 - 1, math.MaxUint64}
	for bit := range 64 {
		l = append(l, 1<<bit-1, 1<<bit, 1<<bit+1)
	}
	seed := uint64(1)
	for i := range 256 {
		seed = seed*6364136223846793005 + 1442695040888963407
		l = append(l, seed>>(i%64))
	}
	return l
}

// texts returns texts of lengths around those where a length has a byte more.
func texts() []string {
	l := []string{"", "\x00", "a", "ab", "h\u00e4l\u00e4", "\xff\xfe\xc3\x28"}
	for _, n := range []int{126, 127, 128, 129, 255, 256, 257, 65535, 65536, 70000} {
		l = append(l, strings.Repeat("x", n-1)+"y")
	}
	return l
}

func dots() []api.Dot {
	return []api.Dot{{}, {R: 0, N: 1}, {R: 3, N: 300}, {R: 7, N: 127}, {R: 8, N: 128}, {R: 127, N: 0}, {R: 128, N: 255}, {R: 255, N: 256}, {R: 255, N: math.MaxUint32}, {R: 0, N: math.MaxUint32}}
}

func vectors() []api.Vector {
	return []api.Vector{
		{}, {1, 0, 200}, {0, 0, 0, 0, 0, 0, 0, 1}, {1, 2, 3, 4, 5, 6, 7, 8},
		{127, 128, 255, 256, 65535, 65536, math.MaxUint32 - 1, math.MaxUint32},
		{math.MaxUint32, math.MaxUint32, math.MaxUint32, math.MaxUint32, math.MaxUint32, math.MaxUint32, math.MaxUint32, math.MaxUint32},
	}
}

// short tells a test's failure without thousands of bytes in it.
func short(s string) string {
	if len(s) > 40 {
		return hex.EncodeToString([]byte(s[:40])) + ".. of " + strconv.Itoa(len(s)) + " bytes"
	}
	return hex.EncodeToString([]byte(s))
}

func written(t *testing.T, what string, put func(w *wire.Writer), want string) {
	t.Helper()
	w := wire.New()
	put(w)
	if got := w.Bytes(); got != want {
		t.Errorf("%s: %s, want %s", what, short(got), short(want))
	}
}

func TestWriteEach(t *testing.T) { // P2.1
	written(t, "nothing", func(*wire.Writer) {}, "")
	for _, n := range numbers() {
		written(t, strconv.FormatUint(n, 10), func(w *wire.Writer) { w.Num(n) }, plainNum(n))
	}
	for _, s := range texts() {
		written(t, "a text of "+strconv.Itoa(len(s)), func(w *wire.Writer) { w.Text(s) }, plainText(s))
	}
	for _, d := range dots() {
		written(t, "a dot", func(w *wire.Writer) { w.Dot(d) }, plainDot(d))
	}
	for _, v := range vectors() {
		written(t, "a vector", func(w *wire.Writer) { w.Vector(v) }, plainVector(v))
	}
}

func TestWriteKnown(t *testing.T) { // P2.1
	known := map[uint64]string{
		0: "00", 5: "05", 127: "7f", 128: "8180", 255: "81ff", 256: "820100", 65535: "82ffff", 65536: "83010000",
		math.MaxUint32: "84ffffffff", 1 << 32: "850100000000", 1 << 40: "86010000000000", 1 << 48: "8701000000000000", 1 << 56: "880100000000000000", math.MaxUint64: "88ffffffffffffffff",
	}
	for n, want := range known {
		w := wire.New()
		w.Num(n)
		if got := hex.EncodeToString([]byte(w.Bytes())); got != want {
			t.Errorf("%d: %s, want %s", n, got, want)
		}
	}
}

func TestWriteInOrder(t *testing.T) { // P2.1: all that was put, after each put
	w, other := wire.New(), wire.New()
	want := ""
	is := func() {
		t.Helper()
		for range 2 { // to ask does not change
			if got := w.Bytes(); got != want {
				t.Fatalf("%s, want %s", short(got), short(want))
			}
		}
	}
	is()
	for round := range 3 {
		for i, s := range texts() {
			w.Num(numbers()[i])
			want += plainNum(numbers()[i])
			is()
			w.Text(s)
			want += plainText(s)
			is()
			other.Num(uint64(round)) // another writer has bytes of its own
		}
		for i, d := range dots() {
			w.Dot(d)
			want += plainDot(d)
			is()
			w.Vector(vectors()[i%len(vectors())])
			want += plainVector(vectors()[i%len(vectors())])
			is()
		}
	}
	if want := strings.Repeat("\x00", len(texts())) + strings.Repeat("\x01", len(texts())) + strings.Repeat("\x02", len(texts())); other.Bytes() != want {
		t.Errorf("the other writer: %s, want %s", short(other.Bytes()), short(want))
	}
}

func TestBytesStay(t *testing.T) { // P2.1, R5: a result is new memory
	w := wire.New()
	w.Text("abcdefgh")
	first := w.Bytes()
	w.Text("ijkl")
	if second := w.Bytes(); first != "\x08abcdefgh" || second != "\x08abcdefgh\x04ijkl" {
		t.Errorf("%q, %q", first, second)
	}
	if again := w.Bytes(); unsafe.StringData(again) == unsafe.StringData(w.Bytes()) {
		t.Error("two results of Bytes share their memory")
	}
}

func TestTextIsNotKept(t *testing.T) { // P2.1, R5
	b := []byte("abcdefgh")
	w := wire.New()
	w.Text(unsafe.String(&b[0], len(b)))
	b[0] = 'X'
	if got := w.Bytes(); got != "\x08abcdefgh" {
		t.Errorf("%q", got)
	}
}

func TestWriterThatIsNone(t *testing.T) { // P2.1, R1
	for i, w := range []*wire.Writer{nil, {}, new(wire.Writer)} {
		w.Num(5)
		w.Num(math.MaxUint64)
		w.Text("ab")
		w.Dot(api.Dot{R: 3, N: 300})
		w.Vector(api.Vector{1, 2, 3})
		if got := w.Bytes(); got != "" {
			t.Errorf("%d: %s", i, short(got))
		}
	}
}

// failed says that the reader must have failed, and must stay so, whatever is read from it.
func failed(t *testing.T, what string, r *wire.Reader) {
	t.Helper()
	for range 2 {
		if r.Fine() || r.Left() != 0 || r.End() != api.ErrForm {
			t.Errorf("%s: fine %v, left %d, end %d", what, r.Fine(), r.Left(), r.End())
		}
		n, s, d, v := r.Num(math.MaxUint64), r.Text(math.MaxInt), r.Dot(), r.Vector()
		if e := r.Text(0); n != 0 || s != "" || d != (api.Dot{}) || v != (api.Vector{}) || e != "" {
			t.Errorf("%s: reads %d, %s, %v, %v, %s when it has failed", what, n, short(s), d, v, short(e))
		}
	}
}

// at says that the reader must not have failed, with that many bytes after its position.
func at(t *testing.T, what string, r *wire.Reader, left int) {
	t.Helper()
	end := api.ErrForm
	if left == 0 {
		end = api.OK
	}
	if !r.Fine() || r.Left() != left || r.End() != end {
		t.Errorf("%s: fine %v, left %d, end %d, want left %d", what, r.Fine(), r.Left(), r.End(), left)
	}
}

// behind is what tests write after what is read: zeros, so that to read on would not fail.
const behind = "\x00\x00\x00\x00\x00\x00\x00\x00\x00\x00\x00"

func TestReadNumbers(t *testing.T) { // P2.2, P2.4
	for _, n := range numbers() {
		what := strconv.FormatUint(n, 10)
		for _, most := range []uint64{n, n + 1, math.MaxUint64} {
			if most < n { // beyond the greatest one
				continue
			}
			for _, tail := range []string{"", "\xff", behind} {
				r := wire.Open(plainNum(n) + tail)
				if got := r.Num(most); got != n {
					t.Errorf("%s with most %d: %d", what, most, got)
				}
				at(t, what, r, len(tail))
			}
		}
	}
}

func TestReadNumbersAboveMost(t *testing.T) { // P2.2
	for _, n := range numbers() {
		for _, most := range []uint64{0, 4, 127, 128, 255, 256, n / 2, n - 1} {
			if most >= n {
				continue
			}
			r := wire.Open(plainNum(n) + behind)
			if got := r.Num(most); got != 0 {
				t.Errorf("%d with most %d: %d", n, most, got)
			}
			failed(t, strconv.FormatUint(n, 10), r)
		}
	}
}

func TestReadNumbersCut(t *testing.T) { // P2.2
	for _, n := range numbers() {
		whole := plainNum(n)
		for cut := range len(whole) {
			r := wire.Open(whole[:cut])
			if got := r.Num(math.MaxUint64); got != 0 {
				t.Errorf("%s: %d", short(whole[:cut]), got)
			}
			failed(t, short(whole[:cut]), r)
		}
	}
}

func TestReadNumbersTooLong(t *testing.T) { // P2.2, R6: a number with more bytes than it needs
	for _, n := range numbers() {
		b := string(new(big.Int).SetUint64(n).Bytes())
		for zeros := range 130 - len(b) {
			count := len(b) + zeros
			if zeros == 0 && n >= 128 || count > 127 {
				continue
			}
			s := string([]byte{byte(128 + count)}) + strings.Repeat("\x00", zeros) + b
			r := wire.Open(s + behind)
			if got := r.Num(math.MaxUint64); got != 0 {
				t.Errorf("%s: %d", short(s), got)
			}
			failed(t, short(s), r)
		}
	}
}

func TestReadNumbersOfNineBytes(t *testing.T) { // P2.2: no number has more than eight
	for first := 0x89; first <= 0xff; first++ {
		for _, digit := range []string{"\x00", "\x01", "\x80", "\xff"} {
			for _, count := range []int{0, 7, 8, 9, first - 128, 200} {
				s := string([]byte{byte(first)}) + strings.Repeat(digit, count)
				r := wire.Open(s)
				if got := r.Num(math.MaxUint64); got != 0 {
					t.Errorf("%s: %d", short(s), got)
				}
				failed(t, short(s), r)
			}
		}
	}
}

func TestReadAllShortBytes(t *testing.T) { // P2.2, P2.5, R6: of all bytes up to three exactly those are read that are written
	encoded := map[string]uint64{}
	for n := range uint64(1 << 16) {
		encoded[plainNum(n)] = n
	}
	for length := range 4 {
		for x := range 1 << (8 * length) {
			if length == 3 && x%5 != 0 && x>>16 != 0x82 {
				continue
			}
			b := []byte{byte(x >> 16), byte(x >> 8), byte(x)}
			s := string(b[3-length:])
			want, size := uint64(0), -1
			for cut := range len(s) + 1 {
				if n, is := encoded[s[:cut]]; is {
					want, size = n, cut
				}
			}
			r := wire.Open(s)
			got := r.Num(math.MaxUint64)
			if got != want || r.Fine() != (size >= 0) || r.Fine() && r.Left() != len(s)-size {
				t.Fatalf("%x: %d, fine %v, left %d; want %d of %d bytes", s, got, r.Fine(), r.Left(), want, size)
			}
		}
	}
}

func TestReadTexts(t *testing.T) { // P2.2, P2.4
	for _, s := range texts() {
		what := "a text of " + strconv.Itoa(len(s))
		for _, most := range []int{len(s), len(s) + 1, math.MaxInt} {
			for _, tail := range []string{"", "\xff", behind} {
				r := wire.Open(plainText(s) + tail)
				if got := r.Text(most); got != s {
					t.Errorf("%s with most %d: %s", what, most, short(got))
				}
				at(t, what, r, len(tail))
			}
		}
	}
}

func TestReadTextsAboveMost(t *testing.T) { // P2.2
	for _, s := range texts() {
		for _, most := range []int{len(s) - 1, len(s) / 2, 0, -1, math.MinInt} {
			if most >= len(s) || s == "" {
				continue
			}
			r := wire.Open(plainText(s) + behind)
			if got := r.Text(most); got != "" {
				t.Errorf("%d bytes with most %d: %s", len(s), most, short(got))
			}
			failed(t, "a text of "+strconv.Itoa(len(s)), r)
		}
	}
}

func TestReadEmptyTextWithMostBelowZero(t *testing.T) { // P2.2: a most below 0 counts as 0
	for _, most := range []int{0, -1, -2, -128, math.MinInt32, math.MinInt} {
		r := wire.Open("\x00\x01a")
		if got := r.Text(most); got != "" {
			t.Errorf("most %d: %s", most, short(got))
		}
		at(t, "most "+strconv.Itoa(most), r, 2)
		if got := r.Text(most); got != "" {
			t.Errorf("most %d: %s", most, short(got))
		}
		failed(t, "most "+strconv.Itoa(most), r)
	}
}

func TestReadTextsCut(t *testing.T) { // P2.2
	for _, s := range texts() {
		whole := plainText(s)
		for cut := range len(whole) {
			if cut > 10 && cut < len(whole)-3 && cut%997 != 0 {
				continue
			}
			r := wire.Open(whole[:cut])
			if got := r.Text(math.MaxInt); got != "" {
				t.Errorf("%d bytes cut at %d: %s", len(s), cut, short(got))
			}
			failed(t, "a cut text", r)
		}
	}
}

func TestReadTextsOfWrongLengths(t *testing.T) { // P2.2, R6
	for _, s := range []string{
		"\x81\x02ab", "\x82\x00\x02ab", "\x80ab", "\x80", "\x89ab", "\x84\xff\xff\xff\xffab",
		"\x88\x7f\xff\xff\xff\xff\xff\xff\xffab", "\x88\x80\x00\x00\x00\x00\x00\x00\x00ab", "\x88\xff\xff\xff\xff\xff\xff\xff\xffab", "\x88\xff\xff\xff\xff\xff\xff\xff\xfeab",
	} {
		r := wire.Open(s)
		if got := r.Text(math.MaxInt); got != "" {
			t.Errorf("%s: %s", short(s), short(got))
		}
		failed(t, short(s), r)
	}
}

func TestReadTextIsNewMemory(t *testing.T) { // R5
	b := []byte("\x08abcdefgh\x08abcdefgh")
	s := unsafe.String(&b[0], len(b))
	r := wire.Open(s)
	first := r.Text(8)
	b[1], b[10] = 'X', 'X' // the reader keeps bytes of its own
	second := r.Text(8)
	if first != "abcdefgh" || second != "abcdefgh" || r.End() != api.OK {
		t.Errorf("%q, %q, %d", first, second, r.End())
	}
}

func TestReadDots(t *testing.T) { // P2.3, P2.4
	for _, d := range dots() {
		whole := plainDot(d)
		for _, tail := range []string{"", "\xff", behind} {
			r := wire.Open(whole + tail)
			if got := r.Dot(); got != d {
				t.Errorf("%v: %v", d, got)
			}
			at(t, "a dot", r, len(tail))
		}
		for cut := range len(whole) {
			notADot(t, whole[:cut])
		}
	}
}

func notADot(t *testing.T, s string) {
	t.Helper()
	r := wire.Open(s)
	if got := r.Dot(); got != (api.Dot{}) {
		t.Errorf("%s: %v", short(s), got)
	}
	failed(t, short(s), r)
}

func TestReadWrongDots(t *testing.T) { // P2.3, R6
	for _, big := range []uint64{256, 257, 511, 65535, 65536, 1 << 32, 1<<32 + 3, math.MaxUint64} {
		notADot(t, plainNum(big)+"\x01"+behind)
	}
	for _, big := range []uint64{1 << 32, 1<<32 + 1, 1 << 33, 1 << 40, 1 << 63, math.MaxUint64} {
		notADot(t, "\x03"+plainNum(big)+behind)
	}
	for _, s := range []string{"\x81\x03\x01", "\x03\x81\x01", "\x03\x82\x00\xff", "\x80\x01", "\x03\x80", "\x03\x89"} {
		notADot(t, s+behind)
	}
}

func TestReadVectors(t *testing.T) { // P2.3, P2.4
	for _, v := range vectors() {
		whole := plainVector(v)
		for _, tail := range []string{"", "\xff", behind} {
			r := wire.Open(whole + tail)
			if got := r.Vector(); got != v {
				t.Errorf("%v: %v", v, got)
			}
			at(t, "a vector", r, len(tail))
		}
		for cut := range len(whole) {
			notAVector(t, whole[:cut])
		}
	}
}

func notAVector(t *testing.T, s string) {
	t.Helper()
	r := wire.Open(s)
	if got := r.Vector(); got != (api.Vector{}) {
		t.Errorf("%s: %v", short(s), got)
	}
	failed(t, short(s), r)
}

func TestReadWrongVectors(t *testing.T) { // P2.3, R6: at each of the eight places
	wrong := []string{"\x80", "\x81\x05", "\x82\x00\xff", "\x89", "\xff", plainNum(1 << 32), plainNum(1<<32 + 1), plainNum(math.MaxUint64)}
	for place := range 8 {
		for _, s := range wrong {
			notAVector(t, strings.Repeat("\x07", place)+s+strings.Repeat("\x07", 7-place)+behind)
		}
	}
}

func TestEnd(t *testing.T) { // P2.4
	r := wire.Open("")
	at(t, "nothing", r, 0)
	if got := r.Num(math.MaxUint64); got != 0 {
		t.Errorf("a number of nothing: %d", got)
	}
	failed(t, "a number of nothing", r)
	for what, read := range reads() {
		r := wire.Open("\x05")
		r.Num(5)
		at(t, "one number", r, 0)
		read(r)
		failed(t, what+" at the end", r)
	}
}

func reads() map[string]func(r *wire.Reader) {
	return map[string]func(r *wire.Reader){
		"a number": func(r *wire.Reader) { r.Num(math.MaxUint64) },
		"a text":   func(r *wire.Reader) { r.Text(math.MaxInt) },
		"a dot":    func(r *wire.Reader) { r.Dot() },
		"a vector": func(r *wire.Reader) { r.Vector() },
	}
}

func TestLeftGoesDown(t *testing.T) { // P2.4
	r := wire.Open("\x05" + "\x81\x80" + "\x02ab" + "\x03\x82\x01\x2c" + "\x01\x00\x81\xc8\x00\x00\x00\x00\x00" + "\xff")
	at(t, "all", r, 20)
	r.Num(5)
	at(t, "after a number", r, 19)
	r.Num(128)
	at(t, "after a number of two bytes", r, 17)
	r.Text(2)
	at(t, "after a text", r, 14)
	r.Dot()
	at(t, "after a dot", r, 10)
	r.Vector()
	at(t, "after a vector", r, 1)
	r.Dot()
	failed(t, "after what is no dot", r)
}

func TestReaderThatIsNone(t *testing.T) { // P2.4, R1
	for i, r := range []*wire.Reader{nil, {}, new(wire.Reader)} {
		failed(t, "reader "+strconv.Itoa(i), r)
	}
	for what, read := range reads() {
		for i, r := range []*wire.Reader{nil, {}} {
			read(r)
			failed(t, what+" of reader "+strconv.Itoa(i), r)
		}
	}
}

// mixed puts i's things into the writer, and returns how they are read back.
func mixed(t *testing.T, w *wire.Writer, i int) func(r *wire.Reader) {
	n, s, d, v := numbers()[i%len(numbers())], texts()[i%len(texts())], dots()[i%len(dots())], vectors()[i%len(vectors())]
	switch i % 4 {
	case 0:
		w.Num(n)
		return func(r *wire.Reader) {
			if got := r.Num(n); got != n {
				t.Errorf("%d: %d", n, got)
			}
		}
	case 1:
		w.Text(s)
		return func(r *wire.Reader) {
			if got := r.Text(len(s)); got != s {
				t.Errorf("%s: %s", short(s), short(got))
			}
		}
	case 2:
		w.Dot(d)
		return func(r *wire.Reader) {
			if got := r.Dot(); got != d {
				t.Errorf("%v: %v", d, got)
			}
		}
	}
	w.Vector(v)
	return func(r *wire.Reader) {
		if got := r.Vector(); got != v {
			t.Errorf("%v: %v", v, got)
		}
	}
}

func TestThereAndBack(t *testing.T) { // P2.5
	w := wire.New()
	var back []func(r *wire.Reader)
	for step := range 7 {
		for i := range 200 {
			back = append(back, mixed(t, w, i*(step+1)+step))
		}
	}
	r := wire.Open(w.Bytes())
	for _, read := range back {
		read(r)
	}
	at(t, "all", r, 0)
}

// readAndWrite reads something of s from the reader, by the number which, and writes it to the writer.
func readAndWrite(r *wire.Reader, w *wire.Writer, which uint32) {
	switch which % 5 {
	case 0:
		if n := r.Num(math.MaxUint64); r.Fine() {
			w.Num(n)
		}
	case 1:
		if n := r.Num(200); r.Fine() {
			w.Num(n)
		}
	case 2:
		if s := r.Text(300); r.Fine() {
			w.Text(s)
		}
	case 3:
		if d := r.Dot(); r.Fine() {
			w.Dot(d)
		}
	case 4:
		if v := r.Vector(); r.Fine() {
			w.Vector(v)
		}
	}
}

func TestBackAndThere(t *testing.T) { // P2.5, R6: what is read of any bytes is written as the same bytes
	seed := uint32(1)
	next := func() uint32 {
		seed = seed*1664525 + 1013904223
		return seed >> 8
	}
	const digits = "\x00\x01\x02\x05\x7f\x80\x81\x82\x83\x84\x88\x89\xff"
	fine, wrong := 0, 0
	for range 60000 {
		b := make([]byte, next()%24)
		for i := range b {
			b[i] = digits[next()%uint32(len(digits))]
		}
		s := string(b)
		r, w := wire.Open(s), wire.New()
		for r.Fine() && r.Left() > 0 {
			readAndWrite(r, w, next())
			if got := w.Bytes(); !strings.HasPrefix(s, got) || r.Fine() && len(got) != len(s)-r.Left() {
				t.Fatalf("%x: read, and written as %x, left %d", s, got, r.Left())
			}
		}
		if r.Fine() {
			fine++
		} else {
			wrong++
		}
	}
	if fine < 1000 || wrong < 1000 {
		t.Errorf("%d samples are read to their end, %d are not", fine, wrong)
	}
}

func TestNoPrefix(t *testing.T) { // P2.6
	l := numbers()
	encodings := make([]string, len(l))
	for i, n := range l {
		w := wire.New()
		w.Num(n)
		encodings[i] = w.Bytes()
	}
	for i, a := range encodings {
		for j, b := range encodings {
			if l[i] != l[j] && strings.HasPrefix(b, a) {
				t.Fatalf("%d is %x, a prefix of %d, %x", l[i], a, l[j], b)
			}
			if l[i] < l[j] && len(a) > len(b) {
				t.Fatalf("%d is %x, of more bytes than %d, %x", l[i], a, l[j], b)
			}
		}
	}
}

func TestNoPrefixOfSmallNumbers(t *testing.T) { // P2.6
	seen := map[string]bool{}
	length := 0
	for n := range uint64(1<<17 + 1) {
		w := wire.New()
		w.Num(n)
		s := w.Bytes()
		for cut := range len(s) + 1 {
			if seen[s[:cut]] {
				t.Fatalf("%d is %x, which begins with a lesser number", n, s)
			}
		}
		if len(s) < length {
			t.Fatalf("%d is %x, of less bytes than the number before it", n, s)
		}
		seen[s], length = true, len(s)
	}
}
