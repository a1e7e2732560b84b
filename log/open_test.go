package log_test

import (
	"slices"
	"strconv"
	"strings"
	"testing"

	"tranter/api"
	"tranter/disk"
)

// onDisk returns a disk with files of these contents, as log.00000001 and so on.
func onDisk(t *testing.T, contents ...string) *disk.Disk {
	t.Helper()
	d := made(t, 1<<20)
	for i, content := range contents {
		file(t, d, "log.0000000"+strconv.Itoa(i+1), content)
	}
	is(t, "Sync", d.Sync(), api.OK)
	return d
}

// holds says which strings a log has that is opened on a disk with these contents, by the chapter and by the plain definition.
func holds(t *testing.T, what string, want []string, contents ...string) {
	t.Helper()
	d := onDisk(t, contents...)
	if got := plainTexts(d); !slices.Equal(got, want) {
		t.Fatalf("%s: the plain strings are %s, want %s", what, short(got), short(want))
	}
	x := openPair(t, d, 30)
	if got := x.l.Texts(); !slices.Equal(got, want) || x.l.Synced() != len(want) {
		t.Errorf("%s: %s, synced %d, want %s", what, short(got), x.l.Synced(), short(want))
	}
}

// mustBeHeads and mustNotBeHeads are first strings of segments.
var mustBeHeads = []string{"F:0", "F:1", "F:7", "F:10", "F:1000000000", "F:9999999999", "F:4294967296", "F:4294967295", "S:1"}

var mustNotBeHeads = []string{
	"", "F", "F:", ":0", "0", "f:0", "s:1", "G:0", "FS:0", "F0", "F;0", "F::0", " F:0", "F: 0", "F:0 ", "F:0\n", "F:0\x00", "\x00F:0",
	"F:00", "F:01", "F:000", "F:0000000000", "F:00000000000", "F:10000000000", "F:99999999999", "F:18446744073709551616", "F:18446744073709551615", "F:0x1",
	"F:+0", "F:-0", "F:-1", "F:+1", "F:0.0", "F:1e0", "F:a", "F:1_0", "F:\xef\xbc\x90", "F:0F:0",
	"S:01", "S:+1", "S:", "S", "S:1 ", "S: 1", "S:-1", "S:10000000000", "S:00000000001",
}

func TestHeads(t *testing.T) { // P9.1: what is a head, and what is none: the latter does not count
	y := plainRow("F:0", "y")
	for _, head := range mustBeHeads {
		want := []string(nil) // a head that does not fit, so that what is after it is left out
		if head == "F:0" || head == "S:1" {
			want = []string{"x"}
		}
		holds(t, head, want, plainRow(head, "x"), y)
	}
	for _, head := range mustNotBeHeads {
		holds(t, head, []string{"y"}, plainRow(head, "x"), y)
		holds(t, head, []string{"y"}, y, plainRow(head, "x"))
		holds(t, head, []string{"y", "z"}, y, plainRow(head, "x"), plainRow("F:1", "z"))
		holds(t, head, nil, plainRow(head))
	}
}

func TestNames(t *testing.T) { // P9.1, P9.3: which files are segments
	names := []string{
		"log.00000001", "log.00000002", "log.00000010", "log.01234567", "log.12345678", "log.99999998", "log.99999999", "log.10000000",
	}
	others := []string{
		"log.00000000", "log.0000001", "log.000000001", "log.1", "log.", "log", "log.new", "Log.00000001", "LOG.00000001", "log_00000001", "log00000001", "log:00000001",
		"log.0000000a", "log.a0000001", "log.000a0001", "log.+0000001", "log.-0000001", "log. 0000001", "log.0000001 ", "log.0000001\n", "log.0000001\x00", "log.1_000_00", "log.0x000001", "log.1e000000",
		"log.00000001 ", " log.00000001", "xlog.00000001", "log.00000001.log.00000002", "log..0000001", "log.000000\xef\xbc\x91", "log.00000001\n", "00000001", "log.log.0000",
	}
	content := plainRow("F:0", "x")
	for _, name := range names {
		d := made(t, 1000)
		file(t, d, name, content)
		has(t, opened(t, d, 30), 0, []string{"x"}, name)
	}
	all := made(t, 1<<16)
	for _, name := range others {
		d := made(t, 1000)
		file(t, d, name, content)
		has(t, opened(t, d, 30), 0, nil)
		file(t, all, name, content)
	}
	has(t, opened(t, all, 30), 0, nil)
	for _, name := range names {
		file(t, all, name, content)
	}
	slices.Sort(names)
	has(t, opened(t, all, 30), 0, []string{"x"}, names...) // the second head does not fit
}

func TestOrderOfSegments(t *testing.T) { // P9.1: by their numbers, not by the order in which the files were made
	d := made(t, 1000)
	file(t, d, "log.00000010", plainRow("F:2", "c"))
	file(t, d, "log.00000009", plainRow("F:1", "b"))
	file(t, d, "log.00000002", plainRow("F:0", "a"))
	has(t, opened(t, d, 30), 0, []string{"a", "b", "c"}, "log.00000002", "log.00000009", "log.00000010")
	is(t, "Rename", d.Rename("log.00000002", "log.00000011"), api.OK)
	has(t, opened(t, d, 30), 0, nil, "log.00000009", "log.00000010", "log.00000011")
}

func TestHeadsThatFit(t *testing.T) { // P9.1: the first one that does not fit, and all after it, are left out
	a, b, c := plainRow("F:0", "a"), plainRow("F:1", "b"), plainRow("F:2", "c", "d")
	holds(t, "all", []string{"a", "b", "c", "d"}, a, b, c)
	holds(t, "without the first one", nil, b, c)
	holds(t, "without the second one", []string{"a"}, a, c)
	holds(t, "swapped", []string{"a"}, a, c, b)
	holds(t, "twice", []string{"a"}, a, a, b, c)
	holds(t, "one that fits later", []string{"a"}, a, plainRow("F:3", "x"), b, c)
	holds(t, "less than there are", []string{"a", "b"}, a, b, plainRow("F:1", "x"), c)
	holds(t, "empty ones", []string{"a", "b"}, plainRow("F:0"), plainRow("F:0"), a, plainRow("F:1"), plainRow("F:1"), b)
	holds(t, "an empty one that does not fit", []string{"a"}, a, plainRow("F:2"), b, c)
	holds(t, "nothing", nil)
	var ten []string
	row := plainRow("F:0")
	for i := range 10 {
		ten = append(ten, strconv.Itoa(i))
	}
	holds(t, "ten", append(slices.Clone(ten), "x"), row+plainRow(ten...), plainRow("F:10", "x"))
}

func TestBase(t *testing.T) { // P9.1: the last snapshot that counts; nothing before it does
	a, b := plainRow("F:0", "a"), plainRow("F:1", "b")
	s := plainRow("S:2", "s", "t")
	holds(t, "alone", []string{"s", "t"}, s)
	holds(t, "after others", []string{"s", "t"}, a, b, s)
	holds(t, "after others that do not fit", []string{"s", "t"}, b, a, s)
	holds(t, "before one that fits", []string{"s", "t", "c"}, a, s, plainRow("F:2", "c"))
	holds(t, "before one that would fit without it", []string{"s", "t"}, a, s, b)
	holds(t, "two", []string{"u"}, a, s, plainRow("S:1", "u"))
	holds(t, "the last one, and more", []string{"u", "b"}, s, plainRow("F:2", "c"), plainRow("S:1", "u"), b)
	holds(t, "none after the last one", []string{"u"}, s, plainRow("S:1", "u"), plainRow("F:2", "c"))
	holds(t, "one of nothing", []string{"a"}, s, plainRow("S:0"), a)
	holds(t, "one of nothing, at the end", nil, a, b, plainRow("S:0"))
}

func TestSnapshotsThatDoNotCount(t *testing.T) { // P9.1: those with another number of strings
	a, b := plainRow("F:0", "a"), plainRow("F:1", "b")
	for _, s := range []string{plainRow("S:0", "s"), plainRow("S:1"), plainRow("S:2", "s"), plainRow("S:1", "s", "t"), plainRow("S:9999999999", "s"), plainRow("S:4294967297", "s")} {
		holds(t, "alone", nil, s)
		holds(t, "first", []string{"a", "b"}, s, a, b)
		holds(t, "between", []string{"a", "b"}, a, s, b)
		holds(t, "last", []string{"a", "b"}, a, b, s)
		holds(t, "after one that counts", []string{"u", "b"}, a, plainRow("S:1", "u"), s, b)
	}
}

func TestEndsOfSegments(t *testing.T) { // P9.1: the strings are those that are scanned, whatever is after them
	ends := []string{"", "\x05", "\x05ab", "\x84", "\x00\x00\x00\x00\x00", plainRow("x")[:5], "\x80" + plainRow("x")}
	for _, end := range ends {
		holds(t, "the last one", []string{"a", "b"}, plainRow("F:0", "a", "b")+end)
		holds(t, "before another one", []string{"a", "b", "c"}, plainRow("F:0", "a", "b")+end, plainRow("F:2", "c"))
		holds(t, "before one that does not fit", []string{"a", "b"}, plainRow("F:0", "a", "b")+end, plainRow("F:3", "c"))
		holds(t, "a snapshot", []string{"a", "b", "c"}, plainRow("S:2", "a", "b")+end, plainRow("F:2", "c"))
		holds(t, "a snapshot without its last one", nil, plainRow("S:3", "a", "b")+end)
		holds(t, "no first record", []string{"b"}, end, plainRow("F:0", "b"))
		holds(t, "no first record, and more", []string{"b"}, end+plainRow("x"), plainRow("F:0", "b"))
		holds(t, "a head alone", []string{"b"}, plainRow("F:0")+end, plainRow("F:0", "b"))
	}
	whole := plainRow("F:0", "a", "b", "c")
	for cut := range len(whole) + 1 {
		want := []string(nil)
		for _, n := range []int{1, 2, 3} {
			if all := []string{"a", "b", "c"}[:n]; cut >= len(plainRow("F:0")+plainRow(all...)) {
				want = all
			}
		}
		holds(t, "cut", want, whole[:cut])
	}
	holds(t, "an inverted bit", []string{"a"}, strings.Replace(whole, "b", "c", 1))
	holds(t, "an inverted bit of the head", nil, "\x03G"+whole[2:])
}

func TestOpenAny(t *testing.T) { // P9.1: any segments
	roll := dice(3)
	counts := map[int]int{}
	for range 4000 {
		var contents []string
		for range roll(7) + 1 {
			head := []string{"F:", "F:", "F:", "F:", "S:"}[roll(5)] + strconv.Itoa(roll(4))
			content := plainRow(head) + plainRow([]string{"a", "b", "c"}[:roll(4)]...)
			switch roll(6) {
			case 0:
				content = content[:roll(len(content)+1)]
			case 1:
				at := roll(len(content))
				content = content[:at] + string([]byte{content[at] ^ 1<<roll(8)}) + content[at+1:]
			case 2:
				content = plainRow(mustNotBeHeads[roll(len(mustNotBeHeads))], "x")
			}
			contents = append(contents, content)
		}
		x := openPair(t, onDisk(t, contents...), 30)
		counts[len(x.p.texts)]++
		x.append("d")
		x.reopen(30)
		x.snapshot()
		x.reopen(30)
	}
	for n := range 6 {
		if counts[n] < 20 {
			t.Errorf("%d samples have %d strings", counts[n], n)
		}
	}
}
