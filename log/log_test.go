package log_test

import (
	"math"
	"slices"
	"strconv"
	"strings"
	"testing"
	"unsafe"

	"tranter/api"
	"tranter/disk"
	"tranter/log"
)

// is says that a call returned that error.
func is(t *testing.T, what string, got, want api.Errno) {
	t.Helper()
	if got != want {
		t.Errorf("%s is %d, want %d", what, got, want)
	}
}

func reads(t *testing.T, d *disk.Disk, name, want string) {
	t.Helper()
	if s, e := d.Read(name); s != want || e != api.OK {
		t.Errorf("%s has %q, %d, want %q", name, s, e, want)
	}
}

// has says what the log returns of itself.
func has(t *testing.T, l *log.Log, synced int, texts []string, names ...string) {
	t.Helper()
	if got := l.Texts(); !slices.Equal(got, texts) {
		t.Errorf("Texts is %s, want %s", short(got), short(texts))
	}
	if got := l.Synced(); got != synced {
		t.Errorf("Synced is %d, want %d", got, synced)
	}
	if got := l.Names(); !slices.Equal(got, names) {
		t.Errorf("Names is %q, want %q", got, names)
	}
}

// file puts a file on a disk, ahead of any log.
func file(t *testing.T, d *disk.Disk, name, content string) {
	t.Helper()
	is(t, "Append of "+name, d.Append(name, content), api.OK)
}

func TestExamples(t *testing.T) { // P9.1 to P9.3
	d := made(t, 1000)
	l := opened(t, d, 30)
	has(t, l, 0, nil)
	is(t, "Append", l.Append("a", "b"), api.OK)
	has(t, l, 0, []string{"a", "b"}, "log.00000001")
	reads(t, d, "log.00000001", "\x03F:0\x54\x1c\x6d\xf6\x01a\xc4\xff\x6e\x71\x01b\x30\x0c\x3e\x62")
	twenty := "01234567890123456789"
	is(t, "Append", l.Append(twenty), api.OK)
	has(t, l, 0, []string{"a", "b", twenty}, "log.00000001")
	reads(t, d, "log.00000001", plainRow("F:0", "a", "b", twenty))
	is(t, "Append", l.Append("c"), api.OK)
	has(t, l, 0, []string{"a", "b", twenty, "c"}, "log.00000001", "log.00000002")
	reads(t, d, "log.00000002", plainRow("F:3", "c"))
	is(t, "Snapshot", l.Snapshot(), api.OK)
	has(t, l, 4, []string{"a", "b", twenty, "c"}, "log.00000003")
	reads(t, d, "log.00000003", plainRow("S:4", "a", "b", twenty, "c"))
	l = opened(t, d, 30)
	has(t, l, 4, []string{"a", "b", twenty, "c"}, "log.00000003")
	is(t, "Append", l.Append("d"), api.OK)
	has(t, l, 4, []string{"a", "b", twenty, "c", "d"}, "log.00000003", "log.00000004")
	reads(t, d, "log.00000004", plainRow("F:4", "d"))
	if !slices.Equal(d.List(), []string{"log.00000003", "log.00000004"}) {
		t.Error(d.List())
	}
}

func TestNotAnObject(t *testing.T) { // P9.1 to P9.3, R1: no log, no disk
	for _, d := range []*disk.Disk{nil, new(disk.Disk), {}} {
		for _, limit := range []int{30, 0, -1, 1 << 21} { // ErrNil is first
			if l, e := log.Open(d, limit); l != nil || e != api.ErrNil {
				t.Errorf("Open of no disk is %v, %d", l, e)
			}
		}
	}
	for _, l := range []*log.Log{nil, new(log.Log), {}} {
		for range 2 {
			is(t, "Append", l.Append("a"), api.ErrNil)
			is(t, "Append of nothing", l.Append(), api.ErrNil)
			is(t, "Append of what is too long", l.Append(strings.Repeat("x", 65537)), api.ErrNil)
			is(t, "Sync", l.Sync(), api.ErrNil)
			is(t, "Snapshot", l.Snapshot(), api.ErrNil)
			has(t, l, 0, nil)
		}
	}
}

func TestLimits(t *testing.T) { // P9.1, R3: limits from 1 to 2^20
	d := made(t, 1000)
	for _, limit := range []int{1, 2, 30, 1<<20 - 1, 1 << 20} {
		has(t, opened(t, d, limit), 0, nil)
	}
	for _, limit := range []int{0, -1, 1<<20 + 1, 1 << 21, math.MaxInt, math.MinInt, math.MinInt + 1, -1 << 20} {
		if l, e := log.Open(d, limit); l != nil || e != api.ErrArg {
			t.Errorf("Open with the limit %d is %v, %d, want ErrArg", limit, l, e)
		}
	}
}

func TestAppendAtTheLimit(t *testing.T) { // P9.2: a segment with at least as many bytes as the limit is not appended to any more
	first := len(plainRow("F:0", "abc"))
	for limit := 1; limit <= 2*first; limit++ {
		d := made(t, 1000)
		l := opened(t, d, limit)
		is(t, "Append", l.Append("abc"), api.OK)
		is(t, "Append", l.Append("d"), api.OK)
		if limit <= first {
			has(t, l, 0, []string{"abc", "d"}, "log.00000001", "log.00000002")
			reads(t, d, "log.00000001", plainRow("F:0", "abc"))
			reads(t, d, "log.00000002", plainRow("F:1", "d"))
		} else {
			has(t, l, 0, []string{"abc", "d"}, "log.00000001")
			reads(t, d, "log.00000001", plainRow("F:0", "abc", "d"))
		}
	}
	d := made(t, 1<<24)
	x := openPair(t, d, 1<<20)
	long := strings.Repeat("x", 65536)
	for range 17 {
		is(t, "Append", x.append(long), api.OK)
	}
	has(t, x.l, 0, slices.Repeat([]string{long}, 17), "log.00000001", "log.00000002")
}

func TestAppendInOne(t *testing.T) { // P9.2: all strings of a call are in one segment, however long it becomes, and one append
	var many []string
	for i := range 100 {
		many = append(many, strconv.Itoa(i))
	}
	d := made(t, 10000)
	l := opened(t, d, 1)
	is(t, "Append", l.Append(many...), api.OK)
	has(t, l, 0, many, "log.00000001")
	reads(t, d, "log.00000001", plainRow("F:0")+plainRow(many...))
	if want := 1 + len(plainRow("F:0")) + len(plainRow(many...)); d.Units() != want {
		t.Errorf("%d units, want %d", d.Units(), want)
	}
	is(t, "Append", l.Append(many...), api.OK)
	reads(t, d, "log.00000002", plainRow("F:100")+plainRow(many...))
}

func TestAppendOfNothing(t *testing.T) { // P9.2: nothing is done
	x := openPair(t, made(t, 100), 1)
	for range 3 {
		is(t, "of nothing", x.append(), api.OK)
		is(t, "of an empty list", x.append([]string{}...), api.OK)
		has(t, x.l, 0, nil)
	}
	is(t, "Append", x.append(""), api.OK) // an empty string is one
	is(t, "of nothing", x.append(), api.OK)
	has(t, x.l, 0, []string{""}, "log.00000001")
	is(t, "Append", x.append("", ""), api.OK)
	has(t, x.l, 0, []string{"", "", ""}, "log.00000001", "log.00000002")

	full := made(t, 1000)
	file(t, full, "log.99999999", "x")
	is(t, "of nothing, without a next number", opened(t, full, 1).Append(), api.OK)
	is(t, "Fuse", full.Fuse(0), api.OK)
	is(t, "Sync", full.Sync(), api.ErrDown)
	l := opened(t, full, 1)
	is(t, "of nothing, on a disk that is down", l.Append(), api.OK)
	is(t, "Sync", l.Sync(), api.ErrDown)
	is(t, "of nothing, by a broken log", l.Append(), api.ErrState)
}

func TestAppendAnyBytes(t *testing.T) { // P9.2, P9.3: what looks like heads and records, all lengths
	texts := []string{"", "F:0", "S:0", "S:1", "\x00", "\xff\xfe", "\u00e4", plainRow("F:0", "a"), strings.Repeat("\x00", 500)}
	for _, n := range []int{127, 128, 129, 255, 256, 65535, 65536} {
		texts = append(texts, strings.Repeat("y", n))
	}
	for _, limit := range []int{1, 200, 1 << 20} {
		x := openPair(t, made(t, 1<<20), limit)
		for _, text := range texts {
			is(t, "Append", x.append(text), api.OK)
		}
		has(t, x.l, 0, texts, x.l.Names()...)
		x.reopen(limit)
		is(t, "Snapshot", x.snapshot(), api.OK)
		x.reopen(limit)
		has(t, x.l, len(texts), texts, x.l.Names()...)
	}
}

func TestAppendTooLong(t *testing.T) { // P9.2: one string that is too long, wherever it is
	for _, n := range []int{65537, 65538, 1 << 17, 1 << 20} {
		long := strings.Repeat("x", n)
		for _, s := range [][]string{{long}, {"a", long}, {long, "a"}, {"a", long, "b"}, {long, long}} {
			x := openPair(t, made(t, 1<<21), 100)
			is(t, "too long", x.append(s...), api.ErrLong)
			has(t, x.l, 0, nil)
			is(t, "Append", x.append("one"), api.OK)
			is(t, "too long", x.append(s...), api.ErrLong)
			has(t, x.l, 0, []string{"one"}, "log.00000001")
			is(t, "Append", x.append("two"), api.OK)
			is(t, "Sync", x.sync(), api.OK)
			has(t, x.l, 2, []string{"one", "two"}, "log.00000001")
		}
	}
}

func TestNumberTooGreat(t *testing.T) { // P9.2: there is none after 99999999
	d := made(t, 1000)
	file(t, d, "log.99999998", plainRow("F:0", "a"))
	x := openPair(t, d, 30)
	is(t, "Append", x.append("b"), api.OK)
	is(t, "Append", x.append("c"), api.OK) // to the segment that there is
	has(t, x.l, 0, []string{"a", "b", "c"}, "log.99999998", "log.99999999")
	is(t, "Snapshot", x.snapshot(), api.ErrLong)
	is(t, "Append", x.append(strings.Repeat("d", 30)), api.OK)
	units := d.Units()
	is(t, "Append", x.append("e"), api.ErrLong)
	is(t, "Snapshot", x.snapshot(), api.ErrLong)
	if d.Units() != units {
		t.Error("something is done")
	}
	is(t, "Sync", x.sync(), api.OK)
	x.reopen(30)
	is(t, "Append", x.append("e"), api.ErrLong)
	x.both("Remove", func(d *disk.Disk) api.Errno { return d.Remove("log.99999999") })
	is(t, "Append", x.append("e"), api.OK)
	has(t, x.l, 4, []string{"a", "b", "c", strings.Repeat("d", 30), "e"}, "log.99999998", "log.99999999")
}

func TestNumberIsFirst(t *testing.T) { // P9.2: ErrLong is ahead of ErrDown and ErrFull, nothing is done then, and the log is not broken
	d := made(t, 20)
	file(t, d, "log.99999999", plainRow("F:0", "a"))
	file(t, d, "log.new", "old")
	is(t, "Sync", d.Sync(), api.OK)
	x := openPair(t, d, 30)
	is(t, "Append, no room", x.append("b"), api.ErrLong)
	is(t, "Append, too long, no room", x.append(strings.Repeat("b", 65537)), api.ErrLong)
	is(t, "Snapshot, no room", x.snapshot(), api.ErrLong)
	reads(t, d, "log.new", "old")
	x.both("Fuse", func(d *disk.Disk) api.Errno { return d.Fuse(0) })
	is(t, "Snapshot, a fuse", x.snapshot(), api.ErrLong)
	x.both("Sync", (*disk.Disk).Sync)
	if !d.Down() {
		t.Error("not down")
	}
	is(t, "Append, down", x.append("b"), api.ErrLong)
	is(t, "Snapshot, down", x.snapshot(), api.ErrLong)
	x.both("Crash", func(d *disk.Disk) api.Errno { return d.Crash(0) })
	is(t, "Sync", x.sync(), api.OK)
	is(t, "Append", x.append("b"), api.ErrLong)

	down := made(t, 1<<20)
	is(t, "Fuse", down.Fuse(0), api.OK)
	is(t, "Sync", down.Sync(), api.ErrDown)
	l := opened(t, down, 30)
	is(t, "Append, too long, down", l.Append(strings.Repeat("b", 65537)), api.ErrLong)
	is(t, "Append, down", l.Append("b"), api.ErrDown)
	is(t, "Append, too long, broken", l.Append(strings.Repeat("b", 65537)), api.ErrState)
}

func TestAppendFull(t *testing.T) { // P9.2: ErrFull leaves all as it was, and breaks nothing
	two := len(plainRow("F:0", "a"))
	for _, limit := range []int{1, 1000} {
		x := openPair(t, made(t, two+7), limit)
		is(t, "Append", x.append("0123456789"), api.ErrFull)
		has(t, x.l, 0, nil)
		is(t, "Append", x.append("a"), api.OK)
		is(t, "Append", x.append("01234567"), api.ErrFull)
		has(t, x.l, 0, []string{"a"}, "log.00000001")
		is(t, "Sync", x.sync(), api.OK)
		has(t, x.l, 1, []string{"a"}, "log.00000001")
		want := api.OK
		if limit == 1 { // the head of a new segment has no room
			want = api.ErrFull
		}
		is(t, "Append", x.append("b"), want)
	}
}

func TestSync(t *testing.T) { // P9.2, P9.3
	x := openPair(t, made(t, 1000), 30)
	is(t, "Sync of nothing", x.sync(), api.OK)
	has(t, x.l, 0, nil)
	is(t, "Append", x.append("a"), api.OK)
	has(t, x.l, 0, []string{"a"}, "log.00000001")
	is(t, "Sync", x.sync(), api.OK)
	has(t, x.l, 1, []string{"a"}, "log.00000001")
	if x.d.Units() != 0 {
		t.Errorf("%d units", x.d.Units())
	}
	is(t, "Append", x.append("b", "c"), api.OK)
	x.both("Sync by others", (*disk.Disk).Sync) // is not the log's
	has(t, x.l, 1, []string{"a", "b", "c"}, "log.00000001")
	is(t, "Sync", x.sync(), api.OK)
	has(t, x.l, 3, []string{"a", "b", "c"}, "log.00000001")
	file(t, x.d, "other", "x") // a sync is one of the whole disk
	is(t, "Sync", x.l.Sync(), api.OK)
	is(t, "Crash", x.d.Crash(0), api.OK)
	reads(t, x.d, "other", "x")
}

func TestSyncedAtOpening(t *testing.T) { // P9.3: all, or none if there are units, even those of another file
	d := made(t, 1000)
	l := opened(t, d, 30)
	is(t, "Append", l.Append("a", "b"), api.OK)
	has(t, opened(t, d, 30), 0, []string{"a", "b"}, "log.00000001")
	is(t, "Sync", l.Sync(), api.OK)
	has(t, opened(t, d, 30), 2, []string{"a", "b"}, "log.00000001")
	file(t, d, "other", "")
	has(t, opened(t, d, 30), 0, []string{"a", "b"}, "log.00000001")
	is(t, "Crash", d.Crash(1), api.OK)
	has(t, opened(t, d, 30), 2, []string{"a", "b"}, "log.00000001")
}

func TestSnapshot(t *testing.T) { // P9.2: other files stay; a draft that is left is removed
	d := made(t, 1000)
	for _, name := range []string{"log.new", "log.00000000", "log.0000001", "log.000000001", "other", "log"} {
		file(t, d, name, "x")
	}
	for _, name := range []string{"log.00000007", "log.00000002", "log.00000005"} { // those that do not count are removed as well
		file(t, d, name, "y")
	}
	x := openPair(t, d, 30)
	is(t, "Append", x.append("a", "b"), api.OK)
	is(t, "Snapshot", x.snapshot(), api.OK)
	has(t, x.l, 2, []string{"a", "b"}, "log.00000009")
	reads(t, d, "log.00000009", plainRow("S:2", "a", "b"))
	if want := []string{"log", "log.00000000", "log.000000001", "log.00000009", "log.0000001", "other"}; !slices.Equal(d.List(), want) {
		t.Errorf("%q, want %q", d.List(), want)
	}
	if d.Units() != 0 {
		t.Errorf("%d units", d.Units())
	}
	is(t, "Snapshot", x.snapshot(), api.OK)
	has(t, x.l, 2, []string{"a", "b"}, "log.00000010")
	is(t, "Append", x.append("c"), api.OK) // not into the snapshot
	has(t, x.l, 2, []string{"a", "b", "c"}, "log.00000010", "log.00000011")
	reads(t, d, "log.00000011", plainRow("F:2", "c"))
}

func TestSnapshotOfNothing(t *testing.T) { // P9.2
	x := openPair(t, made(t, 1000), 30)
	is(t, "Snapshot", x.snapshot(), api.OK)
	has(t, x.l, 0, nil, "log.00000001")
	reads(t, x.d, "log.00000001", plainRow("S:0"))
	x.reopen(30)
	is(t, "Append", x.append("a"), api.OK)
	reads(t, x.d, "log.00000002", plainRow("F:0", "a"))
	x.reopen(30)
	has(t, x.l, 0, []string{"a"}, "log.00000001", "log.00000002")
}

func TestSnapshotInAnOpenSegment(t *testing.T) { // P9.2: strings go to a new segment after it, though the last one is below the limit
	x := openPair(t, made(t, 1000), 1000)
	is(t, "Append", x.append("a"), api.OK)
	is(t, "Snapshot", x.snapshot(), api.OK)
	is(t, "Append", x.append("b"), api.OK)
	is(t, "Append", x.append("c"), api.OK)
	has(t, x.l, 1, []string{"a", "b", "c"}, "log.00000002", "log.00000003")
}

func TestSnapshotFull(t *testing.T) { // P9.2: what was done ahead of the error stays, and nothing is broken
	room := len(plainRow("F:0", "0123456789")) + 15
	x := openPair(t, made(t, room), 1000)
	is(t, "Append", x.append("0123456789"), api.OK)
	is(t, "Sync", x.sync(), api.OK)
	x.both("Append", func(d *disk.Disk) api.Errno { return d.Append("log.new", "x") })
	is(t, "Snapshot", x.snapshot(), api.ErrFull)
	has(t, x.l, 1, []string{"0123456789"}, "log.00000001")
	if want := []string{"log.00000001"}; !slices.Equal(x.d.List(), want) || x.d.Units() != 3 { // the draft is removed, not synced
		t.Errorf("%q, %d units", x.d.List(), x.d.Units())
	}
	is(t, "Append", x.append("b"), api.OK) // to the same segment: no snapshot was made
	has(t, x.l, 1, []string{"0123456789", "b"}, "log.00000001")
	is(t, "Sync", x.sync(), api.OK)
	has(t, x.l, 2, []string{"0123456789", "b"}, "log.00000001")
}

func TestBroken(t *testing.T) { // P9.2: from the first ErrDown on, also after the disk's crash
	for name, call := range map[string]func(x *pair) api.Errno{
		"Append":   func(x *pair) api.Errno { return x.append("b") },
		"Sync":     func(x *pair) api.Errno { return x.sync() },
		"Snapshot": func(x *pair) api.Errno { return x.snapshot() },
	} {
		x := openPair(t, made(t, 1000), 30)
		is(t, "Append", x.append("a"), api.OK)
		is(t, "Sync", x.sync(), api.OK)
		is(t, "Append", x.append("c"), api.OK)
		x.both("Fuse", func(d *disk.Disk) api.Errno { return d.Fuse(0) })
		is(t, name, call(x), api.ErrDown)
		for range 2 {
			is(t, "Append", x.append("d"), api.ErrState)
			is(t, "Append of nothing", x.append(), api.ErrState)
			is(t, "Append of what is too long", x.append(strings.Repeat("x", 65537)), api.ErrState)
			is(t, "Sync", x.sync(), api.ErrState)
			is(t, "Snapshot", x.snapshot(), api.ErrState)
			has(t, x.l, 1, []string{"a", "c"}, "log.00000001")
			x.both("Crash", func(d *disk.Disk) api.Errno { return d.Crash(0) })
		}
		x.reopen(30)
		has(t, x.l, 1, []string{"a"}, "log.00000001")
		is(t, "Append", x.append("d"), api.OK)
		has(t, x.l, 1, []string{"a", "d"}, "log.00000001", "log.00000002")
	}
}

func TestDownByOthers(t *testing.T) { // P9.1, P9.2: a log is broken when the disk tells it, not before
	x := openPair(t, made(t, 1000), 30)
	is(t, "Append", x.append("a"), api.OK)
	x.both("Fuse", func(d *disk.Disk) api.Errno { return d.Fuse(3) })
	is(t, "Append by others", x.both("Append", func(d *disk.Disk) api.Errno { return d.Append("other", "xyz") }), api.ErrDown)
	x.reopen(30) // a disk that is down is one
	has(t, x.l, 0, []string{"a"}, "log.00000001")
	x.both("Crash", func(d *disk.Disk) api.Errno { return d.Crash(1000) })
	is(t, "Append", x.append("b"), api.OK)
	is(t, "Sync", x.sync(), api.OK)
	has(t, x.l, 2, []string{"a", "b"}, "log.00000001", "log.00000002")
}

func TestSegmentOfOthers(t *testing.T) { // what others do to its file does not count until the next append
	x := openPair(t, made(t, 1000), 30)
	is(t, "Append", x.append("a"), api.OK)
	x.both("Append", func(d *disk.Disk) api.Errno { return d.Append("log.00000001", strings.Repeat("x", 40)) })
	is(t, "Append", x.append("b"), api.OK)
	has(t, x.l, 0, []string{"a", "b"}, "log.00000001")
	is(t, "Append", x.append("c"), api.OK)
	has(t, x.l, 0, []string{"a", "b", "c"}, "log.00000001", "log.00000002")
	is(t, "Append", x.append(strings.Repeat("d", 10)), api.OK)
	x.both("Remove", func(d *disk.Disk) api.Errno { return d.Remove("log.00000002") })
	is(t, "Append", x.append("e"), api.OK) // to the same name
	reads(t, x.d, "log.00000002", plainRow("e"))
	is(t, "Append", x.append("f"), api.OK)
	reads(t, x.d, "log.00000002", plainRow("e", "f"))

	y := openPair(t, made(t, 1000), 20)
	is(t, "Append", y.append(strings.Repeat("a", 20)), api.OK)
	y.both("Remove", func(d *disk.Disk) api.Errno { return d.Remove("log.00000001") })
	is(t, "Append", y.append("b"), api.OK) // it had enough bytes right after the append
	reads(t, y.d, "log.00000001", plainRow("F:1", "b"))
}

func TestNextNumber(t *testing.T) { // after all that exist, wherever there is room between them
	for _, x := range []struct {
		names []string
		next  string
	}{
		{nil, "log.00000001"},
		{[]string{"log.00000002"}, "log.00000003"},
		{[]string{"log.00000009"}, "log.00000010"},
		{[]string{"log.00000001", "log.00000099"}, "log.00000100"},
		{[]string{"log.00099999", "log.00000100"}, "log.00100000"},
		{[]string{"log.12345678"}, "log.12345679"},
		{[]string{"log.09999999"}, "log.10000000"},
		{[]string{"log.00000000", "log.new", "log.9", "log.000000009", "log.a0000009", "lag.00000009"}, "log.00000001"},
	} {
		for _, snapshot := range []bool{false, true} {
			d := made(t, 1000)
			for _, name := range x.names {
				file(t, d, name, "")
			}
			l := opened(t, d, 30)
			if snapshot {
				is(t, "Snapshot", l.Snapshot(), api.OK)
			} else {
				is(t, "Append", l.Append("a"), api.OK)
			}
			if names := l.Names(); len(names) == 0 || names[len(names)-1] != x.next {
				t.Errorf("after %q: %q, want %s", x.names, names, x.next)
			}
		}
	}
}

func TestArgumentsAreNotKept(t *testing.T) { // R5
	want := []string{"abc", "defg"}
	var l []string
	var all [][]byte
	for _, text := range want {
		b := []byte(text)
		all = append(all, b)
		l = append(l, unsafe.String(&b[0], len(b)))
	}
	list := append(slices.Clone(l), "behind", "it")
	for _, limit := range []int{1, 1000} {
		d := made(t, 1000)
		x := opened(t, d, limit)
		for range 2 {
			is(t, "Append", x.Append(list[:2]...), api.OK)
			is(t, "Append", x.Append(list[:1:4]...), api.OK)
		}
		if !slices.Equal(list, []string{"abc", "defg", "behind", "it"}) {
			t.Fatalf("the argument is changed: %q", list)
		}
		for _, b := range all {
			for i := range b {
				b[i] = '!'
			}
		}
		texts := slices.Repeat([]string{"abc", "defg", "abc"}, 2)
		has(t, x, 0, texts, x.Names()...)
		is(t, "Snapshot", x.Snapshot(), api.OK)
		reads(t, d, x.Names()[0], plainRow("S:6")+plainRow(texts...))
		for i, text := range want {
			copy(all[i], text)
		}
	}
}

func TestResultsAreNewMemory(t *testing.T) { // R5
	x := opened(t, made(t, 1000), 30)
	text := strings.Repeat("ab", 5)
	is(t, "Append", x.Append(text, "c"), api.OK)
	first, second := x.Texts(), x.Texts()
	if a, b := unsafe.StringData(first[0]), unsafe.StringData(second[0]); a == b || a == unsafe.StringData(text) {
		t.Error("two results, or a result and an argument, are one memory")
	}
	for _, l := range [][]string{first, x.Names()} {
		l = l[:cap(l)]
		for i := range l {
			l[i] = "changed"
		}
	}
	has(t, x, 0, []string{text, "c"}, "log.00000001")
	is(t, "Append", x.Append("d"), api.OK)
	if !slices.Equal(second, []string{text, "c"}) || slices.Contains(second[:cap(second)], "d") {
		t.Errorf("a result is changed: %q", second)
	}
}

func TestLogsOfTheirOwn(t *testing.T) { // R4: logs on two disks have nothing in common
	a, b := opened(t, made(t, 1000), 30), opened(t, made(t, 1000), 30)
	is(t, "Append", a.Append("a"), api.OK)
	has(t, b, 0, nil)
	is(t, "Append", b.Append("b"), api.OK)
	is(t, "Sync", b.Sync(), api.OK)
	has(t, a, 0, []string{"a"}, "log.00000001")
	has(t, b, 1, []string{"b"}, "log.00000001")
}

func TestTwoLogsOfOneDisk(t *testing.T) { // the disk is kept, not copied; each log has its own strings
	d := made(t, 1000)
	a, b := opened(t, d, 30), opened(t, d, 30)
	is(t, "Append", a.Append("a"), api.OK)
	has(t, a, 0, []string{"a"}, "log.00000001")
	has(t, b, 0, nil, "log.00000001")
	is(t, "Append", b.Append("b"), api.OK)
	has(t, a, 0, []string{"a"}, "log.00000001", "log.00000002")
	reads(t, d, "log.00000002", plainRow("F:0", "b"))
	has(t, opened(t, d, 30), 0, []string{"a"}, "log.00000001", "log.00000002") // the second one's head does not fit
	is(t, "Snapshot", b.Snapshot(), api.OK)
	has(t, a, 0, []string{"a"}, "log.00000003")
	has(t, opened(t, d, 30), 1, []string{"b"}, "log.00000003")
}
