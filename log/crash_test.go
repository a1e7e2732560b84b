package log_test

import (
	"slices"
	"strconv"
	"strings"
	"testing"

	"tranter/api"
	"tranter/disk"
	"tranter/log"
)

// begins says that a log that is opened on the disk has a beginning of all, with at least so many strings.
func begins(t *testing.T, what string, d *disk.Disk, all []string, least int) *log.Log {
	t.Helper()
	l := opened(t, d, 30)
	texts := l.Texts()
	if len(texts) > len(all) || !slices.Equal(texts, all[:len(texts)]) {
		t.Fatalf("%s: %s is no beginning of %s", what, short(texts), short(all))
	}
	if len(texts) < least || l.Synced() != len(texts) {
		t.Fatalf("%s: %d strings, %d synced, want at least %d", what, len(texts), l.Synced(), least)
	}
	return l
}

// act is one call of a log, and the strings that it can add.
type act struct {
	what string // append, sync or snapshot
	s    []string
}

func (a act) do(l *log.Log) api.Errno {
	switch a.what {
	case "append":
		return l.Append(a.s...)
	case "sync":
		return l.Sync()
	}
	return l.Snapshot()
}

// acts is a script: segments below and above the limit, several strings in one call, snapshots with and without strings.
func acts() []act {
	return []act{
		{"snapshot", nil}, {"append", []string{"a", "b"}}, {"append", []string{"c"}}, {"sync", nil}, {"append", []string{"0123456789"}},
		{"append", []string{"", "d", ""}}, {"snapshot", nil}, {"append", []string{"e"}}, {"append", []string{"f", "g"}}, {"append", []string{"h"}},
		{"sync", nil}, {"append", []string{"i"}}, {"append", []string{"S:1", "F:3"}}, {"snapshot", nil}, {"snapshot", nil}, {"append", []string{"j"}},
	}
}

// crashes says that copies of the disk that crash, whatever they keep, have what they must.
func crashes(t *testing.T, what string, d *disk.Disk, all []string, least int) {
	t.Helper()
	for keep := range d.Units() + 2 {
		c := d.Copy()
		is(t, "Crash", c.Crash(keep), api.OK)
		begins(t, what+", "+strconv.Itoa(keep)+" kept", c, all, least)
	}
}

func TestCrashes(t *testing.T) { // P9.4: at every unit, of every call, whatever is kept
	for _, limit := range []int{1, 30, 1000} {
		for fuse := 0; ; fuse++ {
			d := made(t, 10000)
			is(t, "Fuse", d.Fuse(fuse), api.OK)
			l := opened(t, d, limit)
			var all []string
			e := api.OK
			for _, a := range acts() {
				all = append(all, a.s...)
				if e = a.do(l); e != api.OK {
					break
				}
				crashes(t, "between calls", d, all, l.Synced())
			}
			if e == api.OK {
				break // the fuse was not used up
			}
			is(t, "the call", e, api.ErrDown)
			crashes(t, "within "+strconv.Itoa(fuse), d, all, l.Synced())
		}
	}
}

func TestSyncsOfSnapshots(t *testing.T) { // P9.3, P9.4: a sync within a snapshot is one, though the snapshot is not made
	for fuse := range 60 {
		x := openPair(t, made(t, 1000), 30)
		is(t, "Append", x.append("a"), api.OK)
		is(t, "Sync", x.sync(), api.OK)
		is(t, "Append", x.append("b"), api.OK)
		x.both("Append", func(d *disk.Disk) api.Errno { return d.Append("log.new", "x") })
		x.both("Fuse", func(d *disk.Disk) api.Errno { return d.Fuse(fuse) })
		e := x.snapshot()
		draft := 2 + len(plainRow("S:2", "a", "b")) // the units ahead of the first sync
		synced := 1
		if fuse > draft {
			synced = 2
		}
		want := api.ErrDown
		if fuse >= draft+1+1+1+1+1 { // a sync, the renaming, a sync, a removal, a sync
			want = api.OK
		}
		is(t, "Snapshot with the fuse "+strconv.Itoa(fuse), e, want)
		if x.l.Synced() != synced {
			t.Errorf("the fuse %d: %d are synced, want %d", fuse, x.l.Synced(), synced)
		}
		crashes(t, "the fuse "+strconv.Itoa(fuse), x.d, []string{"a", "b"}, synced)
	}
}

func TestStepsOfSnapshots(t *testing.T) { // P9.2: the steps one by one, with what of each is on the disk if nothing more is done
	several := func(fuse int) (d *disk.Disk, e api.Errno) {
		d = made(t, 1000)
		for _, name := range []string{"log.00000003", "log.00000001", "log.00000002", "log.new"} {
			file(t, d, name, "x")
		}
		is(t, "Sync", d.Sync(), api.OK)
		l := opened(t, d, 30)
		is(t, "Append", l.Append("a"), api.OK)
		is(t, "Fuse", d.Fuse(fuse), api.OK)
		return d, l.Snapshot()
	}
	row := plainRow("S:1", "a")
	four := []string{"log.00000001", "log.00000002", "log.00000003", "log.00000004"}
	for _, x := range []struct {
		fuse  int
		units int // that are not synced; 15 are of the append
		draft string
		names []string
	}{
		{0, 15, "x", append(slices.Clone(four), "log.new")},
		{1, 16, "", four},
		{2, 17, "", append(slices.Clone(four), "log.new")},
		{3, 18, row[:1], append(slices.Clone(four), "log.new")},
		{2 + len(row), 17 + len(row), row, append(slices.Clone(four), "log.new")},
		{3 + len(row), 0, row, append(slices.Clone(four), "log.new")},
		{4 + len(row), 1, "", append(slices.Clone(four), "log.00000005")},
		{5 + len(row), 0, "", append(slices.Clone(four), "log.00000005")},
		{6 + len(row), 1, "", []string{"log.00000002", "log.00000003", "log.00000004", "log.00000005"}},
		{7 + len(row), 2, "", []string{"log.00000003", "log.00000004", "log.00000005"}},
		{8 + len(row), 3, "", []string{"log.00000004", "log.00000005"}},
		{9 + len(row), 4, "", []string{"log.00000005"}},
		{10 + len(row), 0, "", []string{"log.00000005"}},
	} {
		d, e := several(x.fuse)
		want := api.ErrDown
		if x.fuse == 10+len(row) {
			want = api.OK
		}
		is(t, "Snapshot with the fuse "+strconv.Itoa(x.fuse), e, want)
		if draft, _ := d.Read("log.new"); draft != x.draft || !slices.Equal(d.List(), x.names) || d.Units() != x.units {
			t.Errorf("the fuse %d: %q, %d units, the draft %q, want %q, %d, %q", x.fuse, d.List(), d.Units(), draft, x.names, x.units, x.draft)
		}
	}
}

func TestGoesOnAfterCrashes(t *testing.T) { // P9.4: crash after crash, with what was recovered going on
	roll := dice(11)
	downs := 0
	for range 300 {
		d := made(t, 4000)
		var all []string
		least := 0
		for range 12 {
			c := begins(t, "after a crash", d, all, least)
			all, least = c.Texts(), c.Synced()
			l := opened(t, d, roll(80)+1)
			if roll(3) > 0 {
				is(t, "Fuse", d.Fuse(roll(120)), api.OK)
			}
			for range roll(8) {
				a := act{what: []string{"append", "append", "append", "sync", "snapshot"}[roll(5)]}
				if a.what == "append" {
					a.s = someTexts(roll)
				}
				e := a.do(l)
				if e == api.OK || e == api.ErrDown {
					all = append(all, a.s...)
				}
				if e == api.ErrDown {
					downs++
					break
				}
			}
			least = l.Synced()
			crashes(t, "any", d, all, least)
			is(t, "Crash", d.Crash(roll(d.Units()+2)), api.OK)
		}
	}
	if downs < 300 {
		t.Errorf("%d disks came down", downs)
	}
}

// someTexts returns a few strings, mostly short ones.
func someTexts(roll func(below int) int) []string {
	var s []string
	for range roll(4) {
		s = append(s, strings.Repeat(string(rune('a'+roll(20))), []int{0, 1, 2, 3, 10, 130}[roll(6)]))
	}
	return s
}

func TestLimitsAndSnapshots(t *testing.T) { // P9.5: the strings are the same, whatever the limit, and wherever there are snapshots and openings
	roll := dice(5)
	for range 200 {
		var rows [][]string
		var all []string
		for range roll(20) {
			rows = append(rows, someTexts(roll))
			all = append(all, rows[len(rows)-1]...)
		}
		for _, limit := range []int{1, 2, 30, 100, 1 << 20} {
			for _, between := range []int{0, 1, 2, 3} {
				d := made(t, 1<<16)
				l := opened(t, d, limit)
				for _, s := range rows {
					is(t, "Append", l.Append(s...), api.OK)
					if between&1 != 0 && roll(3) == 0 {
						is(t, "Snapshot", l.Snapshot(), api.OK)
					}
					if between&2 != 0 && roll(3) == 0 {
						l = opened(t, d, limit)
					}
				}
				if got := l.Texts(); !slices.Equal(got, all) {
					t.Fatalf("the limit %d: %s, want %s", limit, short(got), short(all))
				}
				if got := opened(t, d, 30).Texts(); !slices.Equal(got, all) {
					t.Fatalf("the limit %d, opened: %s, want %s", limit, short(got), short(all))
				}
			}
		}
	}
}

// anyCall does one thing to both logs of a pair, or to their disks, and returns its error.
func anyCall(x *pair, roll func(below int) int) api.Errno {
	names := []string{"log.new", "log.00000001", "log.00000002", "log.00000003", "log.00000004", "log.00000007", "other", "log.99999999"}
	name := func() string {
		if present := x.d.List(); len(present) > 0 && roll(3) > 0 {
			return present[roll(len(present))]
		}
		return names[roll(len(names)-1+roll(30)/29)]
	}
	content := []string{"", "x", plainRow("x"), plainRow("F:0", "y"), plainRow("F:1", "z"), plainRow("S:1", "s"), plainRow("F:2"), plainRow("S:0")}[roll(8)]
	from, to := name(), name()
	k := roll(60)
	switch roll(40) {
	case 0:
		return x.both("Sync", (*disk.Disk).Sync)
	case 1:
		return x.both("Crash", func(d *disk.Disk) api.Errno { return d.Crash(k) })
	case 2:
		return x.both("Fuse", func(d *disk.Disk) api.Errno { return d.Fuse(k) })
	case 3:
		return x.both("Remove", func(d *disk.Disk) api.Errno { return d.Remove(from) })
	case 4:
		return x.both("Rename", func(d *disk.Disk) api.Errno { return d.Rename(from, to) })
	case 5, 6:
		return x.both("Append", func(d *disk.Disk) api.Errno { return d.Append(from, content) })
	case 7, 8, 9:
		x.reopen(roll(80) + 1)
		return api.OK
	case 10, 11, 12:
		return x.sync()
	case 13, 14, 15, 16:
		return x.snapshot()
	case 17:
		return x.append(strings.Repeat("x", 65537))
	}
	return x.append(someTexts(roll)...)
}

func TestAny(t *testing.T) { // P9.1 to P9.3, R4: the same is done to logs and plain ones, whatever others do to their disks
	roll := dice(9)
	errors := map[api.Errno]int{}
	for range 400 {
		x := openPair(t, made(t, roll(1500)), roll(80)+1)
		for range 60 {
			errors[anyCall(x, roll)]++
		}
	}
	for _, e := range []api.Errno{api.OK, api.ErrState, api.ErrLong, api.ErrDown, api.ErrFull} {
		if errors[e] < 100 {
			t.Errorf("the error %d came %d times", e, errors[e])
		}
	}
}
