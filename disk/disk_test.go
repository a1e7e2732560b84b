package disk_test

import (
	"math"
	"slices"
	"strings"
	"testing"
	"unsafe"

	"tranter/api"
	"tranter/disk"
)

// is says that a call returned that error.
func is(t *testing.T, what string, got, want api.Errno) {
	t.Helper()
	if got != want {
		t.Errorf("%s is %d, want %d", what, got, want)
	}
}

// reads says that a file has those bytes.
func reads(t *testing.T, d *disk.Disk, name, want string) {
	t.Helper()
	if s, e := d.Read(name); s != want || e != api.OK {
		t.Errorf("Read(%q) is %q, %d, want %q", name, s, e, want)
	}
}

// readsNot says that Read returns that error, and nothing.
func readsNot(t *testing.T, d *disk.Disk, name string, want api.Errno) {
	t.Helper()
	if s, e := d.Read(name); s != "" || e != want {
		t.Errorf("Read(%q) is %q, %d, want error %d", name, s, e, want)
	}
}

// lists says that those files are seen, and how many bytes and units there are.
func lists(t *testing.T, d *disk.Disk, used, units int, names ...string) {
	t.Helper()
	if got := d.List(); !slices.Equal(got, names) || d.Used() != used || d.Units() != units {
		t.Errorf("%q, %d bytes, %d units, want %q, %d, %d", got, d.Used(), d.Units(), names, used, units)
	}
}

func made(t *testing.T, room int) *disk.Disk {
	t.Helper()
	return newPair(t, room).d
}

func TestExamples(t *testing.T) { // P7.1 to P7.3
	d := made(t, 10)
	is(t, "Append", d.Append("a", "xyz"), api.OK)
	lists(t, d, 3, 4, "a")
	is(t, "Sync", d.Sync(), api.OK)
	is(t, "Append", d.Append("a", "uv"), api.OK)
	is(t, "Rename", d.Rename("a", "b"), api.OK)
	lists(t, d, 5, 3, "b")
	is(t, "Crash", d.Crash(1), api.OK)
	lists(t, d, 4, 0, "a")
	reads(t, d, "a", "xyzu")

	c := d.Copy()
	is(t, "Fuse", c.Fuse(2), api.OK)
	is(t, "Append", c.Append("a", "pqr"), api.ErrDown)
	reads(t, c, "a", "xyzupq")
	is(t, "Sync", c.Sync(), api.ErrDown)
	is(t, "Crash", c.Crash(1), api.OK)
	reads(t, c, "a", "xyzup")
	if c.Down() {
		t.Error("down after a crash")
	}

	is(t, "Append", d.Append("c", "1234567"), api.ErrFull)
	is(t, "Append", d.Append("c", "123456"), api.OK)
	lists(t, d, 10, 7, "a", "c")
	is(t, "Remove", d.Remove("d"), api.ErrNone)
	reads(t, d, "c", "123456")
}

func TestNew(t *testing.T) { // P7.1, R3: rooms from 0 to 2^24
	for _, room := range []int{0, 1, 2, 1<<24 - 1, 1 << 24} {
		d, e := disk.New(room)
		if d == nil || e != api.OK {
			t.Fatalf("New(%d) is %v, %d", room, d, e)
		}
		lists(t, d, 0, 0)
		if d.Down() || d.List() != nil {
			t.Errorf("New(%d) is down, or has files", room)
		}
		readsNot(t, d, "a", api.ErrNone)
	}
	for _, room := range []int{-1, -2, 1<<24 + 1, 1 << 25, math.MaxInt, math.MinInt, math.MinInt + 1} {
		if d, e := disk.New(room); d != nil || e != api.ErrArg {
			t.Errorf("New(%d) is %v, %d, want ErrArg", room, d, e)
		}
	}
	one, other := made(t, 9), made(t, 9)
	one.Append("a", "x")
	lists(t, other, 0, 0)
}

func TestAppend(t *testing.T) { // P7.1: the first one makes the file, with a unit more
	x := newPair(t, 1000)
	for _, s := range []string{"", "", "x", "", "yz", strings.Repeat("k", 300), "\x00\xff", "\u00e4"} {
		for _, name := range []string{"a", "b", "a"} {
			x.append(name, s)
		}
	}
	if x.d.Units() != 2+3*(1+2+300+2+2) {
		t.Errorf("%d units", x.d.Units())
	}
	showsKept(t, "appends", x.d, x.p)
	x.remove("a")
	x.append("a", "") // is made anew
	x.rename("a", "c")
	x.append("a", "new")
	x.append("c", "old")
	lists(t, x.d, 307+6, 2+921+2+1+4+3, "a", "b", "c")
	showsKept(t, "made anew", x.d, x.p)
}

func TestAppendOfNothing(t *testing.T) { // P7.1, P7.3: an empty file is one; to a file that exists nothing is no unit
	x := newPair(t, 0)
	is(t, "of a new file", x.append("a", ""), api.OK)
	lists(t, x.d, 0, 1, "a")
	for range 3 {
		is(t, "of the same", x.append("a", ""), api.OK)
	}
	lists(t, x.d, 0, 1, "a")
	reads(t, x.d, "a", "")
	is(t, "a byte", x.append("a", "x"), api.ErrFull)
	is(t, "a byte of a new file", x.append("b", "x"), api.ErrFull)
	showsKept(t, "no room", x.d, x.p)
	x.sync()
	is(t, "Crash", x.crash(0), api.OK)
	lists(t, x.d, 0, 0, "a")
}

func TestRemove(t *testing.T) { // P7.1: one unit, however long the file is
	x := newPair(t, 9)
	x.append("a", "12345")
	x.append("b", "6789")
	x.sync()
	is(t, "Remove", x.remove("a"), api.OK)
	lists(t, x.d, 4, 1, "b")
	readsNot(t, x.d, "a", api.ErrNone)
	is(t, "Remove once more", x.remove("a"), api.ErrNone)
	is(t, "Remove of none", x.remove("c"), api.ErrNone)
	is(t, "Append of what has room again", x.append("c", "abcde"), api.OK)
	is(t, "Append of one more", x.append("c", "f"), api.ErrFull)
	showsKept(t, "removed", x.d, x.p)
	is(t, "Remove of a file that is not synced", x.remove("c"), api.OK)
	is(t, "Remove of the last one", x.remove("b"), api.OK)
	if x.d.List() != nil || x.d.Used() != 0 || x.d.Units() != 1+6+2 {
		t.Errorf("%q, %d used, %d units", x.d.List(), x.d.Used(), x.d.Units())
	}
	showsKept(t, "all removed", x.d, x.p)
}

func TestRename(t *testing.T) { // P7.1: one unit; the other file is gone; the same name changes nothing
	x := newPair(t, 20)
	x.append("a", "12345")
	x.append("b", "6789")
	x.append("c", "")
	x.sync()
	is(t, "Rename to the same name", x.rename("a", "a"), api.OK)
	lists(t, x.d, 9, 1, "a", "b", "c")
	reads(t, x.d, "a", "12345")
	is(t, "Rename over a file", x.rename("a", "b"), api.OK)
	lists(t, x.d, 5, 2, "b", "c")
	reads(t, x.d, "b", "12345")
	is(t, "Rename to a new name", x.rename("b", "a"), api.OK)
	lists(t, x.d, 5, 3, "a", "c")
	is(t, "Rename of none", x.rename("b", "a"), api.ErrNone)
	is(t, "Rename of none to itself", x.rename("b", "b"), api.ErrNone)
	is(t, "Rename over an empty file", x.rename("a", "c"), api.OK)
	is(t, "Append to the old name", x.append("a", "x"), api.OK)
	is(t, "Append to the new name", x.append("c", "y"), api.OK)
	lists(t, x.d, 7, 7, "a", "c")
	reads(t, x.d, "c", "12345y")
	showsKept(t, "renamed", x.d, x.p)
	is(t, "Rename of what an append made", x.rename("a", "c"), api.OK)
	reads(t, x.d, "c", "x")
	showsKept(t, "renamed again", x.d, x.p)
}

func TestNames(t *testing.T) { // P7.1, P7.3: of 1 to 32 bytes, whatever these are
	x := newPair(t, 1000)
	x.append("a", "x")
	for length := range 70 {
		name := strings.Repeat("n", length)
		want := api.OK
		if length == 0 || length > 32 {
			want = api.ErrArg
		}
		is(t, "Append of a long name", x.append(name, "s"), want)
		if want == api.OK {
			reads(t, x.d, name, "s")
		} else {
			readsNot(t, x.d, name, want)
		}
		is(t, "Rename to a long name", x.rename("a", name), want)
		if want == api.OK {
			x.rename(name, "a")
			x.append(name, "")
		}
		is(t, "Rename of a long name", x.rename(name, "b"), want)
		if want == api.OK {
			x.rename("b", name)
		}
		is(t, "Remove of a long name", x.remove(name), want)
	}
	is(t, "Rename of none to no name", x.rename("none", ""), api.ErrArg) // R2: ahead of ErrNone
	for _, name := range []string{"\x00", "/", "..", "a\x00", "\xff\xfe", " ", "A", "\u00e4", strings.Repeat("\u00e4", 16), strings.Repeat("\x00", 32)} {
		is(t, "Append", x.append(name, name), api.OK)
		reads(t, x.d, name, name)
	}
	is(t, "17 letters of two bytes", x.append(strings.Repeat("\u00e4", 17), ""), api.ErrArg)
	if l := x.d.List(); !slices.IsSorted(l) || len(l) != 11 {
		t.Errorf("%q", l)
	}
}

func TestRoom(t *testing.T) { // P7.1, P7.5: all of it can be used, and not a byte more; what an error stops changes nothing
	for room := range 12 {
		for first := range room + 1 {
			x := newPair(t, room)
			x.append("a", strings.Repeat("x", first))
			x.sync()
			for more := range 14 {
				for _, name := range []string{"a", "b"} {
					y := x.copy()
					want := api.OK
					if first+more > room {
						want = api.ErrFull
					}
					is(t, "Append", y.append(name, strings.Repeat("y", more)), want)
				}
			}
		}
	}
}

func TestGreatestRoom(t *testing.T) { // P7.1, P7.3, P7.5
	d := made(t, 1<<24)
	half := strings.Repeat("0123456789abcdef", 1<<19)
	is(t, "a half", d.Append("a", half), api.OK)
	is(t, "more than the rest", d.Append("b", half+"x"), api.ErrFull)
	lists(t, d, 1<<23, 1<<23+1, "a")
	is(t, "the rest", d.Append("b", half), api.OK)
	is(t, "one more", d.Append("a", "x"), api.ErrFull)
	is(t, "one more of a new file", d.Append("c", "x"), api.ErrFull)
	is(t, "none more", d.Append("c", ""), api.OK)
	lists(t, d, 1<<24, 1<<24+3, "a", "b", "c")
	is(t, "Crash", d.Crash(1<<24-1), api.OK) // of the second half 2^23 - 3 bytes
	lists(t, d, 1<<24-3, 0, "a", "b")
	reads(t, d, "a", half)
	reads(t, d, "b", half[:1<<23-3])
}

func TestRoomOfWhatIsSeen(t *testing.T) { // P7.1, P7.5: what is removed, or renamed over, has its room back at once, though a crash can bring it back
	x := newPair(t, 6)
	x.append("a", "123456")
	x.sync()
	x.remove("a")
	is(t, "Append after a removal", x.append("b", "abcdef"), api.OK)
	showsKept(t, "removed", x.d, x.p)
	x.sync()
	x.append("c", "")
	x.rename("c", "b")
	is(t, "Append after a renaming", x.append("a", "ghijkl"), api.OK)
	showsKept(t, "renamed over", x.d, x.p)
	for keep := range x.d.Units() + 1 {
		y := x.copy()
		y.crash(keep)
		left := 6 - y.d.Used()
		is(t, "Append of more than is left", y.append("z", strings.Repeat("z", left+1)), api.ErrFull)
		is(t, "Append of what is left", y.append("z", strings.Repeat("z", left)), api.OK)
	}
}

func TestSync(t *testing.T) { // P7.2, P7.4
	x := newPair(t, 100)
	is(t, "Sync of nothing", x.sync(), api.OK)
	x.append("a", "12")
	x.append("b", "34")
	x.rename("a", "c")
	x.remove("b")
	is(t, "Sync", x.sync(), api.OK)
	lists(t, x.d, 2, 0, "c")
	x.append("c", "56")
	x.remove("c")
	x.append("a", "7")
	for keep, want := range []string{"12", "125", "1256"} {
		y := x.copy()
		is(t, "Crash", y.crash(keep), api.OK)
		reads(t, y.d, "c", want)
	}
	is(t, "Crash", x.crash(3), api.OK)
	lists(t, x.d, 0, 0)
}

func TestCrash(t *testing.T) { // P7.2, P7.4: keeps that many units, or all
	for _, keep := range []int{5, 6, 7, 1000, math.MaxInt} {
		x := newPair(t, 10)
		x.append("a", "1234")
		is(t, "Crash", x.crash(keep), api.OK)
		lists(t, x.d, 4, 0, "a")
		is(t, "Crash again", x.crash(0), api.OK) // what was kept is synced
		reads(t, x.d, "a", "1234")
	}
	x := newPair(t, 10)
	x.append("a", "1234")
	for _, keep := range []int{-1, -2, math.MinInt} {
		is(t, "Crash", x.crash(keep), api.ErrArg)
		lists(t, x.d, 4, 5, "a")
	}
	is(t, "Crash", x.crash(1), api.OK) // the file alone
	lists(t, x.d, 0, 0, "a")
	is(t, "Append", x.append("a", "56"), api.OK) // not its creation once more
	lists(t, x.d, 2, 2, "a")
	is(t, "Crash", x.crash(1), api.OK)
	reads(t, x.d, "a", "5")
	x.append("b", "xyz")
	is(t, "Crash", x.crash(0), api.OK)
	lists(t, x.d, 1, 0, "a")
	readsNot(t, x.d, "b", api.ErrNone)
}

func TestCrashTwice(t *testing.T) { // P7.4: what the first one lost does not come back, nor is it in the way of what is appended then
	x := newPair(t, 100)
	for turn := range 8 {
		x.append("a", "abcdefgh")
		x.append("a", "ijklmnop")
		y := x.copy()
		x.crash(turn)
		x.append("a", "ABCDEFGH")
		y.append("a", "12345678")
		showsKept(t, "crashed", x.d, x.p)
		showsKept(t, "not crashed", y.d, y.p)
		x.crash(3)
	}
}

func TestFuse(t *testing.T) { // P7.2: at each number of units, of each step; a sync counts as one
	script := []func(x pair) api.Errno{
		func(x pair) api.Errno { return x.append("a", "12") },
		func(x pair) api.Errno { return x.append("b", "3") },
		func(x pair) api.Errno { return x.sync() },
		func(x pair) api.Errno { return x.append("a", "") },
		func(x pair) api.Errno { return x.append("a", "4") },
		func(x pair) api.Errno { return x.rename("a", "b") },
		func(x pair) api.Errno { return x.rename("b", "b") },
		func(x pair) api.Errno { return x.append("c", "") },
		func(x pair) api.Errno { return x.sync() },
		func(x pair) api.Errno { return x.remove("c") },
		func(x pair) api.Errno { return x.append("a", "567") },
		func(x pair) api.Errno { return x.sync() },
	}
	const all = 3 + 2 + 1 + 1 + 1 + 1 + 1 + 1 + 1 + 4 + 1
	for k := range all + 3 {
		x := newPair(t, 100)
		is(t, "Fuse", x.fuse(k), api.OK)
		failed := false
		for _, step := range script {
			e := step(x)
			if e != api.OK && e != api.ErrDown || failed && e == api.OK || x.d.Down() != (e == api.ErrDown) {
				t.Fatalf("a fuse of %d: %d", k, e)
			}
			failed = e == api.ErrDown
			showsKept(t, "a fuse", x.d, x.p)
		}
		if failed != (k < all) {
			t.Errorf("a fuse of %d: failed is %v", k, failed)
		}
	}
}

func TestFuseUsedUp(t *testing.T) { // P7.2: the disk is down only by a step that has more units than are left
	x := newPair(t, 10)
	x.append("a", "")
	x.fuse(2)
	is(t, "just as many", x.append("a", "xy"), api.OK)
	is(t, "no unit", x.append("a", ""), api.OK)
	for what, call := range map[string]func(y pair) api.Errno{
		"Append": func(y pair) api.Errno { return y.append("a", "z") },
		"a file": func(y pair) api.Errno { return y.append("b", "") },
		"Remove": func(y pair) api.Errno { return y.remove("a") },
		"Rename": func(y pair) api.Errno { return y.rename("a", "b") },
		"same":   func(y pair) api.Errno { return y.rename("a", "a") },
		"Sync":   func(y pair) api.Errno { return y.sync() },
	} {
		y := x.copy()
		if y.d.Down() {
			t.Error("down ahead of " + what)
		}
		is(t, what, call(y), api.ErrDown)
		if !y.d.Down() {
			t.Error("not down after " + what)
		}
		lists(t, y.d, 2, 3, "a")
		reads(t, y.d, "a", "xy")
		is(t, "Crash", y.crash(1), api.OK) // a sync that was not done left the units as they were
		reads(t, y.d, "a", "")
	}
}

func TestFuseOfErrors(t *testing.T) { // P7.1: a step with another error takes no unit of the fuse, and the disk is not down by it
	x := newPair(t, 3)
	x.append("a", "x")
	x.fuse(1)
	for range 3 {
		is(t, "Append", x.append("", "y"), api.ErrArg)
		is(t, "Append", x.append("a", "123"), api.ErrFull) // of which one byte had room, and the fuse
		is(t, "Append", x.append("b", "1234"), api.ErrFull)
		is(t, "Remove", x.remove("b"), api.ErrNone)
		is(t, "Rename", x.rename("b", "a"), api.ErrNone)
		is(t, "Crash", x.crash(-1), api.ErrArg)
		is(t, "Fuse", x.fuse(-1), api.ErrArg)
	}
	lists(t, x.d, 1, 2, "a")
	is(t, "Append", x.append("a", "y"), api.OK)
	is(t, "Append", x.append("a", "123"), api.ErrFull) // nothing is left, but this comes first
	is(t, "Remove", x.remove("b"), api.ErrNone)
	is(t, "Rename", x.rename("b", "c"), api.ErrNone)
	if x.d.Down() {
		t.Error("down")
	}
	is(t, "Append", x.append("a", "z"), api.ErrDown)
}

func TestFuseReplaced(t *testing.T) { // P7.2
	x := newPair(t, 100)
	x.fuse(0)
	x.fuse(3)
	is(t, "Append", x.append("a", "1"), api.OK)
	x.fuse(2)
	is(t, "Append", x.append("a", "23"), api.OK)
	x.fuse(math.MaxInt)
	is(t, "Append", x.append("a", strings.Repeat("x", 90)), api.OK)
	x.fuse(1)
	is(t, "Append", x.append("a", "45"), api.ErrDown)
	is(t, "Fuse", x.fuse(5), api.ErrDown)
	is(t, "Fuse", x.fuse(-1), api.ErrArg)
	is(t, "Append", x.append("a", "5"), api.ErrDown)
	is(t, "Crash", x.crash(1), api.OK)
	is(t, "Append", x.append("a", "456"), api.OK) // there is no fuse any more
}

func TestCrashOfAFuse(t *testing.T) { // P7.2: a crash takes the fuse, of a disk that is not down too
	x := newPair(t, 100)
	x.fuse(1)
	is(t, "Crash", x.crash(0), api.OK)
	is(t, "Append", x.append("a", "123"), api.OK)
	is(t, "Sync", x.sync(), api.OK)
	x.fuse(1)
	is(t, "Crash", x.crash(-1), api.ErrArg) // it does not
	is(t, "Append", x.append("a", "45"), api.ErrDown)
	is(t, "Crash", x.crash(-1), api.ErrArg)
	is(t, "Append", x.append("a", "5"), api.ErrDown)
	is(t, "Crash", x.crash(9), api.OK)
	reads(t, x.d, "a", "1234")
	is(t, "Sync", x.sync(), api.OK)
	is(t, "Sync", x.sync(), api.OK)
}

func TestDown(t *testing.T) { // P7.1 to P7.3, R2: what a disk that is down returns
	x := newPair(t, 10)
	x.append("a", "1")
	x.sync()
	x.fuse(3)
	is(t, "Append", x.append("b", "234"), api.ErrDown)
	is(t, "Append", x.append("a", ""), api.ErrDown) // though it has no unit
	is(t, "Append", x.append("a", "12345678901"), api.ErrDown)
	is(t, "Append", x.append("", "x"), api.ErrArg)
	is(t, "Remove", x.remove("a"), api.ErrDown)
	is(t, "Remove", x.remove("c"), api.ErrDown)
	is(t, "Remove", x.remove(""), api.ErrArg)
	is(t, "Rename", x.rename("a", "b"), api.ErrDown)
	is(t, "Rename", x.rename("c", "b"), api.ErrDown)
	is(t, "Rename", x.rename("", "b"), api.ErrArg)
	is(t, "Rename", x.rename("c", ""), api.ErrArg)
	is(t, "Sync", x.sync(), api.ErrDown)
	is(t, "Fuse", x.fuse(9), api.ErrDown)
	is(t, "Fuse", x.fuse(-1), api.ErrArg)
	is(t, "Crash", x.crash(-1), api.ErrArg)
	lists(t, x.d, 3, 3, "a", "b")
	reads(t, x.d, "b", "23")
	readsNot(t, x.d, "", api.ErrArg)
	readsNot(t, x.d, "c", api.ErrNone)
	c := x.copy()
	is(t, "Append to a copy", c.append("a", "x"), api.ErrDown)
	is(t, "Crash", x.crash(2), api.OK)
	is(t, "Append", x.append("b", "x"), api.OK)
	reads(t, x.d, "b", "2x")
	if !c.d.Down() {
		t.Error("the copy is not down any more")
	}
}

func TestCopy(t *testing.T) { // P7.3: it has all that the disk has: the room, the steps, the fuse; nothing done to one affects the other
	x := newPair(t, 9)
	x.append("a", "123")
	x.sync()
	x.append("a", "45")
	x.append("b", "6")
	x.fuse(2)
	y := x.copy()
	z := y.copy()
	is(t, "Append", x.append("a", "vw"), api.OK)
	is(t, "Append", x.append("a", "x"), api.ErrDown)
	showsKept(t, "y", y.d, y.p)
	is(t, "Append", y.append("a", "VWX"), api.ErrDown)
	is(t, "Rename", z.rename("a", "b"), api.OK)
	is(t, "Append", z.append("b", "!?"), api.ErrDown)
	for _, p := range []pair{x, y, z} {
		showsKept(t, "a copy", p.d, p.p)
	}
	is(t, "Crash", z.crash(3), api.OK)
	is(t, "Append", z.append("a", "78901"), api.ErrFull)
	is(t, "Append", z.append("a", "7890"), api.OK)
	is(t, "Sync", z.sync(), api.OK)
	is(t, "Crash", x.crash(1), api.OK)
	is(t, "Append", x.append("a", "#"), api.OK)
	for _, p := range []pair{x, y, z} {
		showsKept(t, "a copy", p.d, p.p)
	}
	reads(t, x.d, "a", "1234#")
	reads(t, y.d, "a", "12345VW")
	reads(t, z.d, "a", "123457890")
}

func TestNoDisk(t *testing.T) { // R1, R2, R3, P7.1 to P7.3: nil, and one that no call made
	for _, d := range []*disk.Disk{nil, {}, new(disk.Disk)} {
		for range 2 {
			for _, name := range []string{"a", "", strings.Repeat("n", 33)} {
				is(t, "Append", d.Append(name, "x"), api.ErrNil)
				is(t, "Append", d.Append(name, ""), api.ErrNil)
				is(t, "Remove", d.Remove(name), api.ErrNil)
				is(t, "Rename", d.Rename(name, "b"), api.ErrNil)
				is(t, "Rename", d.Rename("b", name), api.ErrNil)
				readsNot(t, d, name, api.ErrNil)
			}
			for _, k := range []int{-1, 0, 1, math.MaxInt, math.MinInt} {
				is(t, "Crash", d.Crash(k), api.ErrNil)
				is(t, "Fuse", d.Fuse(k), api.ErrNil)
			}
			is(t, "Sync", d.Sync(), api.ErrNil)
			if d.Down() || d.List() != nil || d.Used() != 0 || d.Units() != 0 || d.Copy() != nil {
				t.Error("nothing has something")
			}
		}
	}
}

// spoiled returns a string, and a call that changes its bytes.
func spoiled(s string) (string, func()) {
	b := []byte(s)
	return unsafe.String(&b[0], len(b)), func() {
		for i := range b {
			b[i] = '!'
		}
	}
}

func TestArgumentsAreNotKept(t *testing.T) { // R5: nor by the units that are not synced
	name, spoilName := spoiled("a")
	text, spoilText := spoiled("xyz")
	from, spoilFrom := spoiled("b")
	to, spoilTo := spoiled("c")
	gone, spoilGone := spoiled("d")
	d := made(t, 100)
	d.Append("b", "1")
	d.Append("d", "2")
	d.Sync()
	d.Append(name, text)
	d.Rename(from, to)
	d.Remove(gone)
	for _, spoil := range []func(){spoilName, spoilText, spoilFrom, spoilTo, spoilGone} {
		spoil()
	}
	for _, c := range []*disk.Disk{d, d.Copy()} {
		for range 2 {
			lists(t, c, 4, c.Units(), "a", "c")
			reads(t, c, "a", "xyz")
			reads(t, c, "c", "1")
			c.Crash(99)
		}
	}
}

func TestResultsAreNewMemory(t *testing.T) { // R5
	name, text := "name", "bytes"
	d := made(t, 100)
	d.Append(name, text)
	first, _ := d.Read(name)
	second, _ := d.Read(name)
	if a, b := unsafe.StringData(first), unsafe.StringData(second); a == b || a == unsafe.StringData(text) {
		t.Error("two results of Read, or a result and an argument, are one memory")
	}
	one, other := d.List(), d.List()
	if a, b := unsafe.StringData(one[0]), unsafe.StringData(other[0]); a == b || a == unsafe.StringData(name) {
		t.Error("two results of List, or a result and an argument, are one memory")
	}
	one = one[:cap(one)]
	for i := range one {
		one[i] = "spoiled"
	}
	lists(t, d, 5, 6, "name")
	d.Append(name, " and more")
	if first != "bytes" || second != "bytes" {
		t.Errorf("a result changed to %q, %q", first, second)
	}
}
