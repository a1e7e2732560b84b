package log_test

import (
	"encoding/binary"
	"fmt"
	"hash/crc32"
	"regexp"
	"slices"
	"strconv"
	"strings"
	"testing"

	"tranter/api"
	"tranter/disk"
	"tranter/log"
	"tranter/record"
)

// plainRow is the records of strings, written out: layer 8 on layers 1 and 2.
func plainRow(l ...string) string {
	var row []byte
	for _, text := range l {
		var b []byte
		switch n := len(text); {
		case n < 128:
			b = []byte{byte(n)}
		case n < 256:
			b = []byte{129, byte(n)}
		case n < 1<<16:
			b = []byte{130, byte(n >> 8), byte(n)}
		default:
			b = []byte{131, byte(n >> 16), byte(n >> 8), byte(n)}
		}
		b = append(b, text...)
		b = binary.LittleEndian.AppendUint32(b, crc32.Checksum(b, crc32.MakeTable(crc32.Castagnoli)))
		row = append(row, b...)
	}
	return string(row)
}

var (
	nameForm = regexp.MustCompile(`^log\.[0-9]{8}$`)
	headForm = regexp.MustCompile(`^([FS]):(0|[1-9][0-9]{0,9})$`)
)

func plainNames(d *disk.Disk) []string {
	var names []string
	for _, name := range d.List() {
		if nameForm.MatchString(name) && name != "log.00000000" {
			names = append(names, name)
		}
	}
	return names
}

// plainTexts is the chapter's definition, step by step.
func plainTexts(d *disk.Disk) []string {
	type counting struct {
		kind   string
		number int
		texts  []string
	}
	var all []counting
	for _, name := range plainNames(d) {
		content, _ := d.Read(name)
		l, _, _ := record.Scan(content)
		if len(l) == 0 {
			continue
		}
		head := headForm.FindStringSubmatch(l[0])
		if head == nil {
			continue
		}
		number, _ := strconv.Atoi(head[2])
		if head[1] == "S" && number != len(l)-1 {
			continue
		}
		all = append(all, counting{head[1], number, l[1:]})
	}
	var texts []string
	for i := len(all) - 1; i >= 0; i-- {
		if all[i].kind == "S" {
			texts = slices.Clone(all[i].texts)
			all = all[i+1:]
			break
		}
	}
	for _, s := range all {
		if s.number != len(texts) {
			break
		}
		texts = append(texts, s.texts...)
	}
	return texts
}

// plain is the chapter's log, written out, on a disk of its own.
type plain struct {
	d      *disk.Disk
	limit  int
	texts  []string
	synced int
	anew   bool
	last   string
	broken bool
}

func openPlain(d *disk.Disk, limit int) *plain {
	p := &plain{d: d, limit: limit, texts: plainTexts(d), anew: true}
	if d.Units() == 0 {
		p.synced = len(p.texts)
	}
	return p
}

// next returns the next name, and whether there is one.
func (p *plain) next() (string, bool) {
	number := 0
	for _, name := range plainNames(p.d) {
		number, _ = strconv.Atoi(name[4:])
	}
	return fmt.Sprintf("log.%08d", number+1), number < 99999999
}

// noted breaks the log if the disk is down.
func (p *plain) noted(e api.Errno) api.Errno {
	if e == api.ErrDown {
		p.broken = true
	}
	return e
}

func (p *plain) append(s ...string) api.Errno {
	switch {
	case p.broken:
		return api.ErrState
	case len(s) == 0:
		return api.OK
	}
	name, row := p.last, plainRow(s...)
	if p.anew {
		next, is := p.next()
		if !is {
			return api.ErrLong
		}
		name, row = next, plainRow("F:"+strconv.Itoa(len(p.texts)))+row
	}
	for _, text := range s {
		if len(text) > 65536 {
			return api.ErrLong
		}
	}
	if e := p.noted(p.d.Append(name, row)); e != api.OK {
		return e
	}
	p.texts = slices.Concat(p.texts, s)
	content, _ := p.d.Read(name)
	p.last, p.anew = name, len(content) >= p.limit
	return api.OK
}

func (p *plain) sync() api.Errno {
	if p.broken {
		return api.ErrState
	}
	e := p.noted(p.d.Sync())
	if e == api.OK {
		p.synced = len(p.texts)
	}
	return e
}

func (p *plain) snapshot() api.Errno {
	if p.broken {
		return api.ErrState
	}
	name, is := p.next()
	if !is {
		return api.ErrLong
	}
	if slices.Contains(p.d.List(), "log.new") {
		if e := p.noted(p.d.Remove("log.new")); e != api.OK {
			return e
		}
	}
	row := plainRow("S:"+strconv.Itoa(len(p.texts))) + plainRow(p.texts...)
	if e := p.noted(p.d.Append("log.new", row)); e != api.OK {
		return e
	}
	if e := p.sync(); e != api.OK {
		return e
	}
	if e := p.noted(p.d.Rename("log.new", name)); e != api.OK {
		return e
	}
	if e := p.sync(); e != api.OK {
		return e
	}
	for _, other := range plainNames(p.d) {
		if other != name {
			if e := p.noted(p.d.Remove(other)); e != api.OK {
				return e
			}
		}
	}
	if e := p.sync(); e != api.OK {
		return e
	}
	p.anew = true
	return api.OK
}

// short tells a test's failure without thousands of bytes in it.
func short(l []string) string {
	var all []string
	for _, text := range l {
		if len(text) > 20 {
			text = text[:20] + ".. of " + strconv.Itoa(len(text))
		}
		all = append(all, strconv.Quote(text))
	}
	if len(all) > 12 {
		all = append(all[:12], "and more, of "+strconv.Itoa(len(l)))
	}
	return strings.Join(all, " ")
}

// sameDisks says that all that can be asked of two disks, without a change of them, is the same.
func sameDisks(t *testing.T, what string, got, want *disk.Disk) {
	t.Helper()
	if !slices.Equal(got.List(), want.List()) {
		t.Fatalf("%s: the files %q, want %q", what, got.List(), want.List())
	}
	for _, name := range want.List() {
		a, _ := got.Read(name)
		b, _ := want.Read(name)
		if a != b {
			t.Fatalf("%s: %s has %d bytes, %.60x, want %d, %.60x", what, name, len(a), a, len(b), b)
		}
	}
	if got.Units() != want.Units() || got.Down() != want.Down() {
		t.Fatalf("%s: %d units, down %v, want %d, %v", what, got.Units(), got.Down(), want.Units(), want.Down())
	}
}

// shows says that all that can be asked of the log is what it is of the plain one, twice (R4).
func shows(t *testing.T, what string, l *log.Log, p *plain) {
	t.Helper()
	for range 2 {
		if got := l.Texts(); !slices.Equal(got, p.texts) {
			t.Fatalf("%s: Texts is %s, want %s", what, short(got), short(p.texts))
		}
		if got := l.Synced(); got != p.synced {
			t.Fatalf("%s: Synced is %d, want %d", what, got, p.synced)
		}
		if got, want := l.Names(), plainNames(p.d); !slices.Equal(got, want) {
			t.Fatalf("%s: Names is %q, want %q", what, got, want)
		}
	}
}

// pair is a log, and a plain one on a disk of its own to which the same is done.
type pair struct {
	t *testing.T
	d *disk.Disk
	l *log.Log
	p *plain
}

func made(t *testing.T, room int) *disk.Disk {
	t.Helper()
	d, e := disk.New(room)
	if e != api.OK {
		t.Fatalf("New(%d) is %d", room, e)
	}
	return d
}

func opened(t *testing.T, d *disk.Disk, limit int) *log.Log {
	t.Helper()
	l, e := log.Open(d, limit)
	if e != api.OK || l == nil {
		t.Fatalf("Open with the limit %d is %v, %d", limit, l, e)
	}
	return l
}

// openPair opens logs on the disk and on a copy of it, and says that nothing is changed on the disk.
func openPair(t *testing.T, d *disk.Disk, limit int) *pair {
	t.Helper()
	was := d.Copy()
	x := &pair{t, d, opened(t, d, limit), openPlain(was, limit)}
	x.same("Open", api.OK, api.OK)
	return x
}

// same says that both returned the same, and are the same after it, and so are the disks.
func (x *pair) same(what string, got, want api.Errno) api.Errno {
	x.t.Helper()
	if got != want {
		x.t.Fatalf("%s is %d, want %d", what, got, want)
	}
	shows(x.t, what, x.l, x.p)
	sameDisks(x.t, what, x.d, x.p.d)
	return got
}

func (x *pair) append(s ...string) api.Errno {
	x.t.Helper()
	return x.same("Append of "+short(s), x.l.Append(s...), x.p.append(s...))
}

func (x *pair) sync() api.Errno {
	x.t.Helper()
	return x.same("Sync", x.l.Sync(), x.p.sync())
}

func (x *pair) snapshot() api.Errno {
	x.t.Helper()
	return x.same("Snapshot", x.l.Snapshot(), x.p.snapshot())
}

// both does to both disks what others do to them.
func (x *pair) both(what string, do func(d *disk.Disk) api.Errno) api.Errno {
	x.t.Helper()
	return x.same(what, do(x.d), do(x.p.d))
}

// reopen opens both logs anew.
func (x *pair) reopen(limit int) {
	x.t.Helper()
	x.l = opened(x.t, x.d, limit)
	x.p = openPlain(x.p.d, limit)
	x.same("Open", api.OK, api.OK)
}

// dice returns numbers below what it is passed, always the same ones for one seed.
func dice(seed uint64) func(below int) int {
	return func(below int) int {
		seed = seed*6364136223846793005 + 1442695040888963407
		return int(seed>>33) % below
	}
}

func TestPlain(t *testing.T) { // what the other tests compare with
	l := []string{"", "a", strings.Repeat("b", 127), strings.Repeat("c", 128), strings.Repeat("d", 256), strings.Repeat("e", 65536)}
	if row, e := record.Put(l...); row != plainRow(l...) || e != api.OK {
		t.Error("the plain row is another one")
	}
	if api.MaxRecord != 65536 || api.MaxSegment != 1048576 {
		t.Error(api.MaxRecord, api.MaxSegment)
	}
}
