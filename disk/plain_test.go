package disk_test

import (
	"maps"
	"slices"
	"testing"

	"tranter/api"
	"tranter/disk"
)

// plainUnit is a unit of the chapter, written out: what it does, and to which file.
type plainUnit struct {
	what       string // create, byte, remove or rename
	name, more string // more: the byte, or the other name
}

// plain is the chapter's disk, written out: what is seen is made anew of the synced files, and of all units, whenever it is asked for.
type plain struct {
	room   int
	synced map[string]string
	units  []plainUnit
	fused  bool
	left   int
	down   bool
}

func newPlain(room int) *plain {
	return &plain{room: room, synced: map[string]string{}}
}

// after returns the files that there are if only the first k units are done.
func (p *plain) after(k int) map[string]string {
	files := maps.Clone(p.synced)
	for _, u := range p.units[:min(k, len(p.units))] {
		switch u.what {
		case "create":
			files[u.name] = ""
		case "byte":
			files[u.name] += u.more
		case "remove":
			delete(files, u.name)
		case "rename":
			if u.name != u.more {
				files[u.more] = files[u.name]
				delete(files, u.name)
			}
		}
	}
	return files
}

func (p *plain) seen() map[string]string {
	return p.after(len(p.units))
}

func bytesOf(files map[string]string) int {
	n := 0
	for _, content := range files {
		n += len(content)
	}
	return n
}

func wrongName(name string) bool {
	return len(name) < 1 || len(name) > 32
}

// step does the units one by one, until the fuse lets no more of them be done.
func (p *plain) step(units ...plainUnit) api.Errno {
	for _, u := range units {
		if p.fused && p.left == 0 {
			p.down = true
			return api.ErrDown
		}
		p.left--
		p.units = append(slices.Clip(p.units), u)
	}
	return api.OK
}

func (p *plain) append(name, s string) api.Errno {
	seen := p.seen()
	_, exists := seen[name]
	switch {
	case wrongName(name):
		return api.ErrArg
	case p.down:
		return api.ErrDown
	case bytesOf(seen)+len(s) > p.room:
		return api.ErrFull
	}
	var units []plainUnit
	if !exists {
		units = append(units, plainUnit{what: "create", name: name})
	}
	for i := range len(s) {
		units = append(units, plainUnit{"byte", name, s[i : i+1]})
	}
	return p.step(units...)
}

func (p *plain) remove(name string) api.Errno {
	_, exists := p.seen()[name]
	switch {
	case wrongName(name):
		return api.ErrArg
	case p.down:
		return api.ErrDown
	case !exists:
		return api.ErrNone
	}
	return p.step(plainUnit{what: "remove", name: name})
}

func (p *plain) rename(from, to string) api.Errno {
	_, exists := p.seen()[from]
	switch {
	case wrongName(from) || wrongName(to):
		return api.ErrArg
	case p.down:
		return api.ErrDown
	case !exists:
		return api.ErrNone
	}
	return p.step(plainUnit{"rename", from, to})
}

func (p *plain) sync() api.Errno {
	if p.down || p.fused && p.left == 0 {
		p.down = true
		return api.ErrDown
	}
	p.left--
	p.synced, p.units = p.seen(), nil
	return api.OK
}

func (p *plain) crash(keep int) api.Errno {
	if keep < 0 {
		return api.ErrArg
	}
	*p = plain{room: p.room, synced: p.after(keep)}
	return api.OK
}

func (p *plain) fuse(k int) api.Errno {
	switch {
	case k < 0:
		return api.ErrArg
	case p.down:
		return api.ErrDown
	}
	p.fused, p.left = true, k
	return api.OK
}

func (p *plain) copy() *plain {
	c := *p
	return &c
}

// shows says that all that can be asked of the disk, without a change of it, is what it is of the plain one.
func shows(t *testing.T, what string, d *disk.Disk, p *plain) {
	t.Helper()
	seen := p.seen()
	names := slices.Sorted(maps.Keys(seen))
	if got := d.List(); !slices.Equal(got, names) {
		t.Fatalf("%s: List is %q, want %q", what, got, names)
	}
	for _, name := range names {
		if s, e := d.Read(name); s != seen[name] || e != api.OK {
			t.Fatalf("%s: Read(%q) is %q, %d, want %q", what, name, s, e, seen[name])
		}
	}
	if d.Used() != bytesOf(seen) || d.Units() != len(p.units) || d.Down() != p.down {
		t.Fatalf("%s: %d used, %d units, down %v, want %d, %d, %v", what, d.Used(), d.Units(), d.Down(), bytesOf(seen), len(p.units), p.down)
	}
	if d.Used() > p.room {
		t.Fatalf("%s: %d used of %d", what, d.Used(), p.room)
	}
}

// showsKept says the same of copies that crash, whatever they keep.
func showsKept(t *testing.T, what string, d *disk.Disk, p *plain) {
	t.Helper()
	shows(t, what, d, p)
	for keep := range len(p.units) + 3 {
		c, q := d.Copy(), p.copy()
		if e := c.Crash(keep); e != api.OK || q.crash(keep) != api.OK {
			t.Fatalf("%s: Crash(%d) is %d", what, keep, e)
		}
		shows(t, what+", crashed", c, q)
	}
	shows(t, what+", after its copies' crashes", d, p)
}

// pair is a disk, and a plain one to which the same is done.
type pair struct {
	t *testing.T
	d *disk.Disk
	p *plain
}

func newPair(t *testing.T, room int) pair {
	t.Helper()
	d, e := disk.New(room)
	if e != api.OK || d == nil {
		t.Fatalf("New(%d) is %v, %d", room, d, e)
	}
	return pair{t, d, newPlain(room)}
}

func (x pair) copy() pair {
	return pair{x.t, x.d.Copy(), x.p.copy()}
}

// same says that both returned the same, and are the same after it.
func (x pair) same(what string, got, want api.Errno) api.Errno {
	x.t.Helper()
	if got != want {
		x.t.Fatalf("%s is %d, want %d", what, got, want)
	}
	shows(x.t, what, x.d, x.p)
	return got
}

func (x pair) append(name, s string) api.Errno {
	x.t.Helper()
	return x.same("Append of "+name, x.d.Append(name, s), x.p.append(name, s))
}

func (x pair) remove(name string) api.Errno {
	x.t.Helper()
	return x.same("Remove of "+name, x.d.Remove(name), x.p.remove(name))
}

func (x pair) rename(from, to string) api.Errno {
	x.t.Helper()
	return x.same("Rename of "+from+" to "+to, x.d.Rename(from, to), x.p.rename(from, to))
}

func (x pair) sync() api.Errno {
	x.t.Helper()
	return x.same("Sync", x.d.Sync(), x.p.sync())
}

func (x pair) crash(keep int) api.Errno {
	x.t.Helper()
	return x.same("Crash", x.d.Crash(keep), x.p.crash(keep))
}

func (x pair) fuse(k int) api.Errno {
	x.t.Helper()
	return x.same("Fuse", x.d.Fuse(k), x.p.fuse(k))
}
