package disk_test

import (
	"strings"
	"testing"

	"tranter/api"
)

// dice returns numbers below what it is passed, always the same ones for one seed.
func dice(seed uint64) func(below int) int {
	return func(below int) int {
		seed = seed*6364136223846793005 + 1442695040888963407
		return int(seed>>33) % below
	}
}

// anyCall does one thing to both disks of a pair, and returns its error.
func anyCall(x pair, roll func(below int) int) api.Errno {
	names := []string{"a", "b", "c", "d", "", strings.Repeat("n", 32), strings.Repeat("n", 33)}
	name := func() string {
		if roll(12) == 0 {
			return names[roll(len(names))]
		}
		return names[roll(4)]
	}
	switch roll(16) {
	case 0:
		return x.sync()
	case 1:
		return x.crash(roll(x.d.Units()+3) - 1)
	case 2:
		return x.fuse(roll(14) - 1)
	case 3, 4, 5:
		return x.remove(name())
	case 6, 7, 8:
		return x.rename(name(), name())
	}
	return x.append(name(), "abcdefghijklmnopqrstuvwxyz"[roll(20):][:roll(7)])
}

// TestAny does the same to disks and to plain ones, and goes on with copies beside what they were made of.
func TestAny(t *testing.T) { // P7.1 to P7.5, R4
	roll := dice(7)
	errors := map[api.Errno]int{}
	for range 60 {
		all := []pair{newPair(t, roll(40))}
		for range 150 {
			at := roll(len(all))
			if roll(10) == 0 && len(all) < 6 {
				all = append(all, all[at].copy())
			}
			errors[anyCall(all[at], roll)]++
			other := all[roll(len(all))]
			shows(t, "another one", other.d, other.p)
		}
		for _, x := range all {
			showsKept(t, "at the end", x.d, x.p)
		}
	}
	for _, e := range []api.Errno{api.OK, api.ErrArg, api.ErrDown, api.ErrNone, api.ErrFull} {
		if errors[e] < 100 {
			t.Errorf("the error %d came %d times", e, errors[e])
		}
	}
}
