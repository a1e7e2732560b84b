package log

import (
	"iter"
	"slices"
	"strconv"
	"strings"

	"tranter/api"
	"tranter/disk"
	"tranter/record"
)

// What a head begins with: of a segment that continues those before it, and of a snapshot.
const (
	further  = "F:"
	snapshot = "S:"
)

const (
	namePrefix = "log."
	nameDigits = 8
	mostNumber = 99999999
	mostCount  = 9999999999 // the greatest number that a head can have
)

// segment is a segment as it is read: what its head says, and its strings.
type segment struct {
	kind  string
	count uint64
	texts []string
}

// textsOf begins anew at each snapshot, since nothing before the last one counts. From the first head that does not fit on, strings are left out.
func textsOf(d *disk.Disk) []string {
	var texts []string
	fits := true
	for s := range segments(d) {
		if s.kind == snapshot {
			texts, fits = nil, true
		} else if s.count != uint64(len(texts)) {
			fits = false
		}
		if fits {
			texts = append(texts, s.texts...)
		}
	}
	return texts
}

// segments produces the disk's segments that count, in the order of their names.
func segments(d *disk.Disk) iter.Seq[segment] {
	return func(yield func(segment) bool) {
		for _, name := range segmentNames(d) {
			content, _ := d.Read(name)
			if s, counts := readSegment(content); counts && !yield(s) {
				return
			}
		}
	}
}

func readSegment(content string) (s segment, counts bool) {
	l, _, _ := record.Scan(content)
	if len(l) == 0 {
		return segment{}, false
	}
	kind, count, is := readHead(l[0])
	s = segment{kind, count, l[1:]}
	if !is || kind == snapshot && count != uint64(len(s.texts)) {
		return segment{}, false
	}
	return s, true
}

func headOf(kind string, count int) string {
	return kind + strconv.Itoa(count)
}

// readHead compares with the number as it would be written, so that no other form of it is accepted.
func readHead(head string) (kind string, count uint64, is bool) {
	if !strings.HasPrefix(head, further) && !strings.HasPrefix(head, snapshot) {
		return "", 0, false
	}
	kind, digits := head[:len(further)], head[len(further):]
	count, e := strconv.ParseUint(digits, 10, 64)
	if e != nil || count > mostCount || strconv.FormatUint(count, 10) != digits {
		return "", 0, false
	}
	return kind, count, true
}

func segmentNames(d *disk.Disk) []string {
	return slices.DeleteFunc(d.List(), func(name string) bool { return numberOf(name) == 0 })
}

// nextName returns the name after all segments' names that exist.
func nextName(d *disk.Disk) (string, api.Errno) {
	number := 1
	for _, name := range segmentNames(d) {
		number = numberOf(name) + 1
	}
	if number > mostNumber {
		return "", api.ErrLong
	}
	return nameOf(number), api.OK
}

func nameOf(number int) string {
	digits := strconv.Itoa(number)
	return namePrefix + strings.Repeat("0", nameDigits-len(digits)) + digits
}

// numberOf returns the segment's number, or 0 for a name that is no segment's.
func numberOf(name string) int {
	digits, is := strings.CutPrefix(name, namePrefix)
	if !is || len(digits) != nameDigits || strings.Trim(digits, "0123456789") != "" {
		return 0
	}
	number, _ := strconv.Atoi(digits)
	return number
}
