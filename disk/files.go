package disk

import (
	"iter"
	"slices"
)

// files is what each file has, by its name.
type files map[string][]byte

// unit is one unit of a step: it is applied to the files that the units before it left.
type unit func(f files)

// copied shares the bytes that are there, since no unit changes these, but no room behind them: whatever is appended to the copy gets memory of its own.
func copied(f files) files {
	c := make(files, len(f))
	for name, content := range f {
		c[name] = slices.Clip(content)
	}
	return c
}

// apply applies the first count of the units, or all if there are fewer.
func apply(f files, units iter.Seq[unit], count int) {
	for u := range units {
		if count == 0 {
			return
		}
		u(f)
		count--
	}
}

func appending(name, s string, exists bool) iter.Seq[unit] {
	return func(yield func(unit) bool) {
		if !exists && !yield(func(f files) { f[name] = nil }) {
			return
		}
		for _, next := range []byte(s) {
			if !yield(func(f files) { f[name] = append(f[name], next) }) {
				return
			}
		}
	}
}

func removing(name string) iter.Seq[unit] {
	return single(func(f files) { delete(f, name) })
}

// renaming deletes first, so that a file keeps its bytes where both names are the same.
func renaming(from, to string) iter.Seq[unit] {
	return single(func(f files) {
		content := f[from]
		delete(f, from)
		f[to] = content
	})
}

func single(u unit) iter.Seq[unit] {
	return func(yield func(unit) bool) { yield(u) }
}
