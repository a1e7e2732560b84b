package frame

import (
	"tranter/api"
	"tranter/op"
	"tranter/sum"
	"tranter/wire"
)

func Put(f api.Frame) (string, api.Errno) {
	if !May(f) {
		return "", api.ErrArg
	}
	w := wire.New()
	w.Num(uint64(f.Kind))
	w.Num(uint64(f.From))
	w.Num(uint64(f.To))
	w.Vector(f.Have)
	w.Num(uint64(len(f.Ops)))
	for _, o := range f.Ops {
		encoding, _ := op.Put(o) // it fails for too many Lines alone, which May refused
		w.Text(encoding)
	}
	return sum.Seal(w.Bytes()), api.OK
}

func Get(b string) (api.Frame, api.Errno) {
	content, sealed := sum.Open(b)
	r := wire.Open(content)
	var f api.Frame
	f.Kind = uint8(r.Num(uint64(api.FrDelta)))
	f.From = uint8(r.Num(api.MaxReplicas - 1))
	f.To = uint8(r.Num(api.MaxReplicas - 1))
	f.Have = r.Vector()
	ops, valid := getOps(r)
	f.Ops = ops
	if !all(sealed, valid, r.End() == api.OK, May(f)) {
		return api.Frame{}, api.ErrForm
	}
	return f, api.OK
}

// getOps returns the operations at the reader's position, and true; false if one of them is not valid: what is after that one is not read.
func getOps(r *wire.Reader) ([]api.Op, bool) {
	left := r.Num(api.MaxBatch)
	var ops []api.Op
	next := func() bool {
		if left == 0 {
			return false
		}
		o, e := op.Get(r.Text(r.Left()))
		if e != api.OK {
			return false
		}
		ops = append(ops, o)
		left--
		return true
	}
	for next() {
	}
	return ops, left == 0
}
