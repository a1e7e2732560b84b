package op

import (
	"tranter/api"
	"tranter/wire"
)

func Put(o api.Op) (string, api.Errno) {
	if len(o.Lines) > api.MaxLines {
		return "", api.ErrLong
	}
	w := wire.New()
	w.Dot(o.Dot)
	w.Vector(o.Dep)
	w.Num(o.Time)
	w.Num(uint64(o.Who))
	w.Dot(o.Cart)
	w.Num(uint64(o.Kind))
	w.Dot(o.Cred)
	w.Num(uint64(o.To))
	w.Num(uint64(o.Roles))
	w.Num(uint64(o.Depth))
	w.Num(o.Cap)
	w.Dot(o.At)
	w.Dot(o.Version)
	w.Num(uint64(o.Item))
	w.Num(uint64(o.Qty))
	w.Num(uint64(o.Price))
	w.Num(uint64(len(o.Lines)))
	for _, claim := range o.Lines {
		w.Dot(claim.Line)
		w.Dot(claim.Version)
	}
	return w.Bytes(), api.OK
}

func Get(b string) (api.Op, api.Errno) {
	r := wire.Open(b)
	var o api.Op
	o.Dot = r.Dot()
	o.Dep = r.Vector()
	o.Time = number[uint64](r)
	o.Who = number[uint32](r)
	o.Cart = r.Dot()
	o.Kind = number[uint8](r)
	o.Cred = r.Dot()
	o.To = number[uint32](r)
	o.Roles = number[uint8](r)
	o.Depth = number[uint8](r)
	o.Cap = number[uint64](r)
	o.At = r.Dot()
	o.Version = r.Dot()
	o.Item = number[uint32](r)
	o.Qty = number[uint32](r)
	o.Price = number[uint32](r)
	for range r.Num(api.MaxLines) {
		line, version := r.Dot(), r.Dot()
		o.Lines = append(o.Lines, api.Claim{Line: line, Version: version})
	}
	if r.End() != api.OK {
		return api.Op{}, api.ErrForm
	}
	return o, api.OK
}

// number reads one that is at most the greatest of its field's type.
func number[N uint8 | uint32 | uint64](r *wire.Reader) N {
	return N(r.Num(uint64(^N(0))))
}
