package twin

import (
	"hauberk/api"
	"hauberk/sum"
	"hauberk/word"
)

// head is what of a frame has bounds: its numbers, and how many Bytes it has.
type head struct{ sender, life, serial, size int }

// bounded answers h with each number brought within its bounds.
func (h head) bounded() head {
	return head{
		sender: nearest(h.sender, 1, api.MaxNodes),
		life:   nearest(h.life, 1, api.MaxNumber),
		serial: nearest(h.serial, 1, api.MaxNumber),
		size:   nearest(h.size, 0, api.MaxPacket),
	}
}

// nearest answers the number from low to high that is nearest to v.
func nearest(v, low, high int) int { return max(low, min(v, high)) }

// mayBe tells whether f may be: what is within its bounds is not changed by them.
func mayBe(f api.Frame) bool {
	h := head{sender: f.Sender, life: f.Life, serial: f.Serial, size: len(f.Bytes)}
	return h == h.bounded()
}

// Pack answers the bytes of f, sealed.
func Pack(f api.Frame) ([]byte, api.Errno) {
	switch {
	case len(f.Bytes) > api.MaxPacket:
		return nil, api.ErrLimit
	case !mayBe(f):
		return nil, api.ErrArg
	}
	w := word.Write()
	for _, v := range []int{f.Sender, f.Life, f.Serial} {
		w.Put(v)
	}
	w.Octets(f.Bytes)
	return sum.Seal(w.Bytes()), api.OK
}

// Open answers the frame that Pack made b of.
func Open(b []byte) (api.Frame, api.Errno) {
	opened, e := sum.Open(b)
	if e != api.OK {
		return api.Frame{}, e
	}
	r := word.New(opened)
	f, e := read(r)
	switch {
	case e != api.OK:
		return api.Frame{}, e
	case r.Left() > 0 || !mayBe(f):
		return api.Frame{}, api.ErrSyntax
	}
	return f, api.OK
}

// read reads what stands in the bytes of a frame, up to the first error.
func read(r *word.Reader) (api.Frame, api.Errno) {
	f := api.Frame{}
	e := api.OK
	for _, p := range []*int{&f.Sender, &f.Life, &f.Serial} {
		if *p, e = r.Get(); e != api.OK {
			return api.Frame{}, e
		}
	}
	f.Bytes, e = r.Octets(api.MaxPacket)
	return f, e
}
