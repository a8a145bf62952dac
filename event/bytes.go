package event

import (
	"math"
	"slices"

	"millwheel/api"
	"millwheel/bytes"
)

// mostNumber is the greatest number without a sign that is read: each one up to it is there as an int64, too.
const mostNumber = 1 << 62

// Bytes answers out, and behind it an event.
func Bytes(out []byte, e api.Event) ([]byte, api.Errno) {
	if !Right(e) {
		return nil, api.ErrEvent
	}
	// Layer 1 copies what it adds to each time: so the event is written by itself, and out is copied once.
	row := bytes.Uint(nil, uint64(e.Kind))
	row = bytes.Uint(row, uint64(e.At))
	row = bytes.Uint(row, uint64(e.N))
	row = bytes.Uint(row, uint64(e.P))
	row = bytes.Int(row, e.A)
	row = bytes.Uint(row, uint64(e.B))
	row = bytes.Blob(row, []byte(e.S))
	return slices.Concat(out, row), api.OK
}

// Read answers the event whose bytes stand at a place, and the place behind it.
func Read(b []byte, at int) (api.Event, int, api.Errno) {
	r := &reader{b: b, at: at}
	e := r.event()
	if r.wrong != api.OK {
		return api.Event{}, 0, r.wrong
	}
	if !Right(e) {
		return api.Event{}, 0, api.ErrEvent
	}
	return e, r.at, api.OK
}

// reader reads bytes one field behind the other. What was wrong first stays (it may be the place itself), and all is 0 that is read from then on.
type reader struct {
	b     []byte
	at    int
	wrong api.Errno
}

// event reads an event, that is right or not.
func (r *reader) event() api.Event {
	return api.Event{
		Kind: r.kind(),
		At:   r.number(),
		N:    int(r.number()),
		P:    int(r.number()),
		A:    r.signed(),
		B:    r.number(),
		S:    r.text(),
	}
}

// kind reads a number as a kind. One that the type has no room for becomes the type's greatest, which is no kind either; cut down to the type it might be one.
func (r *reader) kind() api.EKind {
	return api.EKind(min(r.number(), math.MaxUint8))
}

func (r *reader) number() int64 {
	if r.wrong != api.OK {
		return 0
	}
	n, next, e := bytes.GetUint(r.b, r.at)
	if n > mostNumber {
		n, next, e = 0, 0, api.ErrBytes
	}
	r.at, r.wrong = next, e
	return int64(n)
}

// signed reads a number that may be any: mostNumber bounds those without a sign alone.
func (r *reader) signed() int64 {
	if r.wrong != api.OK {
		return 0
	}
	n, next, e := bytes.GetInt(r.b, r.at)
	r.at, r.wrong = next, e
	return n
}

func (r *reader) text() string {
	if r.wrong != api.OK {
		return ""
	}
	text, next, e := bytes.GetBlob(r.b, r.at, api.MaxText)
	if e == api.ErrLong {
		e = api.ErrBytes
	}
	r.at, r.wrong = next, e
	return string(text)
}
