package log

import (
	"slices"
	"strconv"
	"strings"

	"millwheel/api"
	"millwheel/bytes"
	"millwheel/frame"
)

const (
	nameMark = "w" // what a segment's name begins with
	headMark = 0   // what a head's body begins with: no batch has the number 0, so no batch looks like a head
)

// Name answers the name of the file of a segment.
func Name(first int) string {
	if !isNumber(first) {
		return ""
	}
	return nameMark + strconv.Itoa(first)
}

// First answers the number of the segment whose file has that name.
func First(name string) (int, bool) {
	digits, marked := strings.CutPrefix(name, nameMark)
	if !marked {
		return 0, false
	}
	first, err := strconv.Atoi(digits)
	// Atoi takes signs and noughts ahead, too: a number has one name only.
	if err != nil || Name(first) != name {
		return 0, false
	}
	return first, true
}

// Head answers the frame that a segment begins with.
func Head(first int) ([]byte, api.Errno) {
	if !isNumber(first) {
		return nil, api.ErrArg
	}
	return frame.Put(nil, bytes.Uint([]byte{headMark}, uint64(first)))
}

// Bytes answers the bytes of a batch.
func Bytes(b api.Batch) ([]byte, api.Errno) {
	if !isNumber(b.N) || !isCount(len(b.Recs)) {
		return nil, api.ErrArg
	}
	parts := [][]byte{bytes.Uint(nil, uint64(b.N)), bytes.Uint(nil, uint64(len(b.Recs)))}
	for _, rec := range b.Recs {
		// The two parts of a blob, and not bytes.Blob: records are not copied till all are known to be short enough, and then once.
		parts = append(parts, bytes.Uint(nil, uint64(len(rec))), rec)
	}
	if length(parts) > api.MaxFrame {
		return nil, api.ErrLong
	}
	return slices.Concat(parts...), api.OK
}

// Parse answers the batch whose bytes these are.
func Parse(body []byte) (api.Batch, api.Errno) {
	if len(body) > api.MaxFrame {
		return api.Batch{}, api.ErrBytes
	}
	// A number of 2^63 or more turns below 0 as an int, and is refused as such.
	n, at, e := bytes.GetUint(body, 0)
	if e != api.OK || !isNumber(int(n)) {
		return api.Batch{}, api.ErrBytes
	}
	count, at, e := bytes.GetUint(body, at)
	if e != api.OK || !isCount(int(count)) {
		return api.Batch{}, api.ErrBytes
	}
	recs, at, e := records(body, at, int(count))
	if e != api.OK || at != len(body) {
		return api.Batch{}, api.ErrBytes
	}
	return api.Batch{N: int(n), Recs: recs}, api.OK
}

// records reads so many records from a place on, and tells the place behind them.
func records(body []byte, at, count int) ([][]byte, int, api.Errno) {
	var recs [][]byte
	for range count {
		rec, next, e := bytes.GetBlob(body, at, len(body))
		if e != api.OK {
			return nil, 0, e
		}
		recs, at = append(recs, rec), next
	}
	return recs, at, api.OK
}

// length tells how many bytes parts have in all.
func length(parts [][]byte) int {
	n := 0
	for _, part := range parts {
		n += len(part)
	}
	return n
}

// isNumber tells whether a batch, or a segment, may have that number.
func isNumber(n int) bool {
	return n >= 1 && n <= mostNumber
}

// isCount tells whether a batch may have so many records.
func isCount(n int) bool {
	return n >= 1 && n <= api.MaxBatch
}
