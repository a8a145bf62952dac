package event_test

import (
	"encoding/binary"
	"fmt"
	"math"
	"strings"
	"testing"

	"millwheel/api"
	"millwheel/event"
)

// What the tests hold events against: the chapter's words of a right event, read as they stand there, and events' bytes written and read by Go's own varints, which are layer 1's.

const chapter = `EStart: S a name, A any number. EBegin: N; P CAct: S a name, A any, B from 0 and below MaxPolicies (20); P CSleep: A from 0 on; P CChild: S a name, A any. ETry: N, P from 1 to MaxTries (100). EOver: N, P a status, A any. ESignal: A any. EStop: nothing. EClose: P a status, A any.`

const (
	mostTime   = 1 << 40
	mostText   = 40
	mostNumber = 1 << 62
)

// read is an event whose kind may be any number.
type read struct {
	kind uint64
	e    api.Event
}

// sentence is what the chapter says of a kind, behind its name; none, if it is none.
func sentence(kind uint64) string {
	all := strings.Split(strings.TrimSuffix(chapter, "."), ". ")
	if kind < 1 || kind > uint64(len(all)) {
		return ""
	}
	_, said, _ := strings.Cut(all[kind-1], ": ")
	return said
}

// fieldsOf is what a sentence says of each field that it names.
func fieldsOf(said string, p int) map[string]string {
	parts := strings.Split(said, "; ")
	named := map[string]string{}
	for _, clause := range strings.Split(parts[0], ", ") {
		field, what, _ := strings.Cut(clause, " ")
		named[field] = what
	}
	if len(parts) == 1 {
		return named
	}
	for k, part := range parts[1:] {
		head, rest, _ := strings.Cut(part, ": ")
		named["P"] = "of a command"
		if p != k+1 {
			continue
		}
		if head != "P "+[]string{"CAct", "CSleep", "CChild"}[k] {
			panic("out of order: " + head)
		}
		for _, clause := range strings.Split(rest, ", ") {
			field, what, _ := strings.Cut(clause, " ")
			named[field] = what
		}
	}
	return named
}

// mayBe tells whether a number, or a text's length, is what is said of it.
func mayBe(what string, n int64) bool {
	switch what {
	case "any", "any number":
		return true
	case "": // N
		return n >= 1 && n <= 200
	case "a name":
		return n >= 1 && n <= 40
	case "from 0 and below MaxPolicies (20)":
		return n >= 0 && n < 20
	case "from 0 on":
		return n >= 0
	case "of a command":
		return n >= 1 && n <= 3
	case "from 1 to MaxTries (100)":
		return n >= 1 && n <= 100
	case "a status":
		return n >= 0 && n <= 3
	}
	panic("no such words: " + what)
}

// isRight tells whether an event is right, by the chapter's words.
func isRight(r read) bool {
	said := sentence(r.kind)
	if said == "" || r.e.At < 0 || r.e.At > mostTime {
		return false
	}
	named := fieldsOf(said, r.e.P)
	for field, n := range map[string]int64{"N": int64(r.e.N), "P": int64(r.e.P), "A": r.e.A, "B": r.e.B, "S": int64(len(r.e.S))} {
		what, there := named[field]
		if there && !mayBe(what, n) || !there && n != 0 {
			return false
		}
	}
	return true
}

// parts are the bytes of an event's fields, right or not, one by one.
func parts(e api.Event) [][]byte {
	var all [][]byte
	for _, n := range []int64{int64(e.Kind), e.At, int64(e.N), int64(e.P)} {
		all = append(all, binary.AppendUvarint(nil, uint64(n)))
	}
	all = append(all, binary.AppendVarint(nil, e.A), binary.AppendUvarint(nil, uint64(e.B)))
	return append(all, append(binary.AppendUvarint(nil, uint64(len(e.S))), e.S...))
}

// written is an event's bytes, right or not.
func written(e api.Event) []byte {
	var all []byte
	for _, part := range parts(e) {
		all = append(all, part...)
	}
	return all
}

// number is the number at the beginning of bytes, and how many it takes.
func number(b []byte) (uint64, int, api.Errno) {
	n, used := binary.Uvarint(b)
	if used == 0 && len(b) < 10 {
		return 0, 0, api.ErrShort
	}
	// Go reads longer forms of a number, too, of which layer 1 takes the shortest one alone.
	if used <= 0 || len(binary.AppendUvarint(nil, n)) != used {
		return 0, 0, api.ErrBytes
	}
	return n, used, api.OK
}

// reading is what Read is to say.
func reading(b []byte, at int) (api.Event, int, api.Errno) {
	if at < 0 || at > len(b) {
		return api.Event{}, 0, api.ErrArg
	}
	var n [7]uint64 // of S the length
	for k := range n {
		one, used, e := number(b[at:])
		if e == api.OK && (k != 4 && one > mostNumber || k == 6 && one > mostText) {
			e = api.ErrBytes
		}
		if e != api.OK {
			return api.Event{}, 0, e
		}
		n[k] = one
		at += used
	}
	to := at + int(n[6])
	if to > len(b) {
		return api.Event{}, 0, api.ErrShort
	}
	signed, _ := binary.Varint(binary.AppendUvarint(nil, n[4]))
	r := read{n[0], api.Event{At: int64(n[1]), N: int(n[2]), P: int(n[3]), A: signed, B: int64(n[5]), S: string(b[at:to])}}
	if !isRight(r) {
		return api.Event{}, 0, api.ErrEvent
	}
	r.e.Kind = api.EKind(r.kind)
	return r.e, to, api.OK
}

// sameRight fails unless Right and Bytes say of an event what the words say.
func sameRight(t *testing.T, e api.Event) bool {
	t.Helper()
	want := isRight(read{uint64(e.Kind), e})
	if got := event.Right(e); got != want {
		t.Errorf("Right(%s): %v", brief(e), got)
	}
	b, err := event.Bytes([]byte{9, 8}, e)
	if want && (err != api.OK || string(b) != "\x09\x08"+string(written(e))) {
		t.Errorf("Bytes(9 8, %s): %v, error %d; want behind 9 8 %v", brief(e), b, err, written(e))
	}
	if !want && (err != api.ErrEvent || b != nil) {
		t.Errorf("Bytes(9 8, %s): %v, error %d; want error %d alone", brief(e), b, err, api.ErrEvent)
	}
	return want
}

// sameRead fails unless Read says of bytes what the words say, and what it reads is written again as it stood there.
func sameRead(t *testing.T, b []byte, at int) api.Errno {
	t.Helper()
	e, next, err := event.Read(b, at)
	wantE, wantNext, wantErr := reading(b, at)
	if e != wantE || next != wantNext || err != wantErr {
		t.Errorf("Read(%v, %d): %s, %d, error %d; want %s, %d, error %d", b[:min(len(b), 80)], at, brief(e), next, err, brief(wantE), wantNext, wantErr)
		return err
	}
	if err == api.OK {
		if again, errno := event.Bytes(nil, e); errno != api.OK || string(again) != string(b[at:next]) {
			t.Errorf("Read(%v, %d), written again: %v, error %d", b[:min(len(b), 80)], at, again, errno)
		}
	}
	return err
}

// refused fails unless Read answers that error alone, as the words say, too.
func refused(t *testing.T, b []byte, at int, want api.Errno) {
	t.Helper()
	if e, next, err := event.Read(b, at); err != want || next != 0 || e != (api.Event{}) {
		t.Errorf("Read(%v, %d): %s, %d, error %d; want error %d alone", b[:min(len(b), 80)], at, brief(e), next, err, want)
	}
	sameRead(t, b, at)
}

// brief tells an event in few words.
func brief(e api.Event) string {
	return fmt.Sprintf("{kind %d at %d, N %d P %d A %d B %d S %.60q}", e.Kind, e.At, e.N, e.P, e.A, e.B, e.S)
}

// each tells all events of a row of edges: of kinds that are and that are none, and of each field on both sides of where it may end.
func each(tell func(e api.Event)) {
	for _, kind := range []api.EKind{0, 1, 2, 3, 4, 5, 6, 7, 8, 255} {
		for _, at := range []int64{-1, 0, 1, mostTime, mostTime + 1} {
			for _, n := range []int{-1, 0, 1, 200, 201} {
				for _, p := range []int{-1, 0, 1, 2, 3, 4, 100, 101} {
					for _, a := range []int64{math.MinInt64, -1, 0, 1, math.MaxInt64} {
						for _, b := range []int64{-1, 0, 19, 20} {
							for _, s := range []int{0, 1, 40, 41} {
								tell(api.Event{Kind: kind, At: at, N: n, P: p, A: a, B: b, S: strings.Repeat("s", s)})
							}
						}
					}
				}
			}
		}
	}
}

// rightOnes are those of each that are right.
func rightOnes() []api.Event {
	var all []api.Event
	each(func(e api.Event) {
		if isRight(read{uint64(e.Kind), e}) {
			all = append(all, e)
		}
	})
	return all
}

// noise is bytes in no order, the same for a seed each time.
func noise(seed uint64, n int) []byte {
	b := make([]byte, n)
	x := seed*2862933555777941757 + 3037000493
	for i := range b {
		x ^= x << 13
		x ^= x >> 7
		x ^= x << 17
		b[i] = byte(x >> 32)
	}
	return b
}
