package event_test

import (
	"encoding/binary"
	"math"
	"slices"
	"strings"
	"testing"

	"millwheel/api"
	"millwheel/event"
)

// The places of an event's fields in parts.
const (
	kindPart = iota
	atPart
	nPart
	pPart
	aPart
	bPart
	sPart
)

var partNames = []string{"Kind", "At", "N", "P", "A", "B", "S"}

// instead is an event's bytes, others in the stead of a field's.
func instead(e api.Event, part int, b []byte) []byte {
	all := parts(e)
	all[part] = b
	return slices.Concat(all...)
}

// longOne is a right event each of whose fields takes as many bytes as it may, but for Kind, P and B, that take one.
func longOne() api.Event {
	return api.Event{Kind: api.EBegin, At: 1 << 40, N: 200, P: int(api.CAct), A: math.MinInt64, B: 19, S: strings.Repeat("n", 40)}
}

// readAgain fails unless an event's bytes are read as it, wherever they stand.
func readAgain(t *testing.T, e api.Event) []byte {
	t.Helper()
	b, err := event.Bytes(nil, e)
	if err != api.OK {
		t.Fatalf("Bytes(%s): error %d", brief(e), err)
	}
	for _, ahead := range []string{"", "\x00", "\xff\xff\xff"} {
		for _, behind := range []string{"", "\x00", "\x80", "\xff\xff"} {
			got, next, err := event.Read([]byte(ahead+string(b)+behind), len(ahead))
			if err != api.OK || got != e || next != len(ahead)+len(b) {
				t.Fatalf("Read of %s, %q ahead, %q behind: %s, %d, error %d", brief(e), ahead, behind, brief(got), next, err)
			}
		}
	}
	return b
}

// P11.1: Read.

func TestReadOrdinary(t *testing.T) {
	for _, e := range append(ordinary(), longOne()) {
		readAgain(t, e)
		sameRead(t, written(e), 0)
	}
}

func TestReadPlaces(t *testing.T) {
	for _, b := range [][]byte{nil, {}, {1}, {0x80, 0}, written(longOne()), written(ordinary()[7])} {
		for _, at := range []int{math.MinInt, -1 << 32, -2, -1, len(b) + 1, len(b) + 2, len(b) + 1<<32, math.MaxInt - 1, math.MaxInt} {
			refused(t, b, at, api.ErrArg)
		}
		refused(t, b, len(b), api.ErrShort)
		// What stands behind its end is no longer b's.
		refused(t, slices.Concat(b, written(longOne()))[:len(b)], len(b), api.ErrShort)
		refused(t, slices.Concat(b, written(longOne()))[:len(b)], len(b)+1, api.ErrArg)
	}
	// Each place in the midst of events is read for itself.
	row := slices.Concat(written(ordinary()[0]), written(longOne()), written(ordinary()[5]))
	for at := range row {
		sameRead(t, row, at)
	}
}

func TestReadCut(t *testing.T) {
	for _, e := range append(ordinary(), longOne()) {
		whole := written(e)
		for n := range whole {
			refused(t, whole[:n], 0, api.ErrShort)
			refused(t, slices.Concat([]byte{7, 7}, whole[:n]), 2, api.ErrShort)
		}
	}
}

// noNumbers are bytes that are no number: longer than they need to be, or of more than 64 bits.
func noNumbers() [][]byte {
	nines := slices.Repeat([]byte{0x80}, 9)
	return [][]byte{{0x80, 0}, {0x81, 0}, {0x80, 0x80, 0}, append(slices.Clone(nines), 0), append(slices.Clone(nines), 2), append(slices.Clone(nines), 0x7f), append(slices.Clone(nines), 0x80), append(slices.Clone(nines), 0xff, 1), slices.Repeat([]byte{0xff}, 12)}
}

func TestReadNoNumbers(t *testing.T) {
	for _, e := range append(ordinary(), longOne()) {
		for part := range partNames {
			for _, wrong := range noNumbers() {
				refused(t, instead(e, part, wrong), 0, api.ErrBytes)
			}
		}
	}
}

func TestReadGreatNumbers(t *testing.T) {
	for _, e := range append(ordinary(), longOne()) {
		for part, name := range partNames {
			if part == aPart {
				continue
			}
			for _, n := range []uint64{1<<62 + 1, 1<<62 + 2, 1<<63 - 1, 1 << 63, 1<<63 + 1, math.MaxUint64 - 1, math.MaxUint64} {
				refused(t, instead(e, part, binary.AppendUvarint(nil, n)), 0, api.ErrBytes)
			}
			// Up to 2^62 it is a number, but none that is right.
			for _, n := range []uint64{1<<62 - 1, 1 << 62, 1 << 61, 1 << 41} {
				want := api.ErrEvent
				if name == "S" {
					want = api.ErrBytes
				}
				refused(t, instead(e, part, binary.AppendUvarint(nil, n)), 0, want)
			}
		}
	}
}

// TestReadAnyA: what bounds numbers without a sign does not bound those with one, that may be any.
func TestReadAnyA(t *testing.T) {
	for _, a := range []int64{math.MinInt64, math.MinInt64 + 1, -1<<62 - 1, -1 << 62, -1<<61 - 1, -1 << 61, -1, 0, 1, 1 << 61, 1<<61 + 1, 1 << 62, 1<<62 + 1, math.MaxInt64 - 1, math.MaxInt64} {
		for _, e := range ordinary() {
			e.A = a
			if event.Right(e) {
				readAgain(t, e)
			} else {
				refused(t, written(e), 0, api.ErrEvent)
			}
		}
		readAgain(t, api.Event{Kind: api.ESignal, A: a})
	}
}

// TestReadNumbersThatAreCutDown: no number is right that a type of fewer bits would take for a right one.
func TestReadNumbersThatAreCutDown(t *testing.T) {
	for _, e := range append(ordinary(), longOne()) {
		for part := range partNames {
			if part == aPart || part == sPart {
				continue
			}
			small, _ := binary.Uvarint(parts(e)[part])
			for _, more := range []uint64{1 << 8, 1 << 9, 1 << 16, 1 << 31, 1 << 32, 1 << 33, 1 << 48, 1 << 61} {
				n := binary.AppendUvarint(nil, small+more)
				if part != atPart {
					refused(t, instead(e, part, n), 0, api.ErrEvent)
				}
				sameRead(t, instead(e, part, n), 0)
			}
		}
	}
	for n := range uint64(1100) {
		b := instead(api.Event{Kind: api.EStop}, kindPart, binary.AppendUvarint(nil, n))
		if e, _, err := event.Read(b, 0); (err == api.OK) != (n >= 5 && n <= 7) || err == api.OK && e.Kind != api.EKind(n) {
			t.Errorf("Read of the kind %d: %s, error %d", n, brief(e), err)
		}
		sameRead(t, b, 0)
	}
}

func TestReadLongTexts(t *testing.T) {
	for _, e := range append(ordinary(), api.Event{Kind: 8}) {
		for _, n := range []int{41, 42, 127, 128, 300} {
			whole := slices.Concat(binary.AppendUvarint(nil, uint64(n)), slices.Repeat([]byte{'s'}, n))
			refused(t, instead(e, sPart, whole), 0, api.ErrBytes)
			// The length is met ahead of the bytes that are wanting.
			refused(t, instead(e, sPart, whole[:len(whole)-n]), 0, api.ErrBytes)
		}
		whole := slices.Concat([]byte{40}, slices.Repeat([]byte{'s'}, 40))
		for n := range whole {
			refused(t, instead(e, sPart, whole[:n]), 0, api.ErrShort)
		}
	}
}

func TestReadWhatIsNotRight(t *testing.T) {
	refused(t, written(api.Event{}), 0, api.ErrEvent)
	each(func(e api.Event) {
		// A number below 0 is written as a great one.
		want := api.ErrEvent
		if e.At < 0 || e.N < 0 || e.P < 0 || e.B < 0 || len(e.S) > mostText {
			want = api.ErrBytes
		}
		b := written(e)
		if err := sameRead(t, b, 0); err != want && !event.Right(e) {
			t.Errorf("Read(%v), of %s: error %d, want %d", b, brief(e), err, want)
		}
	})
}

// fault is what a field's bytes may be made, and what Read is to say of them.
type fault struct {
	made func(part []byte) []byte
	ends bool // nothing comes behind it
	want api.Errno
}

func faults() []fault {
	as := func(b ...byte) func([]byte) []byte { return func([]byte) []byte { return b } }
	great := binary.AppendUvarint(nil, 1<<62+1)
	return []fault{
		{as(0x80, 0), false, api.ErrBytes},
		{as(slices.Repeat([]byte{0xff}, 10)...), false, api.ErrBytes},
		{as(great...), false, api.ErrBytes},
		{as(0x80), true, api.ErrShort},
		{as(), true, api.ErrShort},
		{func(part []byte) []byte { return part[:len(part)-1] }, true, api.ErrShort},
	}
}

// faulty is an event's bytes with one field's made so; whether that one ends them.
func faulty(all [][]byte, part int, f fault) [][]byte {
	all = slices.Clone(all)
	all[part] = f.made(all[part])
	if f.ends {
		all = all[:part+1]
	}
	return all
}

// TestReadTheFirstFault: of two fields' faults the one that is met first counts; that an event is not right, whichever field tells it, comes last.
func TestReadTheFirstFault(t *testing.T) {
	notRight := []api.Event{{}, {Kind: 8, At: 5}, {Kind: api.EStart}, with(longOne(), 't', 1<<41), with(longOne(), 'N', 201), with(longOne(), 'P', 4), with(longOne(), 'B', 20), with(ordinary()[2], 'A', -1), with(ordinary()[7], 'S', 1)}
	for _, e := range append(notRight, longOne()) {
		for early := range partNames {
			for _, first := range faults() {
				if early == aPart && first.want == api.ErrBytes && len(first.made(nil)) == 9 {
					continue // It is no fault there.
				}
				refused(t, slices.Concat(faulty(parts(e), early, first)...), 0, first.want)
				for late := early + 1; late < len(partNames); late++ {
					for _, second := range faults() {
						all := faulty(parts(e), late, second)
						refused(t, slices.Concat(faulty(all, early, first)...), 0, first.want)
					}
				}
			}
		}
	}
}

// P11.2.

func TestReadIsWhatWasWritten(t *testing.T) {
	all := rightOnes()
	if len(all) != 456 {
		t.Fatalf("%d right events", len(all))
	}
	for _, e := range append(all, ordinary()...) {
		readAgain(t, e)
	}
}

func TestEventsOneBehindTheOther(t *testing.T) {
	all := append(rightOnes(), ordinary()...)
	var row []byte
	for _, e := range all {
		row, _ = event.Bytes(row, e)
	}
	at := 0
	for k, want := range all {
		e, next, err := event.Read(row, at)
		if err != api.OK || e != want || next != at+len(written(want)) {
			t.Fatalf("Read of the event %d: %s, %d, error %d; want %s", k, brief(e), next, err, brief(want))
		}
		at = next
	}
	if at != len(row) {
		t.Errorf("read up to %d of %d", at, len(row))
	}
	refused(t, row, at, api.ErrShort)
}

func TestUnlikeEventsHaveUnlikeBytes(t *testing.T) {
	seen := map[string]api.Event{}
	look := func(e api.Event) {
		if !event.Right(e) {
			return
		}
		b := string(readAgain(t, e))
		if other, ok := seen[b]; ok && other != e {
			t.Errorf("%s and %s have the bytes %q", brief(other), brief(e), b)
		}
		seen[b] = e
	}
	for _, e := range append(rightOnes(), ordinary()...) {
		look(e)
		for _, n := range []int64{0, 1, 2, 3, 4, 10, 11, 12, 13, 40, 127, 128, 200, 1 << 14, 1 << 40} {
			for _, field := range []byte("tNPABS") {
				if field != 'S' || n <= mostText {
					look(with(e, field, n))
				}
			}
		}
	}
	if len(seen) < 2000 {
		t.Errorf("only %d events", len(seen))
	}
	// None is the beginning of another one, so that it is told where an event ends.
	var all []string
	for b := range seen {
		all = append(all, b)
	}
	slices.Sort(all)
	for k := 1; k < len(all); k++ {
		if strings.HasPrefix(all[k], all[k-1]) {
			t.Errorf("%q begins %q", all[k-1], all[k])
		}
	}
}

// Each event has one form: whatever is read otherwise than it was written is another one, or none.
func TestReadEachByteAnother(t *testing.T) {
	for _, e := range append(ordinary(), longOne()) {
		whole := written(e)
		for at := range whole {
			for one := range 256 {
				b := slices.Clone(whole)
				b[at] = byte(one)
				sameRead(t, b, 0)
				if got, _, err := event.Read(b, 0); err == api.OK && got == e && string(b) != string(whole) {
					t.Errorf("%v is %s, too", b, brief(e))
				}
			}
		}
	}
}

func TestReadEachByteStruckOutOrDoubled(t *testing.T) {
	for _, e := range append(ordinary(), longOne()) {
		whole := written(e)
		for at := range whole {
			sameRead(t, slices.Concat(whole[:at], whole[at+1:]), 0)
			sameRead(t, slices.Concat(whole[:at], whole[at:at+1], whole[at:]), 0)
		}
	}
}

// someEvent is bytes that are nearly an event's, told by bytes.
func someEvent(told []byte) []byte {
	e := api.Event{Kind: api.EKind(told[0] % 9), At: int64(told[1]) << (told[2] % 40), N: int(told[3] % 205), P: int(told[4] % 5), A: int64(told[5]) - 128, B: int64(told[6] % 22), S: string(told[8 : 8+told[7]%42])}
	for k, field := range []byte("NPABS") {
		if told[60+k]%2 == 0 {
			e = with(e, field, 0)
		}
	}
	return written(e)
}

func TestReadNoise(t *testing.T) {
	there := 0
	for seed := range uint64(20000) {
		b := noise(seed, int(seed%60))
		sameRead(t, b, int(seed%7)-1)
		for i := range b {
			b[i] %= 8
		}
		sameRead(t, b, 0)
		if sameRead(t, someEvent(noise(seed, 65)), 0) == api.OK {
			there++
		}
	}
	if there < 300 {
		t.Errorf("only %d events", there)
	}
}

func FuzzRead(f *testing.F) {
	for _, e := range append(ordinary(), longOne(), api.Event{}) {
		f.Add(written(e), 0)
	}
	f.Fuzz(func(t *testing.T, b []byte, at int) {
		sameRead(t, b, at)
	})
}
