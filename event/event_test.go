package event_test

import (
	"math"
	"slices"
	"strings"
	"testing"

	"millwheel/api"
	"millwheel/event"
)

// ordinary has an event of each kind, and of each P of an EBegin.
func ordinary() []api.Event {
	return []api.Event{
		{Kind: api.EStart, At: 3, A: -5, S: "order"},
		{Kind: api.EBegin, At: 300, N: 1, P: int(api.CAct), A: -7, B: 3, S: "pay"},
		{Kind: api.EBegin, At: 300, N: 2, P: int(api.CSleep), A: 90},
		{Kind: api.EBegin, At: 301, N: 130, P: int(api.CChild), A: -6, S: "ship"},
		{Kind: api.ETry, At: 302, N: 1, P: 2},
		{Kind: api.EOver, At: 1 << 30, N: 1, P: api.Failed, A: 1 << 40},
		{Kind: api.ESignal, At: 1 << 31, A: -64},
		{Kind: api.EStop, At: 1 << 32},
		{Kind: api.EClose, At: 1 << 39, P: api.Stopped, A: -1},
	}
}

// with is an event, a field of it put to a number; S to a text of so many bytes.
func with(e api.Event, field byte, n int64) api.Event {
	switch field {
	case 't':
		e.At = n
	case 'N':
		e.N = int(n)
	case 'P':
		e.P = int(n)
	case 'A':
		e.A = n
	case 'B':
		e.B = n
	case 'S':
		e.S = strings.Repeat("s", int(n))
	}
	return e
}

// edge is what a field may be, and what not.
type edge struct {
	good, bad []int64
}

// The chapter's examples.

func TestExamples(t *testing.T) {
	start := api.Event{Kind: api.EStart, At: 3, A: 5, S: "p"}
	if b, e := event.Bytes(nil, start); e != api.OK || !slices.Equal(b, []byte{1, 3, 0, 0, 10, 0, 1, 112}) {
		t.Errorf("an EStart's bytes: %v, error %d", b, e)
	}
	if got, next, e := event.Read([]byte{1, 3, 0, 0, 10, 0, 1, 112}, 0); e != api.OK || next != 8 || got != start {
		t.Errorf("an EStart, read: %s, %d, error %d", brief(got), next, e)
	}
	signal := api.Event{Kind: api.ESignal, A: -1}
	if b, e := event.Bytes(nil, signal); e != api.OK || !slices.Equal(b, []byte{5, 0, 0, 0, 1, 0, 0}) {
		t.Errorf("an ESignal's bytes: %v, error %d", b, e)
	}
	if got, next, e := event.Read([]byte{5, 0, 0, 0, 1, 0, 0}, 0); e != api.OK || next != 7 || got != signal {
		t.Errorf("an ESignal, read: %s, %d, error %d", brief(got), next, e)
	}
	try := api.Event{Kind: api.ETry, N: 1, P: 1}
	if !event.Right(try) || event.Right(with(try, 'A', 1)) {
		t.Errorf("an ETry: %v; with A 1: %v", event.Right(try), event.Right(with(try, 'A', 1)))
	}
}

// P11.1: Right.

func TestRightOrdinary(t *testing.T) {
	for _, e := range ordinary() {
		if !event.Right(e) {
			t.Errorf("Right(%s): false", brief(e))
		}
		sameRight(t, e)
	}
}

func TestNothingIsNotRight(t *testing.T) {
	for _, e := range []api.Event{{}, {S: "p"}, {At: 1}, {N: 1, P: 1}, {Kind: api.EStart}, {Kind: api.EBegin}, {Kind: api.EBegin, N: 1}, {Kind: api.EBegin, P: 2}, {Kind: api.ETry}, {Kind: api.ETry, N: 1}, {Kind: api.ETry, P: 1}, {Kind: api.EOver}} {
		if event.Right(e) {
			t.Errorf("Right(%s): true", brief(e))
		}
		sameRight(t, e)
	}
	for _, kind := range []api.EKind{api.ESignal, api.EStop, api.EClose} {
		if !event.Right(api.Event{Kind: kind}) {
			t.Errorf("Right of the kind %d alone: false", kind)
		}
	}
}

func TestRightEachField(t *testing.T) {
	none := edge{[]int64{0}, []int64{math.MinInt64, -256, -1, 1, 2, 3, 40, 256, 1 << 32, math.MaxInt64}}
	noText := edge{[]int64{0}, []int64{1, 2, 40, 41, 256}}
	all := edge{[]int64{math.MinInt64, math.MinInt64 + 1, -1<<62 - 1, -1, 0, 1, 1<<62 + 1, math.MaxInt64}, nil}
	number := edge{[]int64{1, 2, 127, 128, 199, 200}, []int64{math.MinInt64, -200, -1, 0, 201, 202, 257, 1<<32 + 1, math.MaxInt64}}
	name := edge{[]int64{1, 2, 39, 40}, []int64{0, 41, 42, 256, 257, 1 << 16}}
	status := edge{[]int64{0, 1, 2, 3}, []int64{math.MinInt64, -1, 4, 5, 256, 257, 1 << 32, math.MaxInt64}}
	// An act of the policy 0 and a child have the same fields.
	act, sleep, child := edge{[]int64{1}, nil}, edge{[]int64{2}, nil}, edge{[]int64{1, 3}, nil}
	for _, p := range []int64{math.MinInt64, -255, -1, 0, 1, 2, 3, 4, 5, 257, 258, 259, 1<<32 + 1, 1<<32 + 2, 1<<32 + 3, math.MaxInt64} {
		for _, one := range []*edge{&act, &sleep, &child} {
			if !slices.Contains(one.good, p) {
				one.bad = append(one.bad, p)
			}
		}
	}
	policy := edge{[]int64{0, 1, 18, 19}, []int64{math.MinInt64, -1, 20, 21, 256, 1 << 32, math.MaxInt64}}
	fromNought := edge{[]int64{0, 1, 1 << 40, 1<<40 + 1, 1<<62 + 1, math.MaxInt64}, []int64{-1, -2, math.MinInt64}}
	tries := edge{[]int64{1, 2, 99, 100}, []int64{math.MinInt64, -1, 0, 101, 102, 257, 1<<32 + 1, math.MaxInt64}}
	tick := edge{[]int64{0, 1, 1<<40 - 1, 1 << 40}, []int64{math.MinInt64, -1 << 40, -1, 1<<40 + 1, 1 << 41, math.MaxInt64}}
	says := [][5]edge{ // of N, P, A, B, S
		{none, none, all, none, name},
		{number, act, all, policy, name},
		{number, sleep, fromNought, none, noText},
		{number, child, all, none, name},
		{number, tries, none, none, noText},
		{number, status, all, none, noText},
		{none, none, all, none, noText},
		{none, none, none, none, noText},
		{none, status, all, none, noText},
	}
	for k, e := range ordinary() {
		edgesHold(t, e, 't', tick)
		for at, one := range says[k] {
			edgesHold(t, e, "NPABS"[at], one)
		}
	}
}

// edgesHold fails unless an event is right with each good number in a field, and with no bad one.
func edgesHold(t *testing.T, e api.Event, field byte, one edge) {
	t.Helper()
	for _, n := range one.good {
		if x := with(e, field, n); !event.Right(x) {
			t.Errorf("Right(%s), %c being %d: false", brief(x), field, n)
		}
		sameRight(t, with(e, field, n))
	}
	for _, n := range one.bad {
		if x := with(e, field, n); event.Right(x) {
			t.Errorf("Right(%s), %c being %d: true", brief(x), field, n)
		}
		sameRight(t, with(e, field, n))
	}
}

func TestKindsThatAreNone(t *testing.T) {
	for kind := range 256 {
		some := false
		for _, e := range ordinary() {
			e.Kind = api.EKind(kind)
			some = sameRight(t, e) || some
		}
		if some != (kind >= 1 && kind <= 7) {
			t.Errorf("the kind %d: %v", kind, some)
		}
		if e := (api.Event{Kind: api.EKind(kind)}); event.Right(e) != (kind >= 5 && kind <= 7) {
			t.Errorf("Right(%s): %v", brief(e), event.Right(e))
		}
	}
}

func TestRightAllEdgesAtOnce(t *testing.T) {
	there := 0
	each(func(e api.Event) {
		if sameRight(t, e) {
			there++
		}
	})
	// Counted by hand: three ticks, two numbers and two names of each row are right.
	if want := 3 * (5*2 + 2*5*2*2 + 2*3 + 2*5*2 + 2*5 + 2*4*5 + 5 + 1 + 4*5); there != want {
		t.Errorf("%d events are right, want %d", there, want)
	}
}

func TestNamesAreBytes(t *testing.T) {
	for _, name := range []string{"\x00", "\xff", " ", "\n", strings.Repeat("\xff", 40), strings.Repeat("ä", 20)} {
		e := api.Event{Kind: api.EStart, S: name}
		if !event.Right(e) {
			t.Errorf("Right(%s): false", brief(e))
		}
		readAgain(t, e)
		if e.S = strings.Repeat("ä", 20) + "a"; event.Right(e) {
			t.Errorf("Right(%s): true", brief(e))
		}
	}
}

// P11.1: Bytes.

func TestBytes(t *testing.T) {
	forty := strings.Repeat("s", 40)
	for _, x := range []struct {
		e    api.Event
		want string
	}{
		{ordinary()[0], "\x01\x03\x00\x00\x09\x00\x05order"},
		{ordinary()[1], "\x02\xac\x02\x01\x01\x0d\x03\x03pay"},
		{ordinary()[2], "\x02\xac\x02\x02\x02\xb4\x01\x00\x00"},
		{ordinary()[3], "\x02\xad\x02\x82\x01\x03\x0b\x00\x04ship"},
		{ordinary()[4], "\x03\xae\x02\x01\x02\x00\x00\x00"},
		{ordinary()[5], "\x04\x80\x80\x80\x80\x04\x01\x01\x80\x80\x80\x80\x80\x40\x00\x00"},
		{ordinary()[6], "\x05\x80\x80\x80\x80\x08\x00\x00\x7f\x00\x00"},
		{ordinary()[7], "\x06\x80\x80\x80\x80\x10\x00\x00\x00\x00\x00"},
		{ordinary()[8], "\x07\x80\x80\x80\x80\x80\x10\x00\x03\x01\x00\x00"},
		{api.Event{Kind: api.ESignal, At: 1 << 40, A: math.MaxInt64}, "\x05\x80\x80\x80\x80\x80\x20\x00\x00\xfe\xff\xff\xff\xff\xff\xff\xff\xff\x01\x00\x00"},
		{api.Event{Kind: api.ESignal, A: math.MinInt64}, "\x05\x00\x00\x00\xff\xff\xff\xff\xff\xff\xff\xff\xff\x01\x00\x00"},
		{api.Event{Kind: api.EBegin, N: 200, P: 1, B: 19, S: forty}, "\x02\x00\xc8\x01\x01\x00\x13\x28" + forty},
	} {
		for _, out := range []string{"", "\x00", "\x01\x03\x00\x00\x09\x00\x05order", strings.Repeat("\xff", 300)} {
			b, e := event.Bytes([]byte(out), x.e)
			if e != api.OK || string(b) != out+x.want {
				t.Errorf("Bytes(%q, %s): %q, error %d; want %q behind it", out, brief(x.e), b, e, x.want)
			}
		}
		if b, e := event.Bytes(nil, x.e); e != api.OK || string(b) != x.want {
			t.Errorf("Bytes(%s): %q, error %d; want %q", brief(x.e), b, e, x.want)
		}
	}
}

func TestBytesOfWhatIsNotRight(t *testing.T) {
	for _, e := range []api.Event{{}, {Kind: 8, S: "p"}, {Kind: api.EStart}, {Kind: api.EStop, At: -1}, {Kind: api.EStop, A: 1}, {Kind: api.EStop, S: "s"}, {Kind: api.EStart, S: strings.Repeat("p", 41)}} {
		for _, out := range [][]byte{nil, {}, {1, 2, 3}} {
			if b, err := event.Bytes(out, e); err != api.ErrEvent || b != nil {
				t.Errorf("Bytes(%v, %s): %v, error %d; want error %d alone", out, brief(e), b, err, api.ErrEvent)
			}
		}
	}
}

// R3 and R4.

func TestWhatIsHandedInStaysAsItIs(t *testing.T) {
	for _, e := range append(ordinary(), api.Event{}) {
		room := slices.Repeat([]byte{0xEE}, 60)
		event.Bytes(room[:20], e)
		if !slices.Equal(room, slices.Repeat([]byte{0xEE}, 60)) {
			t.Errorf("what %s was put behind, and its room: %v", brief(e), room)
		}
		b := append(written(e), 0xEE, 0xEE)
		whole := string(b)
		event.Read(b[:len(b)-2], 0)
		if string(b) != whole {
			t.Errorf("the bytes of %s were changed: %v", brief(e), b)
		}
	}
}

func TestWhatIsHandedInIsNotKept(t *testing.T) {
	for _, e := range ordinary() {
		b := written(e)
		got, _, _ := event.Read(b, 0)
		clear(b)
		if got != e {
			t.Errorf("%s, its bytes written over: %s", brief(e), brief(got))
		}
		out := []byte("ahead")
		whole, _ := event.Bytes(out, e)
		clear(out)
		if string(whole) != "ahead"+string(written(e)) {
			t.Errorf("the bytes of %s, those ahead written over: %q", brief(e), whole)
		}
	}
}

func TestWhatIsHandedOutIsNew(t *testing.T) {
	for _, e := range ordinary() {
		out := append(make([]byte, 0, 100), "ahead"...)
		first, _ := event.Bytes(out, e)
		second, _ := event.Bytes(out, e)
		clear(first[:cap(first)])
		if string(second) != "ahead"+string(written(e)) || string(out) != "ahead" {
			t.Errorf("the bytes of %s, another answer written over: %q behind %q", brief(e), second, out)
		}
	}
}

func TestTwiceIsTheSame(t *testing.T) {
	for _, e := range ordinary() {
		first, _ := event.Bytes(nil, e)
		event.Bytes(nil, api.Event{Kind: 77, S: "none"})
		event.Read([]byte{1, 2, 0x80, 0}, 0)
		second, _ := event.Bytes(nil, e)
		if string(first) != string(second) || !event.Right(e) {
			t.Errorf("Bytes(%s), twice: %v, %v", brief(e), first, second)
		}
	}
}
