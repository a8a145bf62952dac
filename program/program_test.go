package program_test

import (
	"encoding/binary"
	"math"
	"reflect"
	"slices"
	"strings"
	"testing"

	"millwheel/api"
	"millwheel/program"
)

// of is a program of so many registers.
func of(regs int, code ...api.Instr) api.Program {
	return api.Program{Name: "p", Regs: regs, Code: code}
}

// order is an ordinary program.
func order() api.Program {
	return api.Program{Name: "order", Regs: 3, Code: []api.Instr{
		{Op: api.IAct, A: 1, C: 2, S: "pay"},
		{Op: api.IWait, A: 0, B: 1, C: 2},
		{Op: api.IUnless, A: 2, N: 4},
		{Op: api.IFail, A: 2},
		{Op: api.IDone},
	}}
}

// every has an instruction of each Op, in a program of 16 registers that may be where there are 20 policies.
func every() api.Program {
	return of(16,
		api.Instr{Op: api.ISet, A: 15, N: math.MinInt64},
		api.Instr{Op: api.ISet, A: 0, N: math.MaxInt64},
		api.Instr{Op: api.IMove, A: 14, B: 15},
		api.Instr{Op: api.IAdd, A: 1, B: 2, C: 15},
		api.Instr{Op: api.ISub, A: 4, B: 5, C: 6},
		api.Instr{Op: api.IMul, A: 7, B: 8, C: 9},
		api.Instr{Op: api.ILess, A: 10, B: 11, C: 12},
		api.Instr{Op: api.ISame, A: 13, B: 14, C: 15},
		api.Instr{Op: api.IJump, N: 17},
		api.Instr{Op: api.IUnless, A: 15, N: 0},
		api.Instr{Op: api.IAct, A: 1, B: 2, C: 19, S: strings.Repeat("\xff", 40)},
		api.Instr{Op: api.ISleep, A: 1, B: 2},
		api.Instr{Op: api.IChild, A: 15, B: 15, S: "\x00"},
		api.Instr{Op: api.IWait, A: 15, B: 14, C: 13},
		api.Instr{Op: api.ISignal, A: 15},
		api.Instr{Op: api.IDone, A: 15},
		api.Instr{Op: api.IFail, A: 15},
		api.Instr{Op: api.IJump, N: 17},
	)
}

// long is a program of so many instructions, the last one done.
func long(n int) api.Program {
	p := of(2, slices.Repeat([]api.Instr{{Op: api.ISet, A: 1, N: -7}}, max(n, 1))...)
	p.Code[len(p.Code)-1] = api.Instr{Op: api.IDone}
	p.Code = p.Code[:n]
	return p
}

// with is a program, its place taken by another instruction.
func with(p api.Program, place int, i api.Instr) api.Program {
	p.Code = slices.Clone(p.Code)
	p.Code[place] = i
	return p
}

// right is an instruction of an Op that may be, of no fields but those that are named; there is a right one of each Op, wherever there is a register, a place and a policy.
func right(o api.IOp) api.Instr {
	i := api.Instr{Op: o}
	if o == api.IAct || o == api.IChild {
		i.S = "x"
	}
	return i
}

func mustBe(t *testing.T, p api.Program, policies int) {
	t.Helper()
	if e := program.Check(p, policies); e != api.OK {
		t.Errorf("Check(%s, %d): error %d", brief(p), policies, e)
	}
}

func mustNotBe(t *testing.T, p api.Program, policies int) {
	t.Helper()
	if e := program.Check(p, policies); e != api.ErrProgram {
		t.Errorf("Check(%s, %d): error %d, want %d", brief(p), policies, e, api.ErrProgram)
	}
}

// The chapter's examples.

func TestExamples(t *testing.T) {
	if s := program.Show(api.Instr{Op: api.IAdd, A: 2, B: 0, C: 1}); s != "add 2 0 1 0" {
		t.Errorf("Show of an add = %q", s)
	}
	if s := program.Show(api.Instr{Op: api.IAct, A: 1, B: 0, C: 2, N: 0, S: "pay"}); s != "act 1 0 2 0 pay" {
		t.Errorf("Show of an act = %q", s)
	}
	mustBe(t, of(1, api.Instr{Op: api.IDone}), 0)
	mustNotBe(t, of(1, api.Instr{Op: api.ISet}), 0)
	mustBe(t, of(1, api.Instr{Op: api.IJump}), 0)
}

// P9.1: Word and Show.

func TestWord(t *testing.T) {
	want := strings.Fields("set move add sub mul less same jump unless act sleep child wait signal done fail")
	for k, w := range want {
		if got := program.Word(api.IOp(k + 1)); got != w {
			t.Errorf("Word(%d) = %q, want %q", k+1, got, w)
		}
	}
	for o := range 256 {
		if o >= 1 && o <= len(want) {
			continue
		}
		if got := program.Word(api.IOp(o)); got != "" {
			t.Errorf("Word(%d) = %q, want none", o, got)
		}
	}
}

func TestShow(t *testing.T) {
	for _, x := range []struct {
		i    api.Instr
		want string
	}{
		{api.Instr{}, "op0 0 0 0 0"},
		{api.Instr{Op: 17}, "op17 0 0 0 0"},
		{api.Instr{Op: 255, A: 1, B: 2, C: 3, N: 4, S: "s"}, "op255 1 2 3 4 s"},
		{api.Instr{Op: api.ISet, A: 1, N: math.MinInt64}, "set 1 0 0 -9223372036854775808"},
		{api.Instr{Op: api.ISet, A: 1, N: math.MaxInt64}, "set 1 0 0 9223372036854775807"},
		{api.Instr{Op: api.IMove, A: -1, B: -20, C: math.MinInt, N: -4}, "move -1 -20 -9223372036854775808 -4"},
		{api.Instr{Op: api.IFail, A: math.MaxInt, B: 10, C: 100}, "fail 9223372036854775807 10 100 0"},
		{api.Instr{Op: api.IChild, S: " "}, "child 0 0 0 0  "},
		{api.Instr{Op: api.IChild, S: "a b\n\x00\xff"}, "child 0 0 0 0 a b\n\x00\xff"},
		{api.Instr{Op: api.IJump, N: 7, S: strings.Repeat("x", 100)}, "jump 0 0 0 7 " + strings.Repeat("x", 100)},
	} {
		if got := program.Show(x.i); got != x.want {
			t.Errorf("Show(%+v) = %q, want %q", x.i, got, x.want)
		}
	}
	for o := range 256 {
		for _, s := range []string{"", "pay"} {
			i := api.Instr{Op: api.IOp(o), A: o, B: -o, C: 7, N: int64(o) << 40, S: s}
			if got := program.Show(i); got != show(i) {
				t.Errorf("Show(%+v) = %q, want %q", i, got, show(i))
			}
		}
	}
}

// P9.1: Check.

func TestCheckOrdinary(t *testing.T) {
	mustBe(t, order(), 3)
	mustNotBe(t, order(), 2)
	mustBe(t, every(), 20)
	mustNotBe(t, every(), 19)
}

func TestCheckName(t *testing.T) {
	for n, want := range map[int]bool{0: false, 1: true, 2: true, 39: true, 40: true, 41: false, 1000: false} {
		for _, one := range []string{"p", "\x00", "\xff", " ", "\n"} {
			p := order()
			p.Name = strings.Repeat(one, n)
			if got := program.Check(p, 3) == api.OK; got != want {
				t.Errorf("Check of a name of %d bytes: %v", n, got)
			}
		}
	}
	// It is bytes that count, not letters.
	p := order()
	p.Name = strings.Repeat("ä", 20)
	mustBe(t, p, 3)
	p.Name += "a"
	mustNotBe(t, p, 3)
}

func TestCheckRegs(t *testing.T) {
	for _, regs := range []int{1, 2, 15, 16} {
		mustBe(t, of(regs, api.Instr{Op: api.IDone}), 0)
		mustBe(t, of(regs, api.Instr{Op: api.IJump}), 0)
	}
	// A jump asks for no register: what is refused there is the count alone.
	for _, regs := range []int{0, 17, 18, 256, 1 << 32, 1<<32 + 1, math.MaxInt, -1, -16, math.MinInt} {
		mustNotBe(t, of(regs, api.Instr{Op: api.IDone}), 0)
		mustNotBe(t, of(regs, api.Instr{Op: api.IJump}), 0)
	}
}

func TestCheckCount(t *testing.T) {
	for _, n := range []int{1, 2, 3, 255, 256, 257, 499, 500} {
		mustBe(t, long(n), 0)
	}
	for _, n := range []int{0, 501, 502, 1000, 70000} {
		mustNotBe(t, long(n), 0)
	}
}

func TestCheckOfNothing(t *testing.T) {
	for _, policies := range []int{math.MinInt, -1, 0, 1, 20, math.MaxInt} {
		mustNotBe(t, api.Program{}, policies)
		mustNotBe(t, api.Program{Name: "p"}, policies)
		mustNotBe(t, api.Program{Regs: 1}, policies)
		mustNotBe(t, api.Program{Code: []api.Instr{{Op: api.IDone}}}, policies)
		mustNotBe(t, api.Program{Name: "p", Code: []api.Instr{{Op: api.IDone}}}, policies)
		mustNotBe(t, api.Program{Regs: 1, Code: []api.Instr{{Op: api.IDone}}}, policies)
		mustNotBe(t, api.Program{Name: "p", Regs: 1}, policies)
		mustNotBe(t, api.Program{Name: "p", Regs: 1, Code: []api.Instr{}}, policies)
	}
}

func TestCheckOp(t *testing.T) {
	for o := range 256 {
		p := with(order(), 1, right(api.IOp(o)))
		sameCheck(t, p, 3)
		if o == 0 || o > 16 {
			mustNotBe(t, p, 3)
		} else {
			mustBe(t, p, 3)
		}
	}
}

func TestCheckLast(t *testing.T) {
	for o := range 256 {
		p := with(order(), 4, right(api.IOp(o)))
		if ends := o == int(api.IJump) || o == int(api.IDone) || o == int(api.IFail); ends {
			mustBe(t, p, 3)
		} else {
			mustNotBe(t, p, 3)
		}
	}
}

func TestCheckJumpAtItself(t *testing.T) {
	mustBe(t, of(1, api.Instr{Op: api.IJump, N: 0}), 0)
	mustBe(t, of(1, api.Instr{Op: api.IUnless, N: 0}, api.Instr{Op: api.IJump, N: 1}), 0)
	mustNotBe(t, of(1, api.Instr{Op: api.IJump, N: 1}), 0)
}

func TestCheckPolicies(t *testing.T) {
	act := func(policy int) api.Program {
		return of(1, api.Instr{Op: api.IAct, C: policy, S: "x"}, api.Instr{Op: api.IDone})
	}
	for _, policies := range []int{1, 2, 3, 20, 21, 1000, math.MaxInt} {
		mustBe(t, act(0), policies)
		mustBe(t, act(policies-1), policies)
		mustNotBe(t, act(policies), policies)
		mustNotBe(t, act(-1), policies)
		mustNotBe(t, act(math.MinInt), policies)
	}
	for _, policies := range []int{0, -1, -20, math.MinInt} {
		for _, policy := range []int{-21, -1, 0, 1, policies, policies - 1, math.MinInt, math.MaxInt} {
			mustNotBe(t, act(policy), policies)
		}
		mustBe(t, of(1, api.Instr{Op: api.IDone}), policies)
	}
}

// ends are numbers at, and on both sides of, the ends of what fields may be, far past them, and such as are right ones if they are cut down to fewer bits.
func ends(regs, places, policies int) []int64 {
	all := []int64{math.MinInt64, math.MinInt64 + 1, math.MinInt32, -256, -2, -1, 0, 1, 2, 255, 256, 1 << 16, 1 << 31, 1 << 32, 1<<32 + 1, 1 << 62, math.MaxInt64 - 1, math.MaxInt64}
	for _, n := range []int{regs, places, policies} {
		all = append(all, int64(n)-1, int64(n), int64(n)+1, -int64(n))
	}
	return all
}

// fields calls show with an instruction, one of whose fields has another value: each field, each of its ends.
func fields(i api.Instr, regs, places, policies int, show func(api.Instr)) {
	for _, n := range ends(regs, places, policies) {
		a, b, c, d := i, i, i, i
		a.A, b.B, c.C, d.N = int(n), int(n), int(n), n
		for _, x := range []api.Instr{a, b, c, d} {
			show(x)
		}
	}
	for _, n := range []int{0, 1, 2, 39, 40, 41, 42, 256, 257, 1000} {
		i.S = strings.Repeat("s", n)
		show(i)
	}
}

func TestCheckFields(t *testing.T) {
	for _, base := range []api.Program{long(1), long(2), order(), every(), long(500)} {
		for _, policies := range []int{0, 1, 3, 20, 25} {
			for o := range 18 {
				fields(right(api.IOp(o)), base.Regs, len(base.Code), policies, func(i api.Instr) {
					sameCheck(t, with(base, 0, i), policies)
				})
			}
		}
	}
}

func TestCheckFieldsOfMany(t *testing.T) {
	for o := range 18 {
		told := noise(uint64(o), 6*3000)
		for len(told) > 0 {
			i := api.Instr{Op: api.IOp(o), A: int(told[0]%5) - 1, B: int(told[1]%5) - 1, C: int(told[2]%5) - 1, N: int64(told[3]%5) - 1, S: strings.Repeat("x", int(told[4]%2))}
			sameCheck(t, with(order(), 2, i), int(told[5]%5)-1)
			told = told[6:]
		}
	}
}

// one wrong instruction is enough, wherever it stands.
func TestCheckLooksAtAll(t *testing.T) {
	p := long(500)
	for place := range p.Code {
		mustNotBe(t, with(p, place, api.Instr{Op: api.IDone, A: 2}), 20)
		mustBe(t, with(p, place, api.Instr{Op: api.IDone, A: 1}), 20)
		mustBe(t, with(p, place, api.Instr{Op: api.IJump, N: 499}), 20)
		mustNotBe(t, with(p, place, api.Instr{Op: api.IJump, N: 500}), 20)
	}
}

// P9.2: Bytes.

func TestBytesByHand(t *testing.T) {
	for _, x := range []struct {
		p    api.Program
		want string
	}{
		{of(1, api.Instr{Op: api.IDone}), "\x01p\x01\x01\x0f\x00\x00\x00\x00\x00"},
		{of(3, api.Instr{Op: api.ISet, A: 2, N: -64}, api.Instr{Op: api.IFail, A: 1}), "\x01p\x03\x02\x01\x02\x00\x00\x7f\x00\x10\x01\x00\x00\x00\x00"},
		{of(3, api.Instr{Op: api.IAct, A: 2, B: 1, C: 19, S: "pay"}, api.Instr{Op: api.IJump, N: 1}), "\x01p\x03\x02\x0a\x02\x01\x13\x00\x03pay\x08\x00\x00\x00\x02\x00"},
	} {
		b, e := program.Bytes(x.p)
		if e != api.OK || string(b) != x.want {
			t.Errorf("Bytes(%s): %q, error %d; want %q", brief(x.p), b, e, x.want)
		}
		p, e := program.Read([]byte(x.want))
		if e != api.OK || !reflect.DeepEqual(p, x.p) {
			t.Errorf("Read(%q): %s, error %d; want %s", x.want, brief(p), e, brief(x.p))
		}
	}
}

func TestBytes(t *testing.T) {
	named := order()
	named.Name = strings.Repeat("\xfe", 40)
	for _, p := range []api.Program{order(), every(), named, long(1), long(127), long(128), long(499), long(500)} {
		mustBe(t, p, mostPolicies)
		sameBytes(t, p)
	}
}

func TestBytesRefuses(t *testing.T) {
	nameless, long41 := order(), order()
	nameless.Name, long41.Name = "", strings.Repeat("n", 41)
	bare := order()
	bare.Regs = 0
	act := func(policy int) api.Program {
		return of(1, api.Instr{Op: api.IAct, C: policy, S: "x"}, api.Instr{Op: api.IDone})
	}
	for _, p := range []api.Program{{}, nameless, long41, bare, of(17, api.Instr{Op: api.IDone}), of(1), long(0), long(501), act(20), act(21), act(-1), of(1, api.Instr{Op: api.ISet})} {
		if b, e := program.Bytes(p); b != nil || e != api.ErrProgram {
			t.Errorf("Bytes(%s): %v, error %d; want error %d alone", brief(p), b, e, api.ErrProgram)
		}
	}
	// Check with more policies says yes of one that has no bytes.
	mustBe(t, act(20), 21)
	sameBytes(t, act(19))
}

func TestBytesOfFields(t *testing.T) {
	for _, base := range []api.Program{long(2), order(), long(500)} {
		for o := range 18 {
			fields(right(api.IOp(o)), base.Regs, len(base.Code), mostPolicies, func(i api.Instr) {
				sameBytes(t, with(base, 0, i))
			})
		}
	}
}

// P9.2: Read.

func TestReadNothing(t *testing.T) {
	for _, b := range [][]byte{nil, {}, {0}, {1}, {0, 0, 0}, {0, 1, 1}} {
		if p, e := program.Read(b); e != api.ErrProgram || !reflect.DeepEqual(p, api.Program{}) {
			t.Errorf("Read(%v): %s, error %d; want error %d alone", b, brief(p), e, api.ErrProgram)
		}
	}
}

func TestReadCut(t *testing.T) {
	for _, p := range []api.Program{order(), every(), long(130)} {
		whole := written(p)
		for n := range whole {
			sameRead(t, whole[:n])
			if _, e := program.Read(whole[:n]); e != api.ErrProgram {
				t.Errorf("Read of the first %d bytes of %s: error %d", n, brief(p), e)
			}
		}
		sameRead(t, whole)
	}
}

func TestReadOneMore(t *testing.T) {
	for _, p := range []api.Program{order(), every(), long(500)} {
		whole := written(p)
		for _, one := range []byte{0, 1, 128, 255} {
			for _, b := range [][]byte{append(slices.Clone(whole), one), append([]byte{one}, whole...)} {
				sameRead(t, b)
				if _, e := program.Read(b); e != api.ErrProgram {
					t.Errorf("Read with %d more: error %d", one, e)
				}
			}
		}
		sameRead(t, slices.Concat(whole, whole))
	}
}

func TestReadEachByteAnother(t *testing.T) {
	for _, p := range []api.Program{order(), every()} {
		whole := written(p)
		for at := range whole {
			for one := range 256 {
				b := slices.Clone(whole)
				b[at] = byte(one)
				sameRead(t, b)
			}
		}
	}
}

func TestReadEachByteStruckOutOrDoubled(t *testing.T) {
	for _, p := range []api.Program{order(), every()} {
		whole := written(p)
		for at := range whole {
			sameRead(t, slices.Concat(whole[:at], whole[at+1:]))
			sameRead(t, slices.Concat(whole[:at], whole[at:at+1], whole[at:]))
		}
	}
}

// wrongNumbers are ones too great for wherever they are put, among them such as are right ones if they are cut down to 8, 32 or 63 bits; and numbers written longer than they need to be, or cut off by a 0.
func wrongNumbers() [][]byte {
	all := [][]byte{{0x80, 0}, {0x81, 0}, {0x80, 0x80, 0}, {0x81, 0x80, 0x80, 0x80, 0x80, 0x80, 0x80, 0x80, 0x80, 0}, {0x81, 0x80, 0x80, 0x80, 0x80, 0x80, 0x80, 0x80, 0x80, 2}, slices.Repeat([]byte{0x80}, 10), slices.Repeat([]byte{0xff}, 12)}
	for _, n := range []uint64{501, 512, 1 << 16, 1<<31 - 1, 1 << 31, 1 << 32, 1<<63 - 1, 1 << 63, math.MaxUint64 - 1, math.MaxUint64} {
		all = append(all, binary.AppendUvarint(nil, n))
	}
	for small := range uint64(20) {
		for _, n := range []uint64{256, 1 << 16, 1 << 32, 1 << 63} {
			all = append(all, binary.AppendUvarint(nil, n+small))
		}
	}
	return all
}

// Of each number and each length of a program one after the other has wrong bytes in its stead.
func TestReadWrongNumbers(t *testing.T) {
	// The places of what is written as one byte and is no text's.
	whole := written(order())
	places := []int{0, 6, 7}
	for at := 8; at < len(whole); {
		places = append(places, at, at+1, at+2, at+3, at+4, at+5)
		at += 6 + int(whole[at+5])
	}
	if len(places) != 3+6*5 {
		t.Fatalf("places: %v", places)
	}
	for _, at := range places {
		for _, wrong := range wrongNumbers() {
			b := slices.Concat(whole[:at], wrong, whole[at+1:])
			sameRead(t, b)
			if _, e := program.Read(b); e != api.ErrProgram {
				t.Errorf("Read with %v at %d: error %d", wrong, at, e)
			}
		}
	}
}

func TestReadOpsThatAreCutDown(t *testing.T) {
	// Ops of 256 and more are none, even if a type of 8 bits would take them for some.
	for o := range uint64(1030) {
		b := slices.Concat([]byte("\x01p\x01\x01"), binary.AppendUvarint(nil, o), []byte{0, 0, 0, 0, 0})
		p, e := program.Read(b)
		if good := o == 8 || o == 15 || o == 16; good != (e == api.OK) || good && p.Code[0].Op != api.IOp(o) {
			t.Errorf("Read of the op %d: %s, error %d", o, brief(p), e)
		}
	}
}

func TestReadWhatMayNotBe(t *testing.T) {
	act := func(policy int) api.Program {
		return of(1, api.Instr{Op: api.IAct, C: policy, S: "x"}, api.Instr{Op: api.IDone})
	}
	nameless, named := order(), order()
	nameless.Name, named.Name = "", strings.Repeat("n", 41)
	for _, p := range []api.Program{{}, nameless, named, of(0, api.Instr{Op: api.IDone}), of(17, api.Instr{Op: api.IDone}), of(1), long(501), long(1000), of(1, api.Instr{Op: api.ISet}), act(20), act(256), act(-1), of(-1, api.Instr{Op: api.IDone}), of(1, api.Instr{Op: api.IDone, S: "x"}), of(1, api.Instr{Op: api.IDone, S: strings.Repeat("x", 41)})} {
		got, e := program.Read(written(p))
		if e != api.ErrProgram || !reflect.DeepEqual(got, api.Program{}) {
			t.Errorf("Read of the bytes of %s: %s, error %d; want error %d alone", brief(p), brief(got), e, api.ErrProgram)
		}
	}
	for _, base := range []api.Program{long(2), order()} {
		for o := range 18 {
			fields(right(api.IOp(o)), base.Regs, len(base.Code), mostPolicies, func(i api.Instr) {
				sameRead(t, written(with(base, 0, i)))
			})
		}
	}
}

// P9.3.

// some is a program that may be, told by bytes.
func some(told []byte) api.Program {
	at := 0
	below := func(n int) int {
		at++
		return int(told[at%len(told)]) % n
	}
	p := api.Program{Name: strings.Repeat("n", 1+below(40)), Regs: 1 + below(16)}
	count := 1 + below(30)
	for k := range count {
		i := api.Instr{Op: api.IOp(1 + below(16))}
		if k == count-1 {
			i.Op = []api.IOp{api.IJump, api.IDone, api.IFail}[below(3)]
		}
		for c, text := range columns(i.Op) {
			switch text = strings.TrimSpace(text); {
			case text == "r":
				*[]*int{&i.A, &i.B, &i.C}[c] = below(p.Regs)
			case text == "j":
				i.N = int64(below(count))
			case text == "any":
				i.N = (int64(below(256)) - 128) << below(57)
			case text == "a name":
				i.S = strings.Repeat(string(rune('a'+below(3))), 1+below(40))
			case text != "":
				i.C = below(20)
			}
		}
		p.Code = append(p.Code, i)
	}
	return p
}

// there fails unless a program's bytes are read as that program.
func there(t *testing.T, p api.Program) []byte {
	t.Helper()
	b, e := program.Bytes(p)
	if e != api.OK {
		t.Fatalf("Bytes(%s): error %d", brief(p), e)
	}
	got, e := program.Read(b)
	if e != api.OK || !reflect.DeepEqual(got, p) {
		t.Fatalf("Read(Bytes(%s)): %s, error %d", brief(p), brief(got), e)
	}
	return b
}

func TestReadIsWhatWasWritten(t *testing.T) {
	for _, p := range []api.Program{order(), every(), long(1), long(128), long(500)} {
		there(t, p)
	}
	for seed := range uint64(3000) {
		p := some(noise(seed, 200))
		mustBe(t, p, mostPolicies)
		sameBytes(t, p)
		there(t, p)
	}
}

func TestUnlikeProgramsHaveUnlikeBytes(t *testing.T) {
	seen := map[string]api.Program{}
	look := func(p api.Program) {
		if check(p, mostPolicies) != api.OK {
			return
		}
		b := string(there(t, p))
		if other, ok := seen[b]; ok && !reflect.DeepEqual(other, p) {
			t.Errorf("%s and %s have the bytes %q", brief(other), brief(p), b)
		}
		seen[b] = p
	}
	for _, base := range []api.Program{order(), every(), long(2)} {
		for o := range 18 {
			fields(right(api.IOp(o)), base.Regs, len(base.Code), mostPolicies, func(i api.Instr) {
				look(with(base, 0, i))
			})
		}
		for n := range 42 {
			p := base
			p.Name = strings.Repeat("n", n)
			look(p)
			p.Name, p.Regs = base.Name, n
			look(p)
		}
	}
	if len(seen) < 150 {
		t.Errorf("only %d programs", len(seen))
	}
}

// R3 and R4.

// whatIsLent is a program in memory that has room behind it.
func whatIsLent(p api.Program) (api.Program, []api.Instr) {
	room := append(slices.Clone(p.Code), slices.Repeat([]api.Instr{{Op: 77, A: 77, S: "room"}}, 20)...)
	p.Code = room[:len(p.Code)]
	return p, room
}

func TestWhatIsHandedInStaysAsItIs(t *testing.T) {
	for _, p := range []api.Program{order(), every(), long(501), of(1, api.Instr{Op: 99})} {
		lent, room := whatIsLent(p)
		was := slices.Clone(room)
		program.Check(lent, 20)
		program.Bytes(lent)
		if !reflect.DeepEqual(room, was) || lent.Name != p.Name || lent.Regs != p.Regs {
			t.Errorf("%s was changed: %s", brief(p), brief(lent))
		}
		b := append(written(p), slices.Repeat([]byte{0xEE}, 20)...)
		whole := string(b)
		program.Read(b[:len(b)-20])
		if string(b) != whole {
			t.Errorf("the bytes of %s were changed", brief(p))
		}
	}
}

func TestWhatIsHandedInIsNotKept(t *testing.T) {
	p := every()
	b, _ := program.Bytes(p)
	want := string(written(p))
	clear(p.Code)
	if string(b) != want {
		t.Errorf("Bytes, the program written over: %q", b)
	}
	got, _ := program.Read(b)
	clear(b)
	if !reflect.DeepEqual(got, every()) {
		t.Errorf("Read, the bytes written over: %s", brief(got))
	}
}

func TestWhatIsHandedOutIsNew(t *testing.T) {
	p := every()
	b, _ := program.Bytes(p)
	again, _ := program.Bytes(p)
	clear(b[:cap(b)])
	if string(again) != string(written(p)) {
		t.Errorf("Bytes, another answer written over: %q", again)
	}
	if !reflect.DeepEqual(p, every()) {
		t.Errorf("the program, its bytes written over: %s", brief(p))
	}
	first, _ := program.Read(again)
	second, _ := program.Read(again)
	clear(first.Code[:cap(first.Code)])
	if !reflect.DeepEqual(second, p) || string(again) != string(written(p)) {
		t.Errorf("Read, another answer written over: %s, %q", brief(second), again)
	}
}

func TestTwiceIsTheSame(t *testing.T) {
	for seed := range uint64(50) {
		p := some(noise(seed, 200))
		first, _ := program.Bytes(p)
		mustNotBe(t, of(1), 0)
		second, _ := program.Bytes(p)
		if string(first) != string(second) {
			t.Errorf("Bytes(%s), twice: %q, %q", brief(p), first, second)
		}
	}
}

// noise is bytes in no order, the same for a seed each time.
func noise(seed uint64, n int) []byte {
	b := make([]byte, n)
	x := seed*2862933555777941757 + 3037000493
	for i := range b {
		x ^= x << 13
		x ^= x >> 7
		x ^= x << 17
		b[i] = byte(x >> 32)
	}
	return b
}

func TestReadNoise(t *testing.T) {
	for seed := range uint64(20000) {
		b := noise(seed, int(seed%60))
		sameRead(t, b)
		for i := range b {
			b[i] %= 20
		}
		sameRead(t, b)
	}
}

func FuzzRead(f *testing.F) {
	for _, p := range []api.Program{order(), every(), long(3)} {
		f.Add(written(p))
	}
	f.Fuzz(func(t *testing.T, b []byte) {
		sameRead(t, b)
	})
}
