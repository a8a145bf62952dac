package program_test

import (
	"encoding/binary"
	"fmt"
	"reflect"
	"strings"
	"testing"

	"millwheel/api"
	"millwheel/program"
)

// What the tests hold the program against: the chapter's table, read as it stands there, and programs' bytes written and read by Go's own varints, which are layer 1's.

const (
	mostText     = 40
	mostRegs     = 16
	mostCode     = 500
	mostPolicies = 20
)

const chapter = `
| ISet | r | | | any | |
| IMove | r | r | | | |
| IAdd ISub IMul ILess ISame | r | r | r | | |
| IJump | | | | j | |
| IUnless | r | | | j | |
| IAct | r | r | a policy, from 0 on and below how many there are | | a name |
| ISleep | r | r | | | |
| IChild | r | r | | | a name |
| IWait | r | r | r | | |
| ISignal IDone IFail | r | | | | |
`

// names are the Ops' names, by their numbers.
var names = []string{"", "ISet", "IMove", "IAdd", "ISub", "IMul", "ILess", "ISame", "IJump", "IUnless", "IAct", "ISleep", "IChild", "IWait", "ISignal", "IDone", "IFail"}

// columns are what the chapter's table says of an Op's A, B, C, N and S; none, if it is none.
func columns(o api.IOp) []string {
	if o == 0 || int(o) >= len(names) {
		return nil
	}
	for _, line := range strings.Split(strings.TrimSpace(chapter), "\n") {
		cells := strings.Split(strings.Trim(line, "|"), "|")
		for _, n := range strings.Fields(cells[0]) {
			if n == names[o] {
				return cells[1:]
			}
		}
	}
	panic("the table has no " + names[o])
}

// fits tells whether a number is what a column says.
func fits(column string, n int64, regs, places, policies int) bool {
	switch strings.TrimSpace(column) {
	case "":
		return n == 0
	case "r":
		return 0 <= n && n < int64(regs)
	case "j":
		return 0 <= n && n < int64(places)
	case "any":
		return true
	case "a policy, from 0 on and below how many there are":
		return 0 <= n && n < int64(policies)
	}
	panic("no such column: " + column)
}

func isName(s string) bool {
	return s != "" && len(s) <= mostText
}

func instrMayBe(i api.Instr, regs, places, policies int) bool {
	c := columns(i.Op)
	if c == nil {
		return false
	}
	for k, n := range []int64{int64(i.A), int64(i.B), int64(i.C), i.N} {
		if !fits(c[k], n, regs, places, policies) {
			return false
		}
	}
	if strings.TrimSpace(c[4]) == "a name" {
		return isName(i.S)
	}
	return i.S == ""
}

// mayBe tells whether a program may be, by the chapter's words.
func mayBe(p api.Program, policies int) bool {
	if !isName(p.Name) || p.Regs < 1 || p.Regs > mostRegs || len(p.Code) < 1 || len(p.Code) > mostCode {
		return false
	}
	for _, i := range p.Code {
		if !instrMayBe(i, p.Regs, len(p.Code), policies) {
			return false
		}
	}
	last := names[p.Code[len(p.Code)-1].Op]
	return last == "IJump" || last == "IDone" || last == "IFail"
}

// check answers what Check is to say.
func check(p api.Program, policies int) api.Errno {
	if mayBe(p, policies) {
		return api.OK
	}
	return api.ErrProgram
}

// word is an Op's, as it is called.
func word(o api.IOp) string {
	if int(o) >= len(names) {
		return ""
	}
	return strings.ToLower(strings.TrimPrefix(names[o], "I"))
}

// show is an instruction's text.
func show(i api.Instr) string {
	w := word(i.Op)
	if w == "" {
		w = fmt.Sprintf("op%d", i.Op)
	}
	text := fmt.Sprintf("%s %d %d %d %d", w, i.A, i.B, i.C, i.N)
	if i.S != "" {
		text += " " + i.S
	}
	return text
}

func writtenText(out []byte, s string) []byte {
	return append(binary.AppendUvarint(out, uint64(len(s))), s...)
}

// written writes a program, that may be or not, as P9.2 tells it.
func written(p api.Program) []byte {
	out := writtenText(nil, p.Name)
	out = binary.AppendUvarint(out, uint64(p.Regs))
	out = binary.AppendUvarint(out, uint64(len(p.Code)))
	for _, i := range p.Code {
		for _, n := range []int{int(i.Op), i.A, i.B, i.C} {
			out = binary.AppendUvarint(out, uint64(n))
		}
		out = binary.AppendVarint(out, i.N)
		out = writtenText(out, i.S)
	}
	return out
}

// taker takes numbers and texts off bytes, however they are written, as far as there are some.
type taker struct {
	b    []byte
	lost bool
}

func (k *taker) number() uint64 {
	n, used := binary.Uvarint(k.b)
	if used <= 0 {
		k.b, k.lost = nil, true
		return 0
	}
	k.b = k.b[used:]
	return n
}

func (k *taker) text() string {
	n := k.number()
	if n > uint64(len(k.b)) {
		k.b, k.lost = nil, true
		return ""
	}
	s := string(k.b[:n])
	k.b = k.b[n:]
	return s
}

func (k *taker) signed() int64 {
	n, used := binary.Varint(k.b)
	if used <= 0 {
		k.b, k.lost = nil, true
		return 0
	}
	k.b = k.b[used:]
	return n
}

// read tells the program whose bytes b are: the one that they are read as, if it may be, and is written so.
func read(b []byte) (api.Program, api.Errno) {
	k := &taker{b: b}
	p := api.Program{Name: k.text(), Regs: int(k.number())}
	for n := k.number(); n > 0 && !k.lost; n-- {
		i := api.Instr{Op: api.IOp(k.number()), A: int(k.number()), B: int(k.number()), C: int(k.number())}
		i.N = k.signed()
		i.S = k.text()
		p.Code = append(p.Code, i)
	}
	if k.lost || !mayBe(p, mostPolicies) || string(written(p)) != string(b) {
		return api.Program{}, api.ErrProgram
	}
	return p, api.OK
}

// sameCheck fails unless Check says of a program what the words say.
func sameCheck(t *testing.T, p api.Program, policies int) {
	t.Helper()
	if got, want := program.Check(p, policies), check(p, policies); got != want {
		t.Errorf("Check(%s, %d): error %d, want %d", brief(p), policies, got, want)
	}
}

// sameBytes fails unless Bytes says of a program what the words say.
func sameBytes(t *testing.T, p api.Program) {
	t.Helper()
	b, e := program.Bytes(p)
	if check(p, mostPolicies) != api.OK {
		if b != nil || e != api.ErrProgram {
			t.Errorf("Bytes(%s): %v, error %d; want error %d alone", brief(p), b, e, api.ErrProgram)
		}
		return
	}
	if e != api.OK || string(b) != string(written(p)) {
		t.Errorf("Bytes(%s): %v, error %d; want %v", brief(p), b, e, written(p))
	}
}

// sameRead fails unless Read says of bytes what the words say.
func sameRead(t *testing.T, b []byte) {
	t.Helper()
	p, e := program.Read(b)
	want, wantE := read(b)
	if e != wantE || !reflect.DeepEqual(p, want) {
		t.Errorf("Read(%v): %s, error %d; want %s, error %d", b[:min(len(b), 80)], brief(p), e, brief(want), wantE)
	}
}

// brief tells a program in few words.
func brief(p api.Program) string {
	var code []string
	for _, i := range p.Code[:min(len(p.Code), 8)] {
		code = append(code, show(i))
	}
	return fmt.Sprintf("{%.50q %d, %d: %.300s}", p.Name, p.Regs, len(p.Code), strings.Join(code, "; "))
}
