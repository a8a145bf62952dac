package program

import (
	"math"
	"slices"

	"millwheel/api"
	"millwheel/bytes"
)

// Bytes answers a program as bytes.
func Bytes(p api.Program) ([]byte, api.Errno) {
	if Check(p, api.MaxPolicies) != api.OK {
		return nil, api.ErrProgram
	}
	// Layer 1 copies what it adds to each time: so each instruction is written by itself, and all are joined at once.
	rows := make([][]byte, 0, 1+len(p.Code))
	rows = append(rows, headBytes(p))
	for _, i := range p.Code {
		rows = append(rows, instrBytes(i))
	}
	return slices.Concat(rows...), api.OK
}

// Read answers the program whose bytes b are.
func Read(b []byte) (api.Program, api.Errno) {
	r := &reader{b: b}
	p := r.program()
	if r.wrong || r.at != len(b) || Check(p, api.MaxPolicies) != api.OK {
		return api.Program{}, api.ErrProgram
	}
	return p, api.OK
}

// headBytes answers what stands ahead of a program's instructions.
func headBytes(p api.Program) []byte {
	row := bytes.Blob(nil, []byte(p.Name))
	row = bytes.Uint(row, uint64(p.Regs))
	return bytes.Uint(row, uint64(len(p.Code)))
}

func instrBytes(i api.Instr) []byte {
	row := bytes.Uint(nil, uint64(i.Op))
	row = bytes.Uint(row, uint64(i.A))
	row = bytes.Uint(row, uint64(i.B))
	row = bytes.Uint(row, uint64(i.C))
	row = bytes.Int(row, i.N)
	return bytes.Blob(row, []byte(i.S))
}

// reader reads bytes one thing behind the other. Once something was wrong all is 0 that it reads.
type reader struct {
	b     []byte
	at    int
	wrong bool
}

// program reads a program, that may be or not.
func (r *reader) program() api.Program {
	p := api.Program{Name: r.text(), Regs: r.number(api.MaxRegs)}
	for range r.number(api.MaxCode) {
		if r.wrong {
			break
		}
		p.Code = append(p.Code, r.instr())
	}
	return p
}

// instr reads an instruction. What no Op's field may be is wrong ahead of Check, where a type has no room for it.
func (r *reader) instr() api.Instr {
	return api.Instr{
		Op: api.IOp(r.number(math.MaxUint8)),
		A:  r.number(api.MaxRegs),
		B:  r.number(api.MaxRegs),
		C:  r.number(max(api.MaxRegs, api.MaxPolicies)),
		N:  r.signed(),
		S:  r.text(),
	}
}

// number reads a number without a sign that is at most so great.
func (r *reader) number(most uint64) int {
	if r.wrong {
		return 0
	}
	n, next, e := bytes.GetUint(r.b, r.at)
	if e != api.OK || n > most {
		r.wrong = true
		return 0
	}
	r.at = next
	return int(n)
}

func (r *reader) signed() int64 {
	if r.wrong {
		return 0
	}
	n, next, e := bytes.GetInt(r.b, r.at)
	r.at, r.wrong = next, e != api.OK
	return n
}

// text reads a text that is no longer than a name may be.
func (r *reader) text() string {
	if r.wrong {
		return ""
	}
	text, next, e := bytes.GetBlob(r.b, r.at, api.MaxText)
	r.at, r.wrong = next, e != api.OK
	return string(text)
}
