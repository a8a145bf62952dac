package run_test

import (
	"fmt"
	"math/big"
	"slices"
	"strconv"
	"strings"
	"testing"

	"millwheel/api"
	"millwheel/program"
	"millwheel/run"
)

// What the tests hold a run against: the chapter's words, one by one. Numbers get as great as they get and are wrapped by a division, registers stand by their numbers, what is known is gone through for each wait, and signals are taken off their list.

const (
	mostPolicies = 20
	mostCmds     = 200
	mostFuel     = 10000
)

var words = strings.Fields("set move add sub mul less same jump unless act sleep child wait signal done fail")

// code reads instructions as the chapter writes them: a word, then A, B, C, N and S, of which the last ones may be left off.
func code(text string) []api.Instr {
	var all []api.Instr
	for _, line := range strings.Split(text, ";") {
		parts := append(strings.Fields(line), "", "", "", "", "")
		number := func(k int) int64 {
			if parts[k] == "" {
				return 0
			}
			n, err := strconv.ParseInt(parts[k], 10, 64)
			if err != nil {
				panic(err)
			}
			return n
		}
		op := slices.Index(words, parts[0]) + 1
		if op == 0 {
			panic("no such word: " + parts[0])
		}
		all = append(all, api.Instr{Op: api.IOp(op), A: int(number(1)), B: int(number(2)), C: int(number(3)), N: number(4), S: parts[5]})
	}
	return all
}

// of is a program of 16 registers.
func of(text string) api.Program {
	return api.Program{Name: "p", Regs: 16, Code: code(text)}
}

// wrapped is a number modulo 2^64, from -2^63 on and below 2^63.
func wrapped(n *big.Int) *big.Int {
	half, whole := new(big.Int).Lsh(big.NewInt(1), 63), new(big.Int).Lsh(big.NewInt(1), 64)
	n = new(big.Int).Add(n, half)
	n.Mod(n, whole)
	return n.Sub(n, half)
}

// bit is 1 of what holds, else 0.
func bit(holds bool) *big.Int {
	if holds {
		return big.NewInt(1)
	}
	return big.NewInt(0)
}

// follower follows a program word by word.
type follower struct {
	known   []api.Known
	signals []int64
	regs    map[int]*big.Int
	place   int
	stand   api.Stand
}

func (f *follower) get(k int) *big.Int {
	if n, ok := f.regs[k]; ok {
		return n
	}
	return new(big.Int)
}

func (f *follower) set(k int, n *big.Int) {
	f.regs[k] = wrapped(n)
}

// command begins one, or stands at too many.
func (f *follower) command(i api.Instr, c api.Cmd) bool {
	if len(f.stand.Cmds) == mostCmds {
		f.stand.At = api.AtMany
		return false
	}
	c.N = len(f.stand.Cmds) + 1
	f.stand.Cmds = append(f.stand.Cmds, c)
	f.set(i.A, big.NewInt(int64(c.N)))
	return true
}

func (f *follower) wait(i api.Instr) bool {
	n := f.get(i.B)
	has := slices.ContainsFunc(f.stand.Cmds, func(c api.Cmd) bool { return n.Cmp(big.NewInt(int64(c.N))) == 0 })
	if !has {
		f.set(i.A, big.NewInt(0))
		f.set(i.C, big.NewInt(api.Failed))
		return true
	}
	for _, k := range f.known {
		if n.Cmp(big.NewInt(int64(k.N))) == 0 {
			f.set(i.A, big.NewInt(k.Out.Value))
			f.set(i.C, big.NewInt(int64(k.Out.Status)))
			return true
		}
	}
	f.stand.At, f.stand.On = api.AtWait, int(n.Int64())
	return false
}

func (f *follower) signal(i api.Instr) bool {
	if len(f.signals) == 0 {
		f.stand.At = api.AtSignal
		return false
	}
	f.set(i.A, big.NewInt(f.signals[0]))
	f.signals = f.signals[1:]
	f.stand.Signals++
	return true
}

// does does one instruction, and tells whether it is a step that counts.
func (f *follower) does(i api.Instr) bool {
	b, c, made := f.get(i.B), f.get(i.C), new(big.Int)
	f.place++
	switch program.Word(i.Op) {
	case "set":
		f.set(i.A, big.NewInt(i.N))
	case "move":
		f.set(i.A, b)
	case "add":
		f.set(i.A, made.Add(b, c))
	case "sub":
		f.set(i.A, made.Sub(b, c))
	case "mul":
		f.set(i.A, made.Mul(b, c))
	case "less":
		f.set(i.A, bit(b.Cmp(c) < 0))
	case "same":
		f.set(i.A, bit(b.Cmp(c) == 0))
	case "jump":
		f.place = int(i.N)
	case "unless":
		if f.get(i.A).Sign() == 0 {
			f.place = int(i.N)
		}
	case "act":
		return f.command(i, api.Cmd{Kind: api.CAct, S: i.S, Arg: b.Int64(), Policy: i.C})
	case "sleep":
		if b.Sign() < 0 {
			b = new(big.Int)
		}
		return f.command(i, api.Cmd{Kind: api.CSleep, Arg: b.Int64()})
	case "child":
		return f.command(i, api.Cmd{Kind: api.CChild, S: i.S, Arg: b.Int64()})
	case "wait":
		return f.wait(i)
	case "signal":
		return f.signal(i)
	case "done":
		f.stand.At, f.stand.Out = api.AtEnd, api.Outcome{Status: api.Fine, Value: f.get(i.A).Int64()}
	case "fail":
		f.stand.At, f.stand.Out = api.AtEnd, api.Outcome{Status: api.Failed, Value: f.get(i.A).Int64()}
	}
	return true
}

// follow tells how a program stands, by the chapter's words.
func follow(p api.Program, arg int64, known []api.Known, signals []int64, fuel int) (api.Stand, api.Errno) {
	if program.Check(p, mostPolicies) != api.OK {
		return api.Stand{}, api.ErrProgram
	}
	if fuel < 0 || fuel > mostFuel {
		return api.Stand{}, api.ErrArg
	}
	f := &follower{known: known, signals: signals, regs: map[int]*big.Int{0: big.NewInt(arg)}}
	for f.stand.At == 0 {
		if f.stand.Steps+1 > fuel {
			f.stand.At = api.AtFuel
		} else if f.does(p.Code[f.place]) {
			f.stand.Steps++
		}
	}
	return f.stand, api.OK
}

// alike tells whether two stands are the same, an empty list being none.
func alike(a, b api.Stand) bool {
	return a.At == b.At && a.Out == b.Out && a.On == b.On && a.Signals == b.Signals && a.Steps == b.Steps && slices.Equal(a.Cmds, b.Cmds)
}

// told fails unless Run answers that the program stands so.
func told(t *testing.T, p api.Program, arg int64, known []api.Known, signals []int64, fuel int, want api.Stand) {
	t.Helper()
	if got, e := run.Run(p, arg, known, signals, fuel); e != api.OK || !alike(got, want) {
		t.Errorf("Run(%s, %d, %v, %v, %d):\n got %s, error %d\nwant %s", brief(p), arg, known, signals, fuel, short(got), e, short(want))
	}
}

// asTold fails unless Run answers what the words say, and answers that.
func asTold(t *testing.T, p api.Program, arg int64, known []api.Known, signals []int64, fuel int) api.Stand {
	t.Helper()
	got, e := run.Run(p, arg, known, signals, fuel)
	want, wantE := follow(p, arg, known, signals, fuel)
	if e != wantE || !alike(got, want) {
		t.Fatalf("Run(%s, %d, %v, %v, %d):\n got %s, error %d\nwant %s, error %d", brief(p), arg, known, signals, fuel, short(got), e, short(want), wantE)
	}
	return got
}

// refused fails unless Run answers that error alone.
func refused(t *testing.T, p api.Program, fuel int, want api.Errno) {
	t.Helper()
	got, e := run.Run(p, 7, []api.Known{fine(1, 7)}, []int64{7}, fuel)
	if e != want || !alike(got, api.Stand{}) || got.Cmds != nil {
		t.Errorf("Run(%s) with the fuel %d: %s, error %d; want error %d alone", brief(p), fuel, short(got), e, want)
	}
}

// ends fails unless a program ends fine with that number.
func ends(t *testing.T, p api.Program, arg int64, known []api.Known, signals []int64, want int64) {
	t.Helper()
	got, e := run.Run(p, arg, known, signals, mostFuel)
	if e != api.OK || got.At != api.AtEnd || got.Out != (api.Outcome{Status: api.Fine, Value: want}) {
		t.Errorf("Run(%s, %d, %v, %v): %s, error %d; want the end with %d", brief(p), arg, known, signals, short(got), e, want)
	}
}

func outcome(n, status int, value int64) api.Known {
	return api.Known{N: n, Out: api.Outcome{Status: status, Value: value}}
}

func fine(n int, value int64) api.Known {
	return outcome(n, api.Fine, value)
}

// brief tells a program in few words.
func brief(p api.Program) string {
	var lines []string
	for _, i := range p.Code[:min(len(p.Code), 30)] {
		lines = append(lines, program.Show(i))
	}
	return fmt.Sprintf("{%.50q %d, %d: %.700q}", p.Name, p.Regs, len(p.Code), strings.Join(lines, "; "))
}

// short tells a stand in few words.
func short(s api.Stand) string {
	return fmt.Sprintf("{at %d, out %v, on %d, signals %d, steps %d, %d commands %+v}", s.At, s.Out, s.On, s.Signals, s.Steps, len(s.Cmds), quoted(s.Cmds[:min(len(s.Cmds), 8)]))
}

// quoted are commands whose names may be printed, whatever bytes they have.
func quoted(cmds []api.Cmd) []api.Cmd {
	cmds = slices.Clone(cmds)
	for k := range cmds {
		cmds[k].S = strconv.Quote(cmds[k].S)
	}
	return cmds
}
