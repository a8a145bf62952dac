package run_test

import (
	"fmt"
	"math"
	"math/big"
	"slices"
	"strings"
	"testing"

	"millwheel/api"
	"millwheel/run"
)

// numbers are those at which something may turn: both ends, what wraps, what is cut down to fewer bits.
func numbers() []int64 {
	return []int64{
		math.MinInt64, math.MinInt64 + 1, math.MinInt64 / 2, math.MinInt32 - 1, math.MinInt32, -3037000500, -1 << 16, -3, -2, -1,
		0, 1, 2, 3, 199, 200, 201, 255, 256, 1 << 16, math.MaxInt32, math.MaxInt32 + 1, 3037000500, 1 << 32, 1<<32 + 1, 1 << 62, math.MaxInt64/2 + 1, math.MaxInt64 - 1, math.MaxInt64,
	}
}

// The chapter's examples.

const paid = "act 1 0 0 0 pay; wait 0 1 2; done 0"

func TestExamples(t *testing.T) {
	pay := []api.Cmd{{N: 1, Kind: api.CAct, S: "pay", Arg: 5}}
	told(t, of(paid), 5, nil, nil, mostFuel, api.Stand{At: api.AtWait, On: 1, Cmds: pay, Steps: 1})
	told(t, of(paid), 5, []api.Known{fine(1, 7)}, nil, mostFuel, api.Stand{At: api.AtEnd, Out: api.Outcome{Value: 7}, Cmds: pay, Steps: 3})
	told(t, of("jump"), 5, nil, nil, mostFuel, api.Stand{At: api.AtFuel, Steps: mostFuel})
	told(t, of(paid), 5, nil, nil, 1, api.Stand{At: api.AtFuel, Cmds: pay, Steps: 1})
	ends(t, of("wait 1 0 2; done 2"), 0, nil, nil, api.Failed)
}

// P10.1: errors.

// policy20 names a policy of which there are none, however many there are.
func policy20() api.Program {
	return of("act 0 0 20 0 x; done")
}

func TestProgramThatMayNotBe(t *testing.T) {
	long := of("done")
	long.Code = slices.Repeat(long.Code, 501)
	nameless, named, bare, wide := of("done"), of("done"), of("done"), of("done")
	nameless.Name, named.Name = "", strings.Repeat("n", 41)
	bare.Regs, wide.Regs = 0, 17
	none := of("done")
	none.Code[0].Op = 17
	for _, p := range []api.Program{
		{}, {Name: "p", Regs: 1}, {Name: "p", Code: code("done")}, {Regs: 1, Code: code("done")},
		policy20(), of("act 0 0 -1 0 x; done"), long, nameless, named, bare, wide, none,
		of("set"), of("unless"), of("done 16"), of("done -1"), of("move 0 16; done"), of("add 0 0 16; done"), of("wait 0 0 -1; done"),
		of("jump 0 0 0 1"), of("jump 0 0 0 -1"), of("unless 0 0 0 2; done"), of("act; done"), of("child; done"), of("sleep 0 0 1; done"), of("done 0 0 0 0 x"),
	} {
		for _, fuel := range []int{0, 1, mostFuel} {
			refused(t, p, fuel, api.ErrProgram)
		}
	}
	// 19 is the last policy that may be named.
	told(t, of("act 3 0 19 0 x; done"), 5, nil, nil, 2, api.Stand{At: api.AtEnd, Out: api.Outcome{Value: 5}, Cmds: []api.Cmd{{N: 1, Kind: api.CAct, S: "x", Arg: 5, Policy: 19}}, Steps: 2})
}

func TestFuelThatMayNotBe(t *testing.T) {
	for _, fuel := range []int{math.MinInt, math.MinInt64 + 1, -mostFuel, -2, -1, mostFuel + 1, mostFuel + 2, 1 << 32, math.MaxInt - 1, math.MaxInt} {
		for _, p := range []api.Program{of("done"), of("jump"), of(paid), of("signal; done")} {
			refused(t, p, fuel, api.ErrArg)
		}
		// The program counts first.
		refused(t, api.Program{}, fuel, api.ErrProgram)
		refused(t, policy20(), fuel, api.ErrProgram)
	}
}

// P10.1: fuel.

func TestFuel(t *testing.T) {
	for _, fuel := range []int{0, 1, 2, 3, 255, 256, 9999, 10000} {
		told(t, of("jump"), 5, nil, nil, fuel, api.Stand{At: api.AtFuel, Steps: fuel})
		told(t, of("set; jump"), 5, nil, nil, fuel, api.Stand{At: api.AtFuel, Steps: fuel})
	}
	// None at all: not even the first step is asked for.
	for _, text := range []string{"done", "fail", "signal; done", "act 0 0 0 0 x; done", "wait; done", "set; done"} {
		told(t, of(text), 5, nil, nil, 0, api.Stand{At: api.AtFuel})
	}
	for _, text := range []string{"done", "fail"} {
		want := api.Outcome{Status: slices.Index([]string{"done", "fail"}, text), Value: 5}
		for _, fuel := range []int{1, 2, 9999, 10000} {
			told(t, of(text), 5, nil, nil, fuel, api.Stand{At: api.AtEnd, Out: want, Steps: 1})
		}
	}
}

// TestMostSteps: of all the fuel that there may be each step is done, and no one more.
func TestMostSteps(t *testing.T) {
	// Two steps, then three a round, but for the last one, that lacks its jump.
	rounds := func(n int, last string) api.Program {
		return of(fmt.Sprintf("set 1 0 0 %d; set 2 0 0 1; sub 1 1 2; unless 1 0 0 5; jump 0 0 0 2; ", n) + last)
	}
	atEnd := api.Stand{At: api.AtEnd, Out: api.Outcome{Value: 5}, Steps: mostFuel}
	told(t, rounds(3332, "set 9; set 9; done"), 5, nil, nil, mostFuel, atEnd)
	told(t, rounds(3332, "set 9; set 9; done"), 5, nil, nil, mostFuel-1, api.Stand{At: api.AtFuel, Steps: mostFuel - 1})
	for _, last := range []string{"done", "signal; done"} {
		told(t, rounds(3333, last), 5, nil, nil, mostFuel, api.Stand{At: api.AtFuel, Steps: mostFuel})
	}
	told(t, rounds(3332, "set 9; set 9; signal; done"), 5, nil, nil, mostFuel, api.Stand{At: api.AtSignal, Steps: mostFuel - 1})
	told(t, rounds(3332, "set 9; set 9; signal; done"), 5, nil, nil, mostFuel-1, api.Stand{At: api.AtFuel, Steps: mostFuel - 1})
}

// TestFuelAheadOfAStepThatIsNotDone: without fuel for it, it is not asked what that step would be; with fuel for one step, it stands there, and that one is not counted.
func TestFuelAheadOfAStepThatIsNotDone(t *testing.T) {
	cmd := []api.Cmd{{N: 1, Kind: api.CSleep, Arg: 5}}
	for _, x := range []struct {
		text  string
		steps int
		want  api.Stand
	}{
		{"sleep 1 0; wait 2 1 3; done", 1, api.Stand{At: api.AtWait, On: 1, Cmds: cmd, Steps: 1}},
		{"sleep 1 0; set 2; wait 2 1 3; done", 2, api.Stand{At: api.AtWait, On: 1, Cmds: cmd, Steps: 2}},
		{"signal; done", 0, api.Stand{At: api.AtSignal}},
		{"set 2; set 2; signal; done", 2, api.Stand{At: api.AtSignal, Steps: 2}},
	} {
		for fuel := range x.steps + 4 {
			want := x.want
			if fuel <= x.steps {
				want = api.Stand{At: api.AtFuel, Cmds: cmd[:min(len(x.want.Cmds), fuel)], Steps: fuel}
			}
			told(t, of(x.text), 5, nil, nil, fuel, want)
		}
	}
	for fuel := 398; fuel < 404; fuel++ {
		got, e := run.Run(of("sleep; jump"), 5, nil, nil, fuel)
		at := api.AtFuel
		if fuel > 400 {
			at = api.AtMany
		}
		if e != api.OK || got.At != at || got.Steps != min(fuel, 400) || len(got.Cmds) != min((fuel+1)/2, 200) {
			t.Errorf("fuel %d: %s, error %d", fuel, short(got), e)
		}
	}
}

// P10.1: registers and the instructions that are for them.

func TestRegistersAtFirst(t *testing.T) {
	for _, arg := range numbers() {
		for k := range 16 {
			want := int64(0)
			if k == 0 {
				want = arg
			}
			ends(t, of(fmt.Sprintf("done %d", k)), arg, nil, nil, want)
		}
	}
	// One register is the argument's.
	p := of("done")
	p.Regs = 1
	ends(t, p, -9, nil, nil, -9)
}

func TestSet(t *testing.T) {
	for _, n := range numbers() {
		for k := range 16 {
			ends(t, of(fmt.Sprintf("set %d 0 0 %d; done %d", k, n, k)), 5, nil, nil, n)
			// The next register is as it was.
			ends(t, of(fmt.Sprintf("set %d 0 0 %d; done %d", k, n, (k+1)%16)), 5, nil, nil, []int64{0, 5}[k/15])
		}
	}
}

func TestMove(t *testing.T) {
	for _, n := range numbers() {
		ends(t, of("move 15 0; set 0 0 0 1; done 15"), n, nil, nil, n)
		ends(t, of("move 15 0; done 0"), n, nil, nil, n)
		ends(t, of("move 0 0; done 0"), n, nil, nil, n)
		ends(t, of("move 0 1; done 0"), n, nil, nil, 0)
	}
}

// signs tell what a sign of two numbers comes to.
var signs = map[string]func(b, c *big.Int) *big.Int{
	"add":  func(b, c *big.Int) *big.Int { return wrapped(new(big.Int).Add(b, c)) },
	"sub":  func(b, c *big.Int) *big.Int { return wrapped(new(big.Int).Sub(b, c)) },
	"mul":  func(b, c *big.Int) *big.Int { return wrapped(new(big.Int).Mul(b, c)) },
	"less": func(b, c *big.Int) *big.Int { return bit(b.Cmp(c) < 0) },
	"same": func(b, c *big.Int) *big.Int { return bit(b.Cmp(c) == 0) },
}

func TestSigns(t *testing.T) {
	for sign, does := range signs {
		for _, b := range numbers() {
			for _, c := range numbers() {
				want := does(big.NewInt(b), big.NewInt(c)).Int64()
				// The registers are one, or two, or three; in each case both numbers are taken ahead of the answer being put.
				for _, a := range []int{1, 2, 3} {
					text := fmt.Sprintf("set 1 0 0 %d; set 2 0 0 %d; %s %d 1 2; done %d", b, c, sign, a, a)
					ends(t, of(text), 5, nil, nil, want)
				}
			}
			want := does(big.NewInt(b), big.NewInt(b)).Int64()
			ends(t, of(sign+" 1 0 0; done 1"), b, nil, nil, want)
			ends(t, of(sign+" 0 0 0; done 0"), b, nil, nil, want)
		}
	}
}

func TestNumbersWrap(t *testing.T) {
	const least, most = math.MinInt64, math.MaxInt64
	for _, x := range []struct {
		sign       string
		b, c, want int64
	}{
		{"add", most, 1, least}, {"add", least, -1, most}, {"add", most, most, -2}, {"add", least, least, 0}, {"add", most, least, -1}, {"add", most, 0, most},
		{"sub", least, 1, most}, {"sub", most, -1, least}, {"sub", 0, least, least}, {"sub", least, most, 1}, {"sub", most, least, -1}, {"sub", least, least, 0},
		{"mul", most, 2, -2}, {"mul", least, 2, 0}, {"mul", least, -1, least}, {"mul", most, -1, least + 1}, {"mul", most, most, 1}, {"mul", least, least, 0}, {"mul", least, most, least}, {"mul", 1 << 32, 1 << 31, least}, {"mul", 1 << 32, 1 << 32, 0}, {"mul", 3037000500, 3037000500, -9223372036709301616},
		{"less", least, most, 1}, {"less", most, least, 0}, {"less", least, least, 0}, {"less", least, least + 1, 1}, {"less", -1, 0, 1}, {"less", 0, -1, 0}, {"less", 1 << 32, 1, 0},
		{"same", least, most, 0}, {"same", least, least, 1}, {"same", most, most, 1}, {"same", 1 << 32, 0, 0}, {"same", 0, 0, 1}, {"same", -1, 1, 0},
	} {
		ends(t, of(fmt.Sprintf("set 1 0 0 %d; %s 2 0 1; done 2", x.c, x.sign)), x.b, nil, nil, x.want)
	}
}

func TestJump(t *testing.T) {
	ends(t, of("jump 0 0 0 2; fail; done"), 5, nil, nil, 5)
	ends(t, of("jump 0 0 0 1; done"), 5, nil, nil, 5)
	ends(t, of("jump 0 0 0 3; set 0 0 0 9; done; jump 0 0 0 1"), 5, nil, nil, 9)
	// Over all there may be.
	p := of("jump 0 0 0 499")
	p.Code = append(p.Code, slices.Repeat(code("fail"), 498)...)
	p.Code = append(p.Code, code("done")...)
	told(t, p, 5, nil, nil, 2, api.Stand{At: api.AtEnd, Out: api.Outcome{Value: 5}, Steps: 2})
	// At itself, from behind others.
	told(t, of("set; set; jump 0 0 0 2"), 5, nil, nil, 77, api.Stand{At: api.AtFuel, Steps: 77})
	told(t, of("set; jump 0 0 0 1; done"), 5, nil, nil, 77, api.Stand{At: api.AtFuel, Steps: 77})
}

func TestUnless(t *testing.T) {
	for _, n := range numbers() {
		out := api.Outcome{Status: api.Failed, Value: n}
		if n == 0 {
			out.Status = api.Fine
		}
		told(t, of("unless 0 0 0 2; fail; done"), n, nil, nil, 9, api.Stand{At: api.AtEnd, Out: out, Steps: 2})
	}
	// At itself; it changes nothing; at the next place it is the same either way.
	told(t, of("unless 1; done"), 5, nil, nil, 77, api.Stand{At: api.AtFuel, Steps: 77})
	for _, n := range []int64{-1, 0, 1} {
		ends(t, of("unless 0 0 0 1; done"), n, nil, nil, n)
	}
}

// P10.1: commands.

func TestCommands(t *testing.T) {
	want := []api.Cmd{
		{N: 1, Kind: api.CAct, S: "pay", Arg: 5, Policy: 2},
		{N: 2, Kind: api.CSleep, Arg: 5},
		{N: 3, Kind: api.CChild, S: "q", Arg: 5},
		{N: 4, Kind: api.CAct, S: "a", Arg: 1, Policy: 0},
		{N: 5, Kind: api.CChild, S: "pay", Arg: 2},
	}
	p := of("act 1 0 2 0 pay; sleep 2 0; child 3 0 0 0 q; act 4 1 0 0 a; child 5 2 0 0 pay; set 6 0 0 10000; mul 1 1 6; set 6 0 0 1000; mul 2 2 6; set 6 0 0 100; mul 3 3 6; set 6 0 0 10; mul 4 4 6; add 1 1 2; add 1 1 3; add 1 1 4; add 1 1 5; done 1")
	told(t, p, 5, nil, nil, 99, api.Stand{At: api.AtEnd, Out: api.Outcome{Value: 12345}, Cmds: want, Steps: 18})
	// What is known of them changes nothing of how they begin.
	told(t, p, 5, []api.Known{outcome(1, api.Failed, 1), fine(2, 2), fine(5, 9)}, []int64{3}, 99, api.Stand{At: api.AtEnd, Out: api.Outcome{Value: 12345}, Cmds: want, Steps: 18})
}

func TestCommandsTakeTheirArgumentAheadOfTheNumber(t *testing.T) {
	for _, n := range numbers() {
		for _, x := range []struct {
			text string
			want api.Cmd
		}{
			{"act 0 0 7 0 x", api.Cmd{N: 1, Kind: api.CAct, S: "x", Arg: n, Policy: 7}},
			{"sleep 0 0", api.Cmd{N: 1, Kind: api.CSleep, Arg: max(n, 0)}},
			{"child 0 0 0 0 x", api.Cmd{N: 1, Kind: api.CChild, S: "x", Arg: n}},
		} {
			told(t, of(x.text+"; done"), n, nil, nil, 2, api.Stand{At: api.AtEnd, Out: api.Outcome{Value: 1}, Cmds: []api.Cmd{x.want}, Steps: 2})
			// Of two registers the one that is given stays.
			p := of(strings.Replace(x.text, " 0 ", " 1 ", 1) + "; done")
			told(t, p, n, nil, nil, 2, api.Stand{At: api.AtEnd, Out: api.Outcome{Value: n}, Cmds: []api.Cmd{x.want}, Steps: 2})
		}
	}
}

func TestNamesAndPolicies(t *testing.T) {
	for _, s := range []string{"x", "\x00", "\xff", strings.Repeat("ä", 20), strings.Repeat("n", 40)} {
		for policy := range 20 {
			p := of("act 0 0 0 0 x; child 0 0 0 0 x; done")
			p.Code[0].S, p.Code[0].C, p.Code[1].S = s, policy, s
			told(t, p, 5, nil, nil, 3, api.Stand{At: api.AtEnd, Out: api.Outcome{Value: 2}, Cmds: []api.Cmd{{N: 1, Kind: api.CAct, S: s, Arg: 5, Policy: policy}, {N: 2, Kind: api.CChild, S: s, Arg: 1}}, Steps: 3})
		}
	}
}

func TestSleepBelowNought(t *testing.T) {
	for n, want := range map[int64]int64{math.MinInt64: 0, -1 << 32: 0, -2: 0, -1: 0, 0: 0, 1: 1, 2: 2, 1 << 32: 1 << 32, math.MaxInt64: math.MaxInt64} {
		told(t, of("sleep 1 0; done"), n, nil, nil, 2, api.Stand{At: api.AtEnd, Out: api.Outcome{Value: n}, Cmds: []api.Cmd{{N: 1, Kind: api.CSleep, Arg: want}}, Steps: 2})
	}
}

// begins is a program that begins so many commands by turns, and ends with the last one's number.
func begins(n int) api.Program {
	return of(fmt.Sprintf("set 1 0 0 %d; set 2 0 0 1; act 3 1 1 0 x; sub 1 1 2; unless 1 0 0 13; sleep 3 1; sub 1 1 2; unless 1 0 0 13; child 3 1 0 0 y; sub 1 1 2; unless 1 0 0 13; jump 0 0 0 2; fail; done 3", n))
}

func TestAsManyAsMayBe(t *testing.T) {
	var want []api.Cmd
	for n := 1; n <= 300; n++ {
		kind := api.CmdKind((n-1)%3 + 1)
		want = append(want, api.Cmd{N: n, Kind: kind, S: []string{"x", "", "y"}[kind-1], Policy: []int{1, 0, 0}[kind-1]})
	}
	for _, n := range []int{1, 2, 3, 100, 198, 199, 200, 201, 202, 203, 300} {
		for k := range want {
			want[k].Arg = int64(n - k)
		}
		// Two steps ahead, three a command, one more for each jump back, and the end.
		stand := api.Stand{At: api.AtEnd, Out: api.Outcome{Value: int64(n)}, Cmds: want[:min(n, 200)], Steps: 2 + 3*n + (n-1)/3 + 1}
		if n > 200 {
			stand = api.Stand{At: api.AtMany, Cmds: want[:200], Steps: 2 + 3*200 + 200/3}
		}
		told(t, begins(n), 5, nil, nil, mostFuel, stand)
		asTold(t, begins(n), 5, nil, nil, mostFuel)
	}
}

func TestTooManyOfEachKind(t *testing.T) {
	for _, one := range []string{"act 0 0 0 0 x", "sleep", "child 0 0 0 0 x"} {
		for _, count := range []int{199, 200, 201, 250} {
			p := of("done")
			p.Code = append(slices.Repeat(code(one), count), p.Code...)
			got := asTold(t, p, 5, nil, nil, mostFuel)
			if count > 200 {
				if got.At != api.AtMany || len(got.Cmds) != 200 || got.Steps != 200 || got.Out != (api.Outcome{}) || got.On != 0 {
					t.Errorf("%d of %s: %s", count, one, short(got))
				}
			} else if got.At != api.AtEnd || len(got.Cmds) != count || got.Steps != count+1 || got.Out.Value != int64(count) {
				t.Errorf("%d of %s: %s", count, one, short(got))
			}
		}
	}
}

// P10.1: waits.

func TestWaitOfWhatNoCommandHas(t *testing.T) {
	known := []api.Known{fine(0, 70), fine(-1, 71), fine(1, 72), fine(2, 73), fine(3, 74), fine(201, 75), fine(math.MinInt, 76), fine(math.MaxInt, 77), fine(1<<32+1, 78)}
	for _, n := range append(numbers(), 4, 1<<32+2, -1<<32+1) {
		if n == 1 || n == 2 {
			continue
		}
		for _, k := range [][]api.Known{nil, known} {
			// Two commands have begun; both registers had something.
			text := fmt.Sprintf("sleep 9; sleep 9; set 1 0 0 %d; set 2 0 0 66; set 3 0 0 66; wait 2 1 3; ", n)
			ends(t, of(text+"done 2"), 5, k, nil, 0)
			ends(t, of(text+"done 3"), 5, k, nil, api.Failed)
			ends(t, of(text+"done 1"), 5, k, nil, n)
			told(t, of(text+"done 2"), 5, k, nil, 9, api.Stand{At: api.AtEnd, Cmds: []api.Cmd{{N: 1, Kind: api.CSleep, Arg: 5}, {N: 2, Kind: api.CSleep, Arg: 5}}, Steps: 7})
		}
	}
}

// TestWaitOfWhatNoCommandHasYet: what is told of a number counts from its command on, and not ahead.
func TestWaitOfWhatNoCommandHasYet(t *testing.T) {
	text := "set 1 0 0 1; wait 2 1 3; sleep 1; wait 4 1 5; "
	for k, want := range map[int]int64{2: 0, 3: api.Failed, 4: 7, 5: api.TimedOut} {
		ends(t, of(text+fmt.Sprintf("done %d", k)), 5, []api.Known{outcome(1, api.TimedOut, 7)}, nil, want)
	}
	told(t, of(text+"done"), 5, nil, nil, 9, api.Stand{At: api.AtWait, On: 1, Cmds: []api.Cmd{{N: 1, Kind: api.CSleep, Arg: 5}}, Steps: 3})
}

func TestWaitOfWhatIsKnown(t *testing.T) {
	for _, status := range []int{api.Fine, api.Failed, api.TimedOut, api.Stopped, 4, -1, 255, 1 << 32, math.MinInt, math.MaxInt} {
		for _, value := range numbers() {
			known := []api.Known{outcome(1, status, value)}
			for _, one := range []string{"act 1 0 0 0 x", "sleep 1 0", "child 1 0 0 0 x"} {
				ends(t, of(one+"; wait 2 1 3; done 2"), 5, known, nil, value)
				ends(t, of(one+"; wait 2 1 3; done 3"), 5, known, nil, int64(status))
				ends(t, of(one+"; wait 2 1 3; done 1"), 5, known, nil, 1)
			}
		}
	}
}

// TestWaitIntoOneRegister: the value is put first, then the status over it; the number is asked ahead of both.
func TestWaitIntoOneRegister(t *testing.T) {
	known := []api.Known{outcome(1, api.Stopped, 70), outcome(2, api.TimedOut, 80)}
	for _, x := range []struct {
		text string
		want int64
	}{
		{"wait 3 2 3; done 3", api.TimedOut},
		{"wait 2 2 2; done 2", api.TimedOut},
		{"wait 2 2 3; done 2", 80},
		{"wait 2 2 3; done 3", api.TimedOut},
		{"wait 3 2 2; done 2", api.TimedOut},
		{"wait 3 2 2; done 3", 80},
		{"wait 9 8 9; done 9", api.Failed},
		{"wait 9 9 9; done 9", api.Failed},
		{"wait 9 9 8; done 9", 0},
		{"wait 8 9 9; done 9", api.Failed},
	} {
		ends(t, of("sleep 1; sleep 2; "+x.text), 5, known, nil, x.want)
	}
}

func TestWaitOfWhatIsKnownTwice(t *testing.T) {
	known := []api.Known{fine(2, 20), outcome(1, api.Failed, 10), fine(1, 11), outcome(2, api.Stopped, 21), fine(1, 12), outcome(1, api.Failed, 10)}
	text := "sleep 1; sleep 2; wait 1 1 3; wait 2 2 4; "
	for k, want := range []int64{5, 10, 20, api.Failed, api.Fine} {
		ends(t, of(text+fmt.Sprintf("done %d", k)), 5, known, nil, want)
	}
	// Also of 0 and nothing, which is as much an outcome as another.
	ends(t, of("sleep 1; wait 2 1 3; done 2"), 5, []api.Known{fine(1, 0), fine(1, 9)}, nil, 0)
	ends(t, of("sleep 1; wait 2 1 3; done 3"), 5, []api.Known{fine(1, 0), outcome(1, api.Failed, 9)}, nil, api.Fine)
}

// TestWaitTwice: an outcome is not used up.
func TestWaitTwice(t *testing.T) {
	ends(t, of("sleep 1; wait 2 1 3; wait 4 1 5; add 2 2 4; done 2"), 5, []api.Known{fine(1, 21)}, nil, 42)
}

func TestWaitOfEachNumber(t *testing.T) {
	p := begins(200)
	p.Code = append(p.Code[:13], code("move 4 0; wait 5 4 6; done 5")...)
	whole := asTold(t, begins(200), 0, nil, nil, mostFuel)
	var known []api.Known
	for n := range 202 {
		known = append(known, fine(n, int64(1000+n)))
	}
	for n := 1; n <= 200; n++ {
		atWait := api.Stand{At: api.AtWait, On: n, Cmds: whole.Cmds, Steps: whole.Steps}
		told(t, p, int64(n), nil, nil, mostFuel, atWait)
		told(t, p, int64(n), slices.Delete(slices.Clone(known), n, n+1), nil, mostFuel, atWait)
		ends(t, p, int64(n), known, nil, int64(1000+n))
		ends(t, p, int64(n), known[n:n+1], nil, int64(1000+n))
	}
}

// TestOutcomesOfNoCommand: however many there are, they count for nothing.
func TestOutcomesOfNoCommand(t *testing.T) {
	var known []api.Known
	for n := range 1 << 18 {
		known = append(known, fine(-n, 1), fine(201+n, 2), fine(n<<32+1<<32+1, 3))
	}
	told(t, of("sleep 1; wait 2 1 3; done 2"), 5, known, nil, 9, api.Stand{At: api.AtWait, On: 1, Cmds: []api.Cmd{{N: 1, Kind: api.CSleep, Arg: 5}}, Steps: 1})
	known = append(known, fine(1, 7))
	ends(t, of("sleep 1; wait 2 1 3; done 2"), 5, known, nil, 7)
	// Asked for as often as may be.
	told(t, of("sleep 1; wait 2 1 3; jump 0 0 0 1"), 5, known, nil, mostFuel, api.Stand{At: api.AtFuel, Cmds: []api.Cmd{{N: 1, Kind: api.CSleep, Arg: 5}}, Steps: mostFuel})
}

// P10.1: signals.

func TestSignals(t *testing.T) {
	// Three are taken, and weighed by their place.
	text := "set 9 0 0 1000; signal 1; signal 2; signal 3; mul 1 1 9; add 1 1 2; mul 1 1 9; add 1 1 3; done 1"
	signals := []int64{1, 2, 3, 4, 5}
	for n := range 3 {
		told(t, of(text), 5, nil, signals[:n], 99, api.Stand{At: api.AtSignal, Signals: n, Steps: 1 + n})
	}
	for n := 3; n <= 5; n++ {
		told(t, of(text), 5, nil, signals[:n], 99, api.Stand{At: api.AtEnd, Out: api.Outcome{Value: 1002003}, Signals: 3, Steps: 9})
	}
	for _, n := range numbers() {
		ends(t, of("signal 0; done 0"), 5, nil, []int64{n}, n)
		ends(t, of("signal 0; signal 0; done 0"), 5, nil, []int64{8, n}, n)
		ends(t, of("signal 15; done 0"), 5, nil, []int64{n}, 5)
	}
	// None are asked for.
	told(t, of("done"), 5, nil, signals, 99, api.Stand{At: api.AtEnd, Out: api.Outcome{Value: 5}, Steps: 1})
}

func TestAsManySignalsAsThereIsFuelFor(t *testing.T) {
	signals := slices.Repeat([]int64{3}, 20000)
	told(t, of("signal; jump"), 5, nil, signals, mostFuel, api.Stand{At: api.AtFuel, Signals: 5000, Steps: mostFuel})
	told(t, of("signal; jump"), 5, nil, signals[:5000], mostFuel, api.Stand{At: api.AtFuel, Signals: 5000, Steps: mostFuel})
	told(t, of("signal; jump"), 5, nil, signals[:4999], mostFuel, api.Stand{At: api.AtSignal, Signals: 4999, Steps: 9998})
}

// P10.1: ends.

func TestEnds(t *testing.T) {
	for _, n := range numbers() {
		for k := range 16 {
			text := fmt.Sprintf("move %d 0; ", k)
			told(t, of(text+fmt.Sprintf("done %d", k)), n, nil, nil, 9, api.Stand{At: api.AtEnd, Out: api.Outcome{Status: api.Fine, Value: n}, Steps: 2})
			told(t, of(text+fmt.Sprintf("fail %d", k)), n, nil, nil, 9, api.Stand{At: api.AtEnd, Out: api.Outcome{Status: api.Failed, Value: n}, Steps: 2})
		}
	}
	// Nothing comes behind an end.
	for _, last := range []string{"done", "fail"} {
		got := asTold(t, of(last+"; signal; sleep; fail"), 5, nil, []int64{1}, 99)
		if got.At != api.AtEnd || got.Steps != 1 || got.Signals != 0 || len(got.Cmds) != 0 {
			t.Errorf("behind %s: %s", last, short(got))
		}
	}
}

// P10.1: what is counted at each way of standing.

func TestWhatIsCounted(t *testing.T) {
	// Two signals, three commands, five steps; then what stands.
	const ahead = "signal 1; sleep 2 1; act 3 1 4 0 x; signal 1; child 4 1 0 0 y; "
	cmds := []api.Cmd{{N: 1, Kind: api.CSleep, Arg: 6}, {N: 2, Kind: api.CAct, S: "x", Arg: 6, Policy: 4}, {N: 3, Kind: api.CChild, S: "y", Arg: 7}}
	with := func(at int) api.Stand {
		return api.Stand{At: at, Cmds: cmds, Signals: 2, Steps: 5}
	}
	known, signals := []api.Known{fine(1, 1), fine(3, 3)}, []int64{6, 7}

	atEnd := with(api.AtEnd)
	atEnd.Steps, atEnd.Out = 6, api.Outcome{Status: api.Fine, Value: 7}
	told(t, of(ahead+"done 1"), 5, known, signals, 99, atEnd)
	atEnd.Out.Status = api.Failed
	told(t, of(ahead+"fail 1"), 5, known, signals, 6, atEnd)

	atWait := with(api.AtWait)
	atWait.On = 2
	told(t, of(ahead+"wait 9 3 9; done"), 5, known, signals, 6, atWait)
	told(t, of(ahead+"signal; done"), 5, known, signals, 6, with(api.AtSignal))
	for _, last := range []string{"done", "fail", "wait 9 3 9; done", "wait 9 2 9; done", "signal; done", "jump", "sleep; done"} {
		told(t, of(ahead+last), 5, known, signals, 5, with(api.AtFuel))
	}

	atMany := of(ahead + strings.Repeat("sleep 5; ", 201) + "done")
	got := asTold(t, atMany, 5, known, signals, mostFuel)
	if got.At != api.AtMany || got.Steps != 5+197 || got.Signals != 2 || len(got.Cmds) != 200 || !slices.Equal(got.Cmds[:3], cmds) {
		t.Errorf("at many: %s", short(got))
	}
}
