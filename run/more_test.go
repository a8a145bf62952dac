package run_test

import (
	"math"
	"reflect"
	"slices"
	"testing"
	"unsafe"

	"millwheel/api"
	"millwheel/run"
)

// sums is a program that begins three commands, waits for all of them and for two signals by turns, and ends with what all these come to, each weighed by its place.
func sums() api.Program {
	return of("set 9 0 0 10; act 1 0 2 0 pay; sleep 2 0; child 3 0 0 0 q; " +
		"wait 4 3 5; signal 6; mul 4 4 9; add 4 4 6; wait 6 1 5; mul 4 4 9; add 4 4 6; signal 6; mul 4 4 9; add 4 4 6; wait 6 2 5; mul 4 4 9; add 4 4 6; unless 5 0 0 19; fail 4; done 4")
}

// orders shows all orders of a list.
func orders(known []api.Known, show func([]api.Known)) {
	var put func(done, left []api.Known)
	put = func(done, left []api.Known) {
		if len(left) == 0 {
			show(done)
		}
		for k := range left {
			put(append(slices.Clone(done), left[k]), slices.Delete(slices.Clone(left), k, k+1))
		}
	}
	put(nil, known)
}

// P10.2: the order in which outcomes are told.

func TestNoOrder(t *testing.T) {
	known := []api.Known{fine(1, 1), outcome(2, api.TimedOut, 2), fine(3, 3), outcome(4, api.Failed, 4), fine(0, 5), fine(-1, 6)}
	for left := range known {
		some := slices.Delete(slices.Clone(known), left, left+1)
		for n := range 3 {
			signals := []int64{7, 8}[:n]
			want := asTold(t, sums(), 5, some, signals, mostFuel)
			orders(some, func(told []api.Known) {
				if got, e := run.Run(sums(), 5, told, signals, mostFuel); e != api.OK || !alike(got, want) {
					t.Fatalf("with %v: %s, error %d; with %v: %s", told, short(got), e, some, short(want))
				}
			})
		}
	}
}

func TestNoOrderOfMany(t *testing.T) {
	for seed := range uint64(500) {
		x := some(noise(seed, 300))
		x.known = firstOnes(x.known)
		want := asTold(t, x.p, x.arg, x.known, x.signals, x.fuel)
		slices.Reverse(x.known)
		told(t, x.p, x.arg, x.known, x.signals, x.fuel, want)
		slices.SortFunc(x.known, func(a, b api.Known) int { return a.N - b.N })
		told(t, x.p, x.arg, x.known, x.signals, x.fuel, want)
	}
}

// firstOnes are outcomes without those of numbers that were told ahead of them.
func firstOnes(known []api.Known) []api.Known {
	var firsts []api.Known
	for _, k := range known {
		if !slices.ContainsFunc(firsts, func(f api.Known) bool { return f.N == k.N }) {
			firsts = append(firsts, k)
		}
	}
	return firsts
}

// P10.2: more outcomes, and more signals behind.

// goesOn fails unless what comes of more that is told is that which came of less, and what comes behind that.
func goesOn(t *testing.T, less, more api.Stand, again func(fuel int) api.Stand) {
	t.Helper()
	if less.At == api.AtEnd || less.At == api.AtMany || less.At == api.AtFuel {
		if !alike(less, more) {
			t.Fatalf("%s, with more told: %s", short(less), short(more))
		}
		return
	}
	if len(more.Cmds) < len(less.Cmds) || !slices.Equal(more.Cmds[:len(less.Cmds)], less.Cmds) || more.Steps < less.Steps || more.Signals < less.Signals {
		t.Fatalf("%s, with more told: %s", short(less), short(more))
	}
	// As many steps as it did with less it does with more, and in the same way.
	there := less
	there.At, there.On = api.AtFuel, 0
	if got := again(less.Steps); !alike(got, there) {
		t.Fatalf("%s, with more told, but no more fuel: %s", short(less), short(got))
	}
}

func TestMoreIsTold(t *testing.T) {
	p := sums()
	known := []api.Known{fine(3, 3), fine(1, 1), fine(2, 2)}
	signals := []int64{4, 5}
	last := api.Stand{}
	// Each thing by itself lets it go on by just that much: the first wait is for 3, then comes a signal, and so on.
	for _, x := range []struct {
		known, signals int
		want           api.Stand
	}{
		{0, 0, api.Stand{At: api.AtWait, On: 3, Steps: 4}},
		{0, 2, api.Stand{At: api.AtWait, On: 3, Steps: 4}},
		{1, 0, api.Stand{At: api.AtSignal, Steps: 5}},
		{3, 0, api.Stand{At: api.AtSignal, Steps: 5}},
		{1, 1, api.Stand{At: api.AtWait, On: 1, Signals: 1, Steps: 8}},
		{1, 2, api.Stand{At: api.AtWait, On: 1, Signals: 1, Steps: 8}},
		{2, 1, api.Stand{At: api.AtSignal, Signals: 1, Steps: 11}},
		{2, 2, api.Stand{At: api.AtWait, On: 2, Signals: 2, Steps: 14}},
		{3, 2, api.Stand{At: api.AtEnd, Out: api.Outcome{Value: 34152}, Signals: 2, Steps: 19}},
	} {
		x.want.Cmds = []api.Cmd{{N: 1, Kind: api.CAct, S: "pay", Arg: 6, Policy: 2}, {N: 2, Kind: api.CSleep, Arg: 6}, {N: 3, Kind: api.CChild, S: "q", Arg: 6}}
		told(t, p, 6, known[:x.known], signals[:x.signals], mostFuel, x.want)
		got := asTold(t, p, 6, known[:x.known], signals[:x.signals], mostFuel)
		if len(last.Cmds) > 0 && got.Steps < last.Steps {
			t.Errorf("%s behind %s", short(got), short(last))
		}
		last = got
	}
}

func TestWhatHasEndedIsToldMore(t *testing.T) {
	known := []api.Known{fine(3, 3), outcome(2, api.Stopped, 2), fine(1, 1)}
	signals := []int64{4, 5}
	want := asTold(t, sums(), 6, known, signals, mostFuel)
	if want.At != api.AtEnd || want.Out != (api.Outcome{Status: api.Failed, Value: 34152}) {
		t.Fatal(short(want))
	}
	for _, more := range [][]api.Known{{fine(4, 9)}, {fine(0, 9), fine(-1, 9)}, {fine(200, 9), fine(201, 9)}, {fine(3, 9)}, {outcome(2, api.Fine, 9), fine(1, 9)}} {
		for _, behind := range [][]int64{nil, {0}, {4, 5}, {math.MinInt64, 9, 9}} {
			told(t, sums(), 6, slices.Concat(known, more), slices.Concat(signals, behind), mostFuel, want)
		}
	}
}

func TestMoreIsToldOfAll(t *testing.T) {
	for seed := range uint64(2000) {
		x := some(noise(seed, 300))
		x.known = firstOnes(x.known)
		for k := range len(x.known) + 1 {
			for s := range len(x.signals) + 1 {
				less := asTold(t, x.p, x.arg, x.known[:k], x.signals[:s], x.fuel)
				again := func(fuel int) api.Stand {
					return asTold(t, x.p, x.arg, x.known, x.signals, fuel)
				}
				goesOn(t, less, again(x.fuel), again)
			}
		}
	}
}

// R3: what is handed in stays as it is, is not kept, and what is handed out is new.

// whatIsLent is what Run is handed, in memory that has room behind it.
func whatIsLent() (api.Program, []api.Known, []int64) {
	p := sums()
	p.Code = append(p.Code, slices.Repeat([]api.Instr{{Op: 77, A: 77, S: "room"}}, 20)...)[:len(p.Code)]
	known := append([]api.Known{fine(3, 3), fine(1, 1), fine(2, 2)}, slices.Repeat([]api.Known{fine(1, 77)}, 20)...)[:3]
	signals := append([]int64{4, 5}, slices.Repeat([]int64{77}, 20)...)[:2]
	return p, known, signals
}

func TestWhatIsHandedInStaysAsItIs(t *testing.T) {
	for _, fuel := range []int{-1, 0, 5, mostFuel} {
		for many := range 4 {
			p, known, signals := whatIsLent()
			run.Run(p, 6, known[:many], signals[:many/2], fuel)
			wasP, wasKnown, wasSignals := whatIsLent()
			if !reflect.DeepEqual(p, wasP) || !reflect.DeepEqual(p.Code[:cap(p.Code)][:len(p.Code)+20], wasP.Code[:cap(wasP.Code)][:len(p.Code)+20]) {
				t.Errorf("the program was changed: %s", brief(p))
			}
			if !slices.Equal(known[:23], wasKnown[:23]) || !slices.Equal(signals[:22], wasSignals[:22]) {
				t.Errorf("what is known, or the signals, were changed: %v, %v", known[:23], signals[:22])
			}
		}
	}
}

// TestRoomIsNotTold: behind a list's end nothing counts.
func TestRoomIsNotTold(t *testing.T) {
	p, known, signals := whatIsLent()
	for many := range 4 {
		want, _ := follow(sums(), 6, slices.Clone(known[:many]), slices.Clone(signals[:many/2]), mostFuel)
		told(t, p, 6, known[:many], signals[:many/2], mostFuel, want)
	}
}

func TestWhatIsHandedInIsNotKept(t *testing.T) {
	p, known, signals := whatIsLent()
	want, _ := follow(sums(), 6, known, signals, mostFuel)
	got, _ := run.Run(p, 6, known, signals, mostFuel)
	clear(p.Code)
	clear(known)
	clear(signals)
	if !alike(got, want) {
		t.Errorf("what was handed in written over: %s, want %s", short(got), short(want))
	}
	// Nor from call to call.
	told(t, sums(), 6, nil, nil, mostFuel, api.Stand{At: api.AtWait, On: 3, Cmds: want.Cmds, Steps: 4})
	told(t, of("done 4"), 0, nil, nil, mostFuel, api.Stand{At: api.AtEnd, Steps: 1})
}

func TestWhatIsHandedOutIsNew(t *testing.T) {
	p, known, signals := whatIsLent()
	first, _ := run.Run(p, 6, known, signals, mostFuel)
	second, _ := run.Run(p, 6, known, signals, mostFuel)
	want, _ := follow(sums(), 6, known, signals, mostFuel)
	all := first.Cmds[:cap(first.Cmds)]
	for k := range all {
		all[k] = api.Cmd{N: 77, Kind: 77, S: "over", Arg: 77, Policy: 77}
	}
	if !alike(second, want) || !reflect.DeepEqual(p, sums()) {
		t.Errorf("an answer written over: %s, of %s", short(second), brief(p))
	}
	told(t, p, 6, known, signals, mostFuel, want)
	// A name is no piece of the program's.
	for _, c := range second.Cmds {
		for _, i := range p.Code {
			if c.S != "" && c.S == i.S && unsafe.StringData(c.S) == unsafe.StringData(i.S) {
				t.Errorf("the name %q is the program's own memory", c.S)
			}
		}
	}
}

// R4 and R6.

func TestTwiceIsTheSame(t *testing.T) {
	for seed := range uint64(200) {
		x := some(noise(seed, 300))
		first, _ := run.Run(x.p, x.arg, x.known, x.signals, x.fuel)
		run.Run(sums(), 99, []api.Known{fine(1, 99)}, []int64{99}, 99)
		told(t, x.p, x.arg, x.known, x.signals, x.fuel, first)
	}
}

func TestEmptyIsNone(t *testing.T) {
	for _, text := range []string{"done", paid, "signal; done", "jump"} {
		want := asTold(t, of(text), 5, nil, nil, 99)
		told(t, of(text), 5, []api.Known{}, []int64{}, 99, want)
	}
}

// All of it, of programs of no order.

// given is what Run is handed.
type given struct {
	p       api.Program
	arg     int64
	known   []api.Known
	signals []int64
	fuel    int
}

// some is what Run may be handed, told by bytes; the program may be. Its numbers are mostly small ones, so that registers often have numbers of commands.
func some(bytes []byte) given {
	at := 0
	below := func(n int) int {
		at++
		return int(bytes[at%len(bytes)]) % n
	}
	number := func() int64 {
		if below(6) == 0 {
			return numbers()[below(len(numbers()))]
		}
		return int64(below(7) - 2)
	}
	x := given{p: api.Program{Name: "p", Regs: 1 + below(5)}, arg: number(), fuel: below(250)}
	count := 1 + below(24)
	for k := range count {
		op := api.IOp(1 + below(14))
		if k == count-1 {
			op = []api.IOp{api.IJump, api.IDone, api.IFail}[below(3)]
		}
		x.p.Code = append(x.p.Code, instr(op, func() int { return below(x.p.Regs) }, func() int64 { return int64(below(count)) }, number))
	}
	for range below(8) {
		x.known = append(x.known, outcome(below(7)-1, below(4), number()))
	}
	for range below(5) {
		x.signals = append(x.signals, number())
	}
	return x
}

// instr is an instruction of an Op that may be, of such registers, places and numbers.
func instr(op api.IOp, register func() int, place, number func() int64) api.Instr {
	i := api.Instr{Op: op}
	if op != api.IJump {
		i.A = register()
	}
	switch op {
	case api.ISet:
		i.N = number()
	case api.IJump, api.IUnless:
		i.N = place()
	case api.IAct:
		i.B, i.C, i.S = register(), int(place())%20, "a"
	case api.IMove, api.ISleep:
		i.B = register()
	case api.IChild:
		i.B, i.S = register(), "c"
	case api.IAdd, api.ISub, api.IMul, api.ILess, api.ISame, api.IWait:
		i.B, i.C = register(), register()
	}
	return i
}

func TestNoise(t *testing.T) {
	stands := map[int]int{}
	for seed := range uint64(30000) {
		x := some(noise(seed, 300))
		stands[asTold(t, x.p, x.arg, x.known, x.signals, x.fuel).At]++
		if seed%20 == 0 {
			x.fuel = mostFuel
			stands[asTold(t, x.p, x.arg, x.known, x.signals, x.fuel).At]++
		}
	}
	// Each way of standing must be among them, or the noise says little.
	for at := api.AtEnd; at <= api.AtMany; at++ {
		if stands[at] < 10 {
			t.Errorf("only %d stand at %d", stands[at], at)
		}
	}
}

// noise is bytes in no order, the same for a seed each time.
func noise(seed uint64, n int) []byte {
	b := make([]byte, n)
	x := seed*2862933555777941757 + 3037000493
	for i := range b {
		x ^= x << 13
		x ^= x >> 7
		x ^= x << 17
		b[i] = byte(x >> 32)
	}
	return b
}

func FuzzRun(f *testing.F) {
	for seed := range uint64(10) {
		f.Add(noise(seed, 200), 100)
	}
	f.Fuzz(func(t *testing.T, bytes []byte, fuel int) {
		if len(bytes) > 0 {
			x := some(bytes)
			asTold(t, x.p, x.arg, x.known, x.signals, fuel)
		}
	})
}
