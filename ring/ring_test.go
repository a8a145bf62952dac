package ring_test

import (
	"math"
	"slices"
	"strings"
	"testing"

	"millwheel/api"
	"millwheel/ring"
)

// The chapter's examples.

func TestExamples(t *testing.T) {
	b := twoWith(t, 2, 5, 6)
	if e := b.put("a", 7); e != api.ErrBusy {
		t.Errorf("Put into a full queue: error %d", e)
	}
	if n, ok := b.take("a"); n != 5 || !ok {
		t.Errorf("Take = %d, %v", n, ok)
	}
	b.putAll("a", 7)
	if all := b.rings.All("a"); !slices.Equal(all, []int{6, 7}) || b.rings.Room("a") != 0 {
		t.Errorf("All = %v, Room = %d", all, b.rings.Room("a"))
	}
	if !b.drop("a", 6) {
		t.Errorf("Drop of one that is there = false")
	}
	if e := b.cap("a", 1); e != api.OK {
		t.Errorf("Cap: error %d", e)
	}
	if e := b.put("a", 8); e != api.ErrBusy {
		t.Errorf("Put behind Cap: error %d", e)
	}
	if names := b.rings.Names(); !slices.Equal(names, []string{"a"}) {
		t.Errorf("Names = %q", names)
	}
	if n, ok := b.take("a"); n != 7 || !ok {
		t.Errorf("Take = %d, %v", n, ok)
	}
	if names := b.rings.Names(); len(names) != 0 {
		t.Errorf("Names of none = %q", names)
	}
}

// P8.1: New and Cap.

var badMosts = []int{0, -1, math.MinInt, -mostNumbers, mostNumbers + 1, 1 << 32, 1<<32 + 1, math.MaxInt}

var goodMosts = []int{1, 2, 3, 1000, mostNumbers - 1, mostNumbers}

func TestNew(t *testing.T) {
	for _, most := range goodMosts {
		b := twoOf(t, most)
		b.sameOf("a")
		b.same()
		if room := b.rings.Room("a"); room != most {
			t.Errorf("Room of New(%d) = %d", most, room)
		}
	}
}

func TestNewRefuses(t *testing.T) {
	for _, most := range badMosts {
		if r, e := ring.New(most); r != nil || e != api.ErrArg {
			t.Errorf("New(%d): %v, error %d; want error %d", most, r, e, api.ErrArg)
		}
	}
}

func TestNewAnswersRingsOfTheirOwn(t *testing.T) {
	a, b := twoWith(t, 3, 5, 4), twoOf(t, 2)
	b.sameOf("a")
	b.putAll("a", 1)
	b.cap("a", 7)
	a.same()
	b.same()
}

func TestCap(t *testing.T) {
	for _, most := range goodMosts {
		for _, was := range []int{1, 2, 5, 7} {
			b := twoWith(t, was, 6)
			for _, name := range []string{"a", "b"} {
				if e := b.cap(name, most); e != api.OK {
					t.Errorf("Cap(%q, %d): error %d", name, most, e)
				}
			}
			b.same()
			if room := b.rings.Room("b"); room != most {
				t.Errorf("Room behind Cap(%d) = %d", most, room)
			}
			if room := b.rings.Room("c"); room != was {
				t.Errorf("Room of a queue that was given no cap = %d; want %d", room, was)
			}
		}
	}
}

func TestCapRefuses(t *testing.T) {
	for _, most := range badMosts {
		b := twoWith(t, 3, 6)
		b.cap("b", 5)
		for _, name := range []string{"a", "b", "c"} {
			if e := b.cap(name, most); e != api.ErrArg {
				t.Errorf("Cap(%q, %d): error %d; want %d", name, most, e, api.ErrArg)
			}
			b.sameOf(name)
		}
		b.same()
	}
}

func TestACapLessThanWhatIsThere(t *testing.T) {
	for less := 1; less <= 6; less++ {
		b := twoWith(t, 6, 1, 2, 3, 4, 5, 6)
		b.cap("a", less)
		b.same()
		for left := 6; left > 0; left-- {
			want := api.ErrBusy
			if left < less {
				want = api.OK
			}
			if e := b.put("a", 9); e != want {
				t.Errorf("Put of a queue of cap %d that has %d: error %d; want %d", less, left, e, want)
			}
			if want == api.OK {
				break
			}
			b.take("a")
			b.same()
		}
		b.emptyAll()
		b.putAll("a", slices.Repeat([]int{7}, less)...)
		if e := b.put("a", 8); e != api.ErrBusy {
			t.Errorf("Put, one more than %d: error %d; want %d", less, e, api.ErrBusy)
		}
		b.same()
	}
}

func TestACapGreaterThanItWas(t *testing.T) {
	for _, more := range []int{3, 4, 9, 100} {
		b := twoWith(t, 2, 1, 2)
		b.take("a")
		b.putAll("a", 3)
		b.cap("a", more)
		for n := 4; n <= more+1; n++ {
			b.putAll("a", n)
			b.sameOf("a")
		}
		if e := b.put("a", 0); e != api.ErrBusy {
			t.Errorf("Put, one more than %d: error %d; want %d", more, e, api.ErrBusy)
		}
		b.same()
		b.emptyAll()
	}
}

func TestACapStaysWhenItsNumbersHaveGone(t *testing.T) {
	ways := map[string]func(b *both){
		"Take": func(b *both) { b.take("a") },
		"Drop": func(b *both) { b.drop("a", 5) },
	}
	for way, leave := range ways {
		for _, most := range []int{1, 2, 4, 5} {
			b := twoOf(t, 3)
			b.cap("a", most)
			b.putAll("a", 5)
			leave(b)
			if room := b.rings.Room("a"); room != most {
				t.Errorf("Room of cap %d behind %s = %d", most, way, room)
			}
			b.cap("a", 3)
			b.same()
			if room := b.rings.Room("a"); room != 3 {
				t.Errorf("Room of the first cap behind %s = %d", way, room)
			}
		}
	}
}

// P8.1 and P8.2: names.

func TestNames(t *testing.T) {
	names := []string{"\x00\x00", "\xff\xfe", "ä", "a\x00b", strings.Repeat("x", mostName-1), strings.Repeat("x", mostName), strings.Repeat("\x00", mostName), strings.Repeat("\xff", mostName)}
	for one := range 256 {
		names = append(names, string([]byte{byte(one)}), string([]byte{'q', byte(one)}))
	}
	b := twoOf(t, 2)
	for i, name := range names {
		b.putAll(name, i)
		b.sameOf(name)
		if e := b.cap(name, 3); e != api.OK {
			t.Errorf("Cap(%q): error %d", name, e)
		}
		b.take(name)
		b.putAll(name, i, -i, i)
	}
	b.same()
	b.emptyAll()
}

var badNames = []string{"", strings.Repeat("x", mostName+1), strings.Repeat("\x00", mostName+1), strings.Repeat("ä", mostName/2) + "x", strings.Repeat("x", 1<<16)}

func TestNamesThatMayNotBe(t *testing.T) {
	b := twoWith(t, 2, 0, 5)
	// A queue whose name is cut off at the limit is another one.
	b.putAll(strings.Repeat("x", mostName), 5)
	for _, name := range badNames {
		for _, most := range []int{1, 2, 3, 0} {
			if e := b.cap(name, most); e != api.ErrArg {
				t.Errorf("Cap of a name of %d bytes: error %d; want %d", len(name), e, api.ErrArg)
			}
		}
		if e := b.put(name, 5); e != api.ErrArg {
			t.Errorf("Put of a name of %d bytes: error %d; want %d", len(name), e, api.ErrArg)
		}
		for _, n := range []int{0, 5} {
			if b.drop(name, n) {
				t.Errorf("Drop of a name of %d bytes = true", len(name))
			}
		}
		if n, ok := b.take(name); n != 0 || ok {
			t.Errorf("Take of a name of %d bytes = %d, %v", len(name), n, ok)
		}
		if room := b.rings.Room(name); room != 0 {
			t.Errorf("Room of a name of %d bytes = %d", len(name), room)
		}
		b.sameOf(name)
	}
	b.same()
}

func TestANameThatIsTheBeginningOfAnother(t *testing.T) {
	b := twoOf(t, 2)
	for i, name := range []string{"ab", "a", "abc", "a\x00", "b", "B"} {
		b.putAll(name, i, -i)
		b.cap(name, i+2)
		b.same()
	}
	if names := b.rings.Names(); !slices.Equal(names, []string{"B", "a", "a\x00", "ab", "abc", "b"}) {
		t.Errorf("Names = %q", names)
	}
	b.take("a")
	b.drop("ab", 0)
	b.same()
	b.empty("ab")
	b.same()
	b.emptyAll()
}

// P8.1 and P8.2: a thousand queues, and one more.

// filling are the ways in which a queue comes to be there.
var filling = map[string]func(b *both, name string) api.Errno{
	"Put": func(b *both, name string) api.Errno { return b.put(name, 7) },
	"Cap": func(b *both, name string) api.Errno { return b.cap(name, 3) },
}

// thousand answers rings of the first cap 2, with as many queues as there may be, that came there in one way.
func thousand(t *testing.T, fill func(b *both, name string) api.Errno) *both {
	t.Helper()
	b := twoOf(t, 2)
	for i := range mostQueues {
		if e := fill(b, nth(i)); e != api.OK {
			t.Fatalf("the queue %d: error %d", i, e)
		}
	}
	return b
}

// noRoom holds that no queue more may come.
func noRoom(b *both, behind string) {
	b.t.Helper()
	for way, fill := range filling {
		if e := fill(b, "more"); e != api.ErrFull {
			b.t.Errorf("%s behind %s: error %d; want %d", way, behind, e, api.ErrFull)
		}
		b.sameOf("more")
	}
}

func TestAThousandQueues(t *testing.T) {
	for name, fill := range filling {
		b := thousand(t, fill)
		noRoom(b, name)
		b.same()
		// Of what is there all may be done yet.
		if e := b.put(nth(5), 8); e != api.OK {
			t.Errorf("Put of a queue that is there: error %d", e)
		}
		if e := b.cap(nth(6), 9); e != api.OK {
			t.Errorf("Cap of a queue that is there: error %d", e)
		}
		noRoom(b, "changes of those that are there")
	}
}

func TestAThousandQueuesAndAnotherError(t *testing.T) {
	b := thousand(t, filling["Put"])
	b.put(nth(5), 8)
	if e := b.put(nth(5), 9); e != api.ErrBusy {
		t.Errorf("Put into a full queue: error %d; want %d", e, api.ErrBusy)
	}
	if e := b.put("", 9); e != api.ErrArg {
		t.Errorf("Put of no name: error %d; want %d", e, api.ErrArg)
	}
	if e := b.cap("", 9); e != api.ErrArg {
		t.Errorf("Cap of no name: error %d; want %d", e, api.ErrArg)
	}
	if e := b.cap("more", 0); e != api.ErrArg {
		t.Errorf("Cap of 0: error %d; want %d", e, api.ErrArg)
	}
	noRoom(b, "what was refused")
}

func TestTheFirstCapIsNoQueue(t *testing.T) {
	b := thousand(t, filling["Cap"])
	// What has no numbers, and the first cap, is as what is not there: there would be no more queues.
	if e := b.cap("more", 2); e != api.OK {
		t.Errorf("Cap, the first one, of a queue that is not there: error %d", e)
	}
	noRoom(b, "Cap, the first one")
	few := twoOf(t, 2)
	for i := range mostQueues + 1 {
		few.cap(nth(i), 2)
	}
	for i := range mostQueues {
		few.putAll(nth(mostQueues-i), i)
	}
	noRoom(few, "a thousand queues of numbers")
}

func TestRoomForOneBehindOneThatIsThereNoMore(t *testing.T) {
	leaving := map[string]func(b *both, name string){
		"Take": func(b *both, name string) { b.take(name) },
		"Drop": func(b *both, name string) { b.drop(name, 7) },
	}
	for way, leave := range leaving {
		for more, fill := range filling {
			b := thousand(t, filling["Put"])
			leave(b, nth(3))
			if e := fill(b, "one"); e != api.OK {
				t.Errorf("%s behind %s: error %d", more, way, e)
			}
			noRoom(b, way)
			b.same()
		}
	}
}

func TestRoomForOneBehindOneThatHasTheFirstCapAgain(t *testing.T) {
	for more, fill := range filling {
		b := thousand(t, filling["Cap"])
		b.cap(nth(3), 4)
		noRoom(b, "another cap")
		b.cap(nth(3), 2)
		if e := fill(b, "one"); e != api.OK {
			t.Errorf("%s behind the first cap again: error %d", more, e)
		}
		noRoom(b, "the first cap again")
		b.same()
	}
}

func TestNoRoomBehindOneThatHasNumbersOrAnotherCap(t *testing.T) {
	b := thousand(t, filling["Put"])
	b.cap(nth(3), 4)
	b.take(nth(3))
	noRoom(b, "numbers that have gone of a queue of another cap")
	b.putAll(nth(3), 1)
	b.cap(nth(3), 2)
	noRoom(b, "the first cap again of a queue that has numbers")
	b.take(nth(3))
	if e := b.put("one", 1); e != api.OK {
		t.Errorf("Put behind both: error %d", e)
	}
	noRoom(b, "both")
	b.same()
}

// P8.2: Put, Look, Take and Drop.

func TestPutRefusesWhenFull(t *testing.T) {
	for most := 1; most <= 9; most++ {
		b := twoOf(t, most)
		for n := range most {
			b.putAll("a", n)
			b.same()
		}
		for range 2 {
			if e := b.put("a", most); e != api.ErrBusy {
				t.Errorf("Put behind %d of %d: error %d; want %d", most, most, e, api.ErrBusy)
			}
			b.same()
		}
		b.take("a")
		b.putAll("a", 77)
		if e := b.put("a", most); e != api.ErrBusy {
			t.Errorf("Put behind %d of %d again: error %d; want %d", most, most, e, api.ErrBusy)
		}
		b.emptyAll()
	}
}

func TestLookChangesNothing(t *testing.T) {
	b := twoWith(t, 3, 5, 6)
	for range 3 {
		if n, ok := b.rings.Look("a"); n != 5 || !ok {
			t.Errorf("Look = %d, %v", n, ok)
		}
		b.same()
	}
}

func TestOfAQueueWithoutNumbers(t *testing.T) {
	b := twoWith(t, 3, 0, 5)
	b.cap("b", 5)
	b.putAll("c", 4)
	b.empty("a")
	b.drop("c", 4)
	for _, name := range []string{"a", "b", "c", "d"} {
		if n, ok := b.rings.Look(name); n != 0 || ok {
			t.Errorf("Look(%q) = %d, %v", name, n, ok)
		}
		for range 2 {
			if n, ok := b.rings.Take(name); n != 0 || ok {
				t.Errorf("Take(%q) = %d, %v", name, n, ok)
			}
		}
		for _, n := range []int{0, 4, 5} {
			if b.rings.Drop(name, n) {
				t.Errorf("Drop(%q, %d) = true", name, n)
			}
		}
		if all := b.rings.All(name); len(all) != 0 || b.rings.Len(name) != 0 {
			t.Errorf("All(%q) = %v, Len = %d", name, all, b.rings.Len(name))
		}
		b.sameOf(name)
	}
	b.same()
}

func TestNumbersAtTheEnds(t *testing.T) {
	numbers := []int{math.MinInt, -1, 0, 1, math.MaxInt, -77, 0, math.MaxInt, math.MinInt}
	b := twoWith(t, 9, numbers...)
	b.same()
	for _, n := range numbers {
		if !b.drop("a", n) {
			t.Errorf("Drop of %d = false", n)
		}
		b.same()
		b.putAll("a", n)
		b.same()
	}
	for _, n := range numbers {
		if got, ok := b.take("a"); got != n || !ok {
			t.Errorf("Take = %d, %v; want %d", got, ok, n)
		}
	}
}

// goneRound answers a queue of these numbers that have been gone round by so many places.
func goneRound(t *testing.T, turns int, numbers ...int) *both {
	t.Helper()
	b := twoOf(t, len(numbers)+1)
	b.putAll("a", numbers...)
	for i := range turns {
		b.putAll("a", numbers[i%len(numbers)])
		b.take("a")
	}
	return b
}

func TestDrop(t *testing.T) {
	kinds := map[string][]int{
		"one":        {4},
		"two":        {4, 5},
		"some":       {4, 5, 6, 7, 8, 9, 10},
		"eight":      {1, 2, 3, 4, 5, 6, 7, 8},
		"nine":       {1, 2, 3, 4, 5, 6, 7, 8, 9},
		"some twice": {4, 5, 4, 6, 5, 7, 7},
		"one alone":  {4, 4, 4, 4, 4},
		"beside 0":   {0, -1, 0, 1, 0},
	}
	for kind, numbers := range kinds {
		for turns := range 20 {
			for _, n := range numbers {
				b := goneRound(t, turns*len(numbers)+turns, numbers...)
				for b.drop("a", n) {
					b.same()
				}
				if b.rings.Drop("a", n) {
					t.Errorf("%s: Drop of %d, when all have gone = true", kind, n)
				}
				b.putAll("a", n, 99)
				b.same()
				b.emptyAll()
			}
		}
	}
}

func TestDropOfTheFirstOfTwo(t *testing.T) {
	b := twoWith(t, 9, 4, 5, 4, 6)
	b.drop("a", 4)
	if all := b.rings.All("a"); !slices.Equal(all, []int{5, 4, 6}) {
		t.Errorf("All = %v", all)
	}
	b.drop("a", 4)
	if all := b.rings.All("a"); !slices.Equal(all, []int{5, 6}) {
		t.Errorf("All = %v", all)
	}
	if b.drop("a", 4) {
		t.Errorf("Drop of the third of two = true")
	}
	b.same()
}

func TestDropOfOneThatIsNotThere(t *testing.T) {
	b := twoWith(t, 9, 4, 5, 6)
	b.putAll("b", 7)
	b.take("a")
	// 4 has gone, 7 is in another queue, 1 is a place, and 0 stands in places that hold nothing.
	for _, n := range []int{4, 7, 1, 0, -5, math.MinInt, math.MaxInt} {
		if b.drop("a", n) {
			t.Errorf("Drop of %d = true", n)
		}
		b.same()
	}
	b.drop("a", 6)
	if b.drop("a", 6) {
		t.Errorf("Drop of one that was dropped = true")
	}
	b.same()
}

func TestRoundItsPlacesManyTimes(t *testing.T) {
	for most := 1; most <= 20; most++ {
		for held := range most {
			b := twoOf(t, most)
			next := 0
			for range held {
				b.putAll("a", next)
				next++
			}
			for range 100 {
				b.putAll("a", next)
				next++
				b.sameOf("a")
				if n, ok := b.take("a"); n != next-held-1 || !ok {
					t.Fatalf("Take = %d, %v; want %d", n, ok, next-held-1)
				}
			}
			b.same()
			b.emptyAll()
		}
	}
}

func TestWavesOfNumbers(t *testing.T) {
	b := twoOf(t, 1000)
	next := 0
	for _, size := range []int{1, 300, 5, 70, 1000, 2, 33, 999, 16, 17, 1} {
		for range size - b.rings.Len("a") {
			b.putAll("a", next)
			next++
		}
		b.sameOf("a")
		for b.rings.Len("a") > size/7 {
			b.take("a")
			b.drop("a", next-2)
			b.sameOf("a")
		}
	}
	b.same()
	b.emptyAll()
}

func TestAsManyAsThereMayBe(t *testing.T) {
	r := newRings(t, mostNumbers)
	for n := range mostNumbers {
		if e := r.Put("a", n); e != api.OK {
			t.Fatalf("Put(%d): error %d", n, e)
		}
	}
	for range 3 {
		if e := r.Put("a", 0); e != api.ErrBusy || r.Len("a") != mostNumbers || r.Room("a") != 0 {
			t.Errorf("Put, one more: error %d; want %d; Len %d, Room %d", e, api.ErrBusy, r.Len("a"), r.Room("a"))
		}
	}
	if !r.Drop("a", 0) || !r.Drop("a", mostNumbers-1) || !r.Drop("a", 40000) || r.Drop("a", 40000) {
		t.Errorf("Drop")
	}
	if e := r.Put("a", -1); e != api.OK || r.Room("a") != 2 {
		t.Errorf("Put behind Drop: error %d; Room %d", e, r.Room("a"))
	}
	for n := 1; n < mostNumbers-1; n++ {
		if n == 40000 {
			continue
		}
		if got, ok := r.Take("a"); got != n || !ok {
			t.Fatalf("Take = %d, %v; want %d", got, ok, n)
		}
	}
	if all := r.All("a"); !slices.Equal(all, []int{-1}) {
		t.Errorf("All = %s", brief(all))
	}
}

// P8.3: Len, Room, Names and All.

func TestRoomGoesWithTheNumbersAndTheCap(t *testing.T) {
	b := twoWith(t, 5, 1, 2, 3)
	for _, step := range []struct{ most, room int }{{5, 2}, {4, 1}, {3, 0}, {2, 0}, {1, 0}, {9, 6}, {mostNumbers, mostNumbers - 3}, {5, 2}} {
		b.cap("a", step.most)
		if room := b.rings.Room("a"); room != step.room || b.rings.Len("a") != 3 {
			t.Errorf("Room of 3 numbers of cap %d = %d; want %d; Len = %d", step.most, room, step.room, b.rings.Len("a"))
		}
	}
	b.same()
}

func TestNamesOfThoseThatHaveNumbers(t *testing.T) {
	b := twoOf(t, 2)
	b.cap("cap alone", 5)
	b.putAll("taken", 1, 2)
	b.putAll("dropped", 1, 2)
	b.putAll("z", 1)
	b.putAll("ab", 0)
	b.putAll("a", 1)
	b.putAll("\xff", 1)
	b.putAll("\x7f", 1)
	b.putAll("A", 1)
	b.cap("z", 7)
	want := []string{"A", "a", "ab", "dropped", "taken", "z", "\x7f", "\xff"}
	if names := b.rings.Names(); !slices.Equal(names, want) {
		t.Errorf("Names = %q; want %q", names, want)
	}
	b.empty("taken")
	b.drop("dropped", 2)
	b.drop("dropped", 1)
	b.empty("z")
	want = []string{"A", "a", "ab", "\x7f", "\xff"}
	if names := b.rings.Names(); !slices.Equal(names, want) {
		t.Errorf("Names = %q; want %q", names, want)
	}
	b.emptyAll()
	if names := b.rings.Names(); len(names) != 0 {
		t.Errorf("Names of none = %q", names)
	}
}

// P8.4: what follows.

func TestWhatIsDoneToOneChangesNothingOfAnother(t *testing.T) {
	deeds := map[string]func(b *both){
		"Cap":     func(b *both) { b.cap("b", 1) },
		"Put":     func(b *both) { b.put("b", 1) },
		"Take":    func(b *both) { b.take("b") },
		"Drop":    func(b *both) { b.drop("b", 2) },
		"emptied": func(b *both) { b.empty("b") },
		"new":     func(b *both) { b.put("d", 2) },
	}
	for name, deed := range deeds {
		b := twoWith(t, 4, 1, 2, 3)
		b.putAll("b", 1, 2, 3)
		b.putAll("c", 3, 2)
		b.cap("c", 2)
		deed(b)
		b.same()
		if a, c := b.rings.All("a"), b.rings.All("c"); !slices.Equal(a, []int{1, 2, 3}) || !slices.Equal(c, []int{3, 2}) || b.rings.Room("a") != 1 || b.rings.Room("c") != 0 {
			t.Errorf("%s of another queue: %v, %v, Room %d, %d", name, a, c, b.rings.Room("a"), b.rings.Room("c"))
		}
	}
}

func TestNeverMoreThanTheGreatestCap(t *testing.T) {
	b := twoOf(t, 3)
	greatest := 3
	for i, most := range []int{3, 5, 2, 5, 1, 4, 8, 2, 3, 9, 1} {
		b.cap("a", most)
		greatest = max(greatest, most)
		for n := range 12 {
			b.put("a", n)
			if n := b.rings.Len("a"); n > greatest {
				t.Errorf("%d numbers behind a cap of %d at most", n, greatest)
			}
		}
		b.same()
		for range i % 4 {
			b.take("a")
		}
	}
}

func TestAnyOrderOfTakingAndDropping(t *testing.T) {
	// What is done to a queue of five, four deeds long: each number dropped, one taken, one put.
	for plan := range 7 * 7 * 7 * 7 {
		b := goneRound(t, plan%16, 1, 2, 3, 2, 5)
		for rest := plan; rest > 0; rest /= 7 {
			switch deed := rest % 7; deed {
			case 0:
				b.put("a", 2)
			case 6:
				b.take("a")
			default:
				b.drop("a", deed)
			}
			b.sameOf("a")
		}
		b.emptyAll()
	}
}

// deeds does things to rings and lists in the order that bytes tell, all names and numbers near each other, so that they meet.
func deeds(t *testing.T, most int, told []byte) {
	t.Helper()
	b := twoOf(t, most)
	names := []string{"a", "ab", "b", "", "\x00", strings.Repeat("z", mostName), strings.Repeat("z", mostName+1)}
	for i := 0; i+2 < len(told); i += 3 {
		name, n := names[int(told[i+1])%len(names)], int(int8(told[i+2]))/16
		switch told[i] % 8 {
		case 0, 1, 2, 3:
			b.put(name, n)
		case 4, 5:
			b.take(name)
		case 6:
			b.drop(name, n)
		case 7:
			b.cap(name, most+n/2)
		}
		b.sameOf(name)
		b.same()
	}
	b.emptyAll()
}

func TestAnyDeedsAgainstLists(t *testing.T) {
	rounds := 400
	if testing.Short() {
		rounds = 40
	}
	for seed := range rounds {
		deeds(t, []int{1, 2, 3, 7, 20, 100}[seed%6], noise(uint64(seed), 1500))
	}
}

// noise answers bytes of no order, the same ones for a seed each time.
func noise(seed uint64, n int) []byte {
	b := make([]byte, n)
	x := seed*2862933555777941757 + 3037000493
	for i := range b {
		x ^= x << 13
		x ^= x >> 7
		x ^= x << 17
		b[i] = byte(x >> 32)
	}
	return b
}

func FuzzDeeds(f *testing.F) {
	f.Add(5, noise(1, 60))
	f.Add(1, noise(2, 60))
	f.Fuzz(func(t *testing.T, most int, told []byte) {
		if most < 1 || most > mostNumbers || len(told) > 3000 {
			t.Skip()
		}
		deeds(t, most, told)
	})
}

// R3: what is handed in is not kept, what is handed out is new.

func TestWhatIsHandedOutIsNew(t *testing.T) {
	for turns := range 9 {
		b := goneRound(t, turns, 4, 5, 6, 7, 8, 9)
		b.putAll("b", 1)
		all, again, names := b.rings.All("a"), b.rings.All("a"), b.rings.Names()
		scrawl(all)
		b.same()
		if !slices.Equal(again, b.lists.all("a")) {
			t.Errorf("All, another answer written over: %v", again)
		}
		for i := range names {
			names[i] = "?"
		}
		b.same()
		scrawl(again)
		b.putAll("a", 10)
		b.same()
		b.emptyAll()
	}
}

// scrawl writes over a list, and what room there is behind it.
func scrawl(l []int) {
	l = l[:cap(l)]
	for i := range l {
		l[i] = -777 - i
	}
}

func TestAnswersDoNotChangeWithTheQueue(t *testing.T) {
	b := twoWith(t, 9, 4, 5, 6)
	all, names := b.rings.All("a"), b.rings.Names()
	b.drop("a", 5)
	b.take("a")
	b.putAll("a", 1, 2, 3, 4)
	b.putAll("0", 1)
	b.empty("a")
	if !slices.Equal(all, []int{4, 5, 6}) || !slices.Equal(names, []string{"a"}) {
		t.Errorf("answers behind changes: %v, %q", all, names)
	}
}

// R5: no rings, and rings that New did not make.

func TestNoRings(t *testing.T) {
	for name, r := range map[string]*ring.Rings{"nil": nil, "some that New did not make": {}, "others": new(ring.Rings)} {
		for _, queue := range []string{"a", ""} {
			if e := r.Cap(queue, 0); e != api.ErrNil {
				t.Errorf("Cap of %s: error %d; want %d", name, e, api.ErrNil)
			}
			if e := r.Cap(queue, 1); e != api.ErrNil {
				t.Errorf("Cap of %s: error %d; want %d", name, e, api.ErrNil)
			}
			if e := r.Put(queue, 1); e != api.ErrNil {
				t.Errorf("Put of %s: error %d; want %d", name, e, api.ErrNil)
			}
			if n, ok := r.Look(queue); n != 0 || ok {
				t.Errorf("Look of %s: %d, %v", name, n, ok)
			}
			if n, ok := r.Take(queue); n != 0 || ok {
				t.Errorf("Take of %s: %d, %v", name, n, ok)
			}
			if r.Drop(queue, 0) || r.Drop(queue, 1) {
				t.Errorf("Drop of %s: true", name)
			}
			if r.Len(queue) != 0 || r.Room(queue) != 0 {
				t.Errorf("Len of %s: %d, Room %d", name, r.Len(queue), r.Room(queue))
			}
			if all := r.All(queue); len(all) != 0 {
				t.Errorf("All of %s: %v", name, all)
			}
		}
		if names := r.Names(); len(names) != 0 {
			t.Errorf("Names of %s: %q", name, names)
		}
	}
}

func TestACopyOfRingsIsThoseRings(t *testing.T) {
	b := twoWith(t, 3, 5, 4)
	twin := *b.rings
	if e := twin.Put("b", 1); e != api.OK {
		t.Errorf("Put: error %d", e)
	}
	b.lists.put("b", 1)
	b.same()
	b.take("a")
	b.rings = &twin
	b.same()
}
