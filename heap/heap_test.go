package heap_test

import (
	"math"
	"slices"
	"testing"

	"millwheel/api"
	"millwheel/heap"
)

// The chapter's examples.

func TestExamples(t *testing.T) {
	b := twoOf(t, 9, api.Timer{Due: 5, Id: 1}, api.Timer{Due: 3, Id: 2}, api.Timer{Due: 5, Id: 0})
	if x, ok := b.heap.Next(); x != (api.Timer{Due: 3, Id: 2}) || !ok {
		t.Errorf("Next = %v, %v", x, ok)
	}
	if x, e := b.drop(2); x != (api.Timer{Due: 3, Id: 2}) || e != api.OK {
		t.Errorf("Drop(2) = %v, error %d", x, e)
	}
	if e := b.put(api.Timer{Due: 8, Id: 1}); e != api.ErrTimer {
		t.Errorf("Put of an Id that is there: error %d", e)
	}
	for _, want := range []api.Timer{{Due: 5, Id: 0}, {Due: 5, Id: 1}} {
		if x, ok := b.pop(); x != want || !ok {
			t.Errorf("Pop = %v, %v; want %v", x, ok, want)
		}
	}
	if x, ok := b.pop(); x != (api.Timer{}) || ok {
		t.Errorf("Pop of none = %v, %v", x, ok)
	}
}

func TestExampleOfDue(t *testing.T) {
	b := twoOf(t, 9, api.Timer{Due: 9, Id: 1}, api.Timer{Due: 2, Id: 3}, api.Timer{Due: 4, Id: 2})
	if got := b.due(4); !slices.Equal(got, []api.Timer{{Due: 2, Id: 3}, {Due: 4, Id: 2}}) {
		t.Errorf("Due(4) = %v", got)
	}
	if got := b.heap.All(); !slices.Equal(got, []api.Timer{{Due: 9, Id: 1}}) {
		t.Errorf("All = %v", got)
	}
}

// P7.1: New, Put and Drop.

func TestNew(t *testing.T) {
	for _, most := range []int{1, 2, 3, 1000, mostTimers - 1, mostTimers} {
		twoOf(t, most).same()
	}
}

func TestNewRefuses(t *testing.T) {
	for _, most := range []int{0, -1, math.MinInt, -mostTimers, mostTimers + 1, 1 << 32, 1<<32 + 1, math.MaxInt} {
		if h, e := heap.New(most); h != nil || e != api.ErrArg {
			t.Errorf("New(%d): %v, error %d; want error %d", most, h, e, api.ErrArg)
		}
	}
}

func TestNewAnswersHeapsOfTheirOwn(t *testing.T) {
	a, b := twoOf(t, 3, timersDue(5, 4)...), twoOf(t, 3)
	b.same()
	b.put(api.Timer{Due: 1, Id: 0})
	a.same()
	b.same()
}

func TestPutRefusesAnIdThatIsThere(t *testing.T) {
	b := twoOf(t, 9, api.Timer{Due: 5, Id: 7}, api.Timer{Due: 6, Id: -7}, api.Timer{})
	for _, id := range []int{7, -7, 0} {
		for _, due := range []int64{5, 6, 0, -1, math.MinInt64, math.MaxInt64} {
			if e := b.put(api.Timer{Due: due, Id: id}); e != api.ErrTimer {
				t.Errorf("Put of Id %d: error %d; want %d", id, e, api.ErrTimer)
			}
			b.same()
		}
	}
}

func TestPutRefusesWhenFull(t *testing.T) {
	for most := 1; most <= 9; most++ {
		b := twoOf(t, most)
		for id := range most {
			b.put(api.Timer{Due: int64(most - id), Id: id})
		}
		if e := b.put(api.Timer{Due: 0, Id: most}); e != api.ErrFull {
			t.Errorf("Put behind %d of %d: error %d; want %d", most, most, e, api.ErrFull)
		}
		b.same()
		// An Id that is there is named ahead of a heap that is full.
		if e := b.put(api.Timer{Due: 0, Id: most - 1}); e != api.ErrTimer {
			t.Errorf("Put of an Id that is there in a full heap: error %d; want %d", e, api.ErrTimer)
		}
		b.same()
	}
}

func TestRoomForOneBehindOneThatHasGone(t *testing.T) {
	ways := map[string]func(b *both){
		"Drop": func(b *both) { b.drop(1) },
		"Pop":  func(b *both) { b.pop() },
		"Due":  func(b *both) { b.due(1) },
	}
	for name, leave := range ways {
		b := twoOf(t, 3, timersDue(1, 2, 3)...)
		leave(b)
		if e := b.put(api.Timer{Due: 0, Id: 8}); e != api.OK {
			t.Errorf("Put behind %s: error %d", name, e)
		}
		if e := b.put(api.Timer{Due: 0, Id: 9}); e != api.ErrFull {
			t.Errorf("Put behind %s, and one: error %d; want %d", name, e, api.ErrFull)
		}
		b.same()
	}
}

func TestNoRoomBehindWhatWasRefused(t *testing.T) {
	b := twoOf(t, 2, timersDue(1, 2)...)
	b.drop(7)
	b.due(0)
	b.heap.Next()
	b.heap.Get(1)
	b.heap.All()
	if e := b.put(api.Timer{Due: 0, Id: 8}); e != api.ErrFull {
		t.Errorf("Put: error %d; want %d", e, api.ErrFull)
	}
	b.same()
}

func TestAsManyAsThereMayBe(t *testing.T) {
	h := newHeap(t, mostTimers)
	var want []api.Timer
	for i := range mostTimers {
		// An odd factor leads to each Id below 2^16 just once.
		id := i * 40503 % mostTimers
		x := api.Timer{Due: int64(id % 1000), Id: id - 1000}
		if e := h.Put(x); e != api.OK {
			t.Fatalf("Put(%v), the timer %d: error %d", x, i, e)
		}
		want = append(want, x)
	}
	slices.SortFunc(want, compare)
	if e := h.Put(api.Timer{Due: 0, Id: mostTimers}); e != api.ErrFull {
		t.Errorf("Put, one more: error %d; want %d", e, api.ErrFull)
	}
	if all := h.All(); !slices.Equal(all, want) || h.Len() != mostTimers {
		t.Errorf("All = %s, Len = %d", brief(all), h.Len())
	}
	early := slices.IndexFunc(want, func(x api.Timer) bool { return x.Due > 400 })
	if got := h.Due(400); !slices.Equal(got, want[:early]) || h.Len() != mostTimers-early {
		t.Errorf("Due(400) = %s, Len = %d", brief(got), h.Len())
	}
	for _, x := range want[early:] {
		if got, ok := h.Pop(); got != x || !ok {
			t.Fatalf("Pop = %v, %v; want %v", got, ok, x)
		}
	}
	if _, ok := h.Pop(); ok || h.Len() != 0 {
		t.Errorf("there are %d left", h.Len())
	}
}

// compare is the chapter's order for the library's sorting.
func compare(a, b api.Timer) int {
	if isAhead(a, b) {
		return -1
	}
	if isAhead(b, a) {
		return 1
	}
	return 0
}

func TestDropRefusesAnIdThatIsNotThere(t *testing.T) {
	b := twoOf(t, 9)
	for _, id := range []int{0, 1, -1, math.MinInt, math.MaxInt} {
		if _, e := b.drop(id); e != api.ErrTimer {
			t.Errorf("Drop(%d) of none: error %d; want %d", id, e, api.ErrTimer)
		}
	}
	for _, x := range timersDue(30, 10, 20) {
		b.put(x)
	}
	// A Due, and a place behind all, are no Ids.
	for _, id := range []int{3, -1, 10, math.MinInt, math.MaxInt} {
		if _, e := b.drop(id); e != api.ErrTimer {
			t.Errorf("Drop(%d): error %d; want %d", id, e, api.ErrTimer)
		}
		b.same()
	}
	b.drop(1)
	if _, e := b.drop(1); e != api.ErrTimer {
		t.Errorf("Drop(1) twice: error %d; want %d", e, api.ErrTimer)
	}
	b.same()
}

func TestPutAgainWithAnotherDue(t *testing.T) {
	ways := map[string]func(b *both){
		"Drop": func(b *both) { b.drop(0) },
		"Pop":  func(b *both) { b.pop() },
		"Due":  func(b *both) { b.due(10) },
	}
	for name, leave := range ways {
		for _, due := range []int64{10, 9, 0, -1, 15, 20, 25, 30, 99, math.MinInt64, math.MaxInt64} {
			b := twoOf(t, 4, timersDue(10, 20, 30, 20)...)
			leave(b)
			b.get(0)
			if e := b.put(api.Timer{Due: due, Id: 0}); e != api.OK {
				t.Errorf("Put behind %s, with Due %d: error %d", name, due, e)
			}
			b.same()
			b.empty()
		}
	}
}

// P7.2: Get, Next, Pop, Due, Len and All.

func TestOfAnEmptyHeap(t *testing.T) {
	never := newHeap(t, 3)
	emptied := newHeap(t, 3)
	emptied.Put(api.Timer{Due: 4, Id: 5})
	emptied.Put(api.Timer{Due: 4, Id: 0})
	emptied.Pop()
	emptied.Drop(5)
	for _, h := range []*heap.Heap{never, emptied} {
		for _, id := range []int{0, 5, -1, 1} {
			if x, ok := h.Get(id); x != (api.Timer{}) || ok {
				t.Errorf("Get(%d) = %v, %v", id, x, ok)
			}
		}
		if x, ok := h.Next(); x != (api.Timer{}) || ok {
			t.Errorf("Next = %v, %v", x, ok)
		}
		if x, ok := h.Pop(); x != (api.Timer{}) || ok {
			t.Errorf("Pop = %v, %v", x, ok)
		}
		if due := h.Due(math.MaxInt64); len(due) != 0 {
			t.Errorf("Due = %v", due)
		}
		if all := h.All(); len(all) != 0 || h.Len() != 0 {
			t.Errorf("All = %v, Len = %d", all, h.Len())
		}
	}
}

func TestDuesAndIdsAtTheEnds(t *testing.T) {
	dues := []int64{math.MinInt64, math.MinInt64 + 1, -1, 0, 1, math.MaxInt64 - 1, math.MaxInt64}
	ids := []int{math.MaxInt, math.MaxInt - 1, 1, 0, -1, math.MinInt + 1, math.MinInt}
	for turn := range len(dues) {
		b := twoOf(t, 9)
		for i := range dues {
			b.put(api.Timer{Due: dues[(i*3+turn)%7], Id: ids[i]})
			b.same()
		}
		b.get(7)
		for _, now := range dues {
			b.due(now)
			b.same()
		}
	}
	// All due at one time: the Ids alone tell which one is ahead.
	for _, due := range dues {
		b := twoOf(t, 9)
		for i := range ids {
			b.put(api.Timer{Due: due, Id: ids[i*3%7]})
		}
		b.same()
		b.empty()
	}
}

func TestNextChangesNothing(t *testing.T) {
	b := twoOf(t, 9, timersDue(5, 3, 4)...)
	for range 3 {
		if x, ok := b.heap.Next(); x != (api.Timer{Due: 3, Id: 1}) || !ok {
			t.Errorf("Next = %v, %v", x, ok)
		}
		b.same()
	}
}

func TestGetChangesNothing(t *testing.T) {
	b := twoOf(t, 9, timersDue(5, 3, 4)...)
	for range 2 {
		for id, due := range []int64{5, 3, 4} {
			if x, ok := b.heap.Get(id); x != (api.Timer{Due: due, Id: id}) || !ok {
				t.Errorf("Get(%d) = %v, %v", id, x, ok)
			}
		}
		b.same()
	}
	for _, id := range []int{3, -1, 5, math.MinInt, math.MaxInt} {
		b.get(id)
	}
}

func TestDueOfAnyTime(t *testing.T) {
	for _, now := range []int64{math.MinInt64, -3, -2, -1, 0, 1, 4, 5, 6, 8, 9, 10, math.MaxInt64} {
		b := twoOf(t, 9, timersDue(9, 5, -2, 5, 0, 9, 5, -2)...)
		b.due(now)
		b.same()
		if again := b.due(now); len(again) != 0 {
			t.Errorf("Due(%d) again = %v", now, again)
		}
		b.same()
		b.empty()
	}
}

func TestDueOfATimeAheadOfTheLastOne(t *testing.T) {
	b := twoOf(t, 9, timersDue(9, 5, 7)...)
	b.due(7)
	// Time may be told going back: what is due then was put behind the former call.
	b.put(api.Timer{Due: 2, Id: 8})
	if got := b.due(3); !slices.Equal(got, []api.Timer{{Due: 2, Id: 8}}) {
		t.Errorf("Due(3) = %v", got)
	}
	b.same()
}

// P7.3: what follows.

// permutations calls f with each order of the numbers below n.
func permutations(n int, f func(order []int)) {
	order := make([]int, n)
	for i := range order {
		order[i] = i
	}
	var fill func(k int)
	fill = func(k int) {
		if k == n {
			f(order)
			return
		}
		for i := k; i < n; i++ {
			order[k], order[i] = order[i], order[k]
			fill(k + 1)
			order[k], order[i] = order[i], order[k]
		}
	}
	fill(0)
}

func TestAnyOrderOfPutting(t *testing.T) {
	for n := 1; n <= 6; n++ {
		permutations(n, func(order []int) {
			for _, dues := range [][]int64{{0, 1, 2, 3, 4, 5}, {0, 0, 0, 0, 0, 0}, {0, 0, 1, 1, 2, 2}, {1, 0, 1, 0, 1, 0}} {
				b := twoOf(t, n)
				for _, id := range order {
					b.put(api.Timer{Due: dues[id], Id: id})
				}
				b.same()
				b.empty()
			}
		})
	}
}

func TestAnyOrderOfStrikingOut(t *testing.T) {
	for n := 1; n <= 6; n++ {
		permutations(n, func(order []int) {
			for _, dues := range [][]int64{{0, 1, 2, 3, 4, 5}, {5, 4, 3, 2, 1, 0}, {0, 0, 0, 0, 0, 0}, {0, 3, 1, 4, 5, 2}} {
				b := twoOf(t, n, timersDue(dues[:n]...)...)
				for _, id := range order {
					b.drop(id)
					b.get(id)
					b.same()
				}
			}
		})
	}
}

func TestOneStruckOutOfTheMidst(t *testing.T) {
	// Put in this order they stand in this order: what is last stands in the branch of 10; if it comes to the one of 50, it has to go up there.
	up := timersDue(0, 50, 10, 60, 70, 20, 30, 61, 62, 71, 72, 21, 22)
	// Here it may come to a place with others below it that are ahead of it, and has to go down.
	down := timersDue(0, 10, 50, 20, 30, 60, 70, 21, 22, 31, 32, 61, 62)
	for _, all := range [][]api.Timer{up, down, timersDue(4, 4, 4, 4, 4, 4, 4, 4, 4, 4)} {
		for n := 1; n <= len(all); n++ {
			for id := range n {
				b := twoOf(t, len(all), all[:n]...)
				b.drop(id)
				b.same()
				b.put(api.Timer{Due: 15, Id: id})
				b.same()
				b.empty()
			}
		}
	}
}

func TestTwoStruckOutOfTheMidst(t *testing.T) {
	all := timersDue(0, 50, 10, 60, 70, 20, 30, 61, 62, 71, 72, 21, 22, 31, 32)
	for one := range all {
		for two := range all {
			b := twoOf(t, len(all), all...)
			b.drop(one)
			b.drop(two)
			b.same()
			b.due(30)
			b.same()
			b.empty()
		}
	}
}

// deeds does things to a heap and a list in the order that bytes tell, all Ids and Dues near each other, so that they meet.
func deeds(t *testing.T, most int, told []byte) {
	t.Helper()
	b := twoOf(t, most)
	for i := 0; i+2 < len(told); i += 3 {
		id, due := int(int8(told[i+1]))/4, int64(int8(told[i+2]))/8
		switch told[i] % 8 {
		case 0, 1, 2, 3:
			b.put(api.Timer{Due: due, Id: id})
		case 4, 5:
			b.drop(id)
		case 6:
			b.pop()
		case 7:
			b.due(due - 8)
		}
		b.get(id)
		b.same()
	}
	b.empty()
}

func TestAnyDeedsAgainstAList(t *testing.T) {
	rounds := 400
	if testing.Short() {
		rounds = 40
	}
	for seed := range rounds {
		deeds(t, []int{1, 2, 3, 7, 20, 100}[seed%6], noise(uint64(seed), 900))
	}
}

// noise answers bytes of no order, the same ones for a seed each time.
func noise(seed uint64, n int) []byte {
	b := make([]byte, n)
	x := seed*2862933555777941757 + 3037000493
	for i := range b {
		x ^= x << 13
		x ^= x >> 7
		x ^= x << 17
		b[i] = byte(x >> 32)
	}
	return b
}

func FuzzDeeds(f *testing.F) {
	f.Add(5, noise(1, 60))
	f.Add(1, noise(2, 60))
	f.Fuzz(func(t *testing.T, most int, told []byte) {
		if most < 1 || most > mostTimers || len(told) > 3000 {
			t.Skip()
		}
		deeds(t, most, told)
	})
}

// R3: what is handed out is new.

func TestWhatIsHandedOutIsNew(t *testing.T) {
	b := twoOf(t, 20, timersDue(9, 5, -2, 5, 0, 9, 5, -2, 11, 12, 13)...)
	all, again := b.heap.All(), b.heap.All()
	scrawl(all)
	b.same()
	if !slices.Equal(again, b.list.timers) {
		t.Errorf("All, another answer written over: %v", again)
	}
	due := b.due(5)
	want := slices.Clone(due)
	scrawl(again)
	if !slices.Equal(due, want) {
		t.Errorf("Due, another answer written over: %v", due)
	}
	later := b.due(9)
	want = slices.Clone(later)
	scrawl(due)
	b.same()
	for id := 20; id < 27; id++ {
		b.put(api.Timer{Due: 1, Id: id})
	}
	if !slices.Equal(later, want) {
		t.Errorf("Due, behind another answer written over, and Put: %v; want %v", later, want)
	}
	scrawl(later)
	b.same()
	b.empty()
}

// scrawl writes over a list, and what room there is behind it.
func scrawl(l []api.Timer) {
	l = l[:cap(l)]
	for i := range l {
		l[i] = api.Timer{Due: -77, Id: 777 + i}
	}
}

func TestAnswersDoNotChangeWithTheHeap(t *testing.T) {
	b := twoOf(t, 9, timersDue(9, 5, 7)...)
	all := b.heap.All()
	b.pop()
	b.put(api.Timer{Due: 1, Id: 8})
	b.due(100)
	if want := []api.Timer{{Due: 5, Id: 1}, {Due: 7, Id: 2}, {Due: 9, Id: 0}}; !slices.Equal(all, want) {
		t.Errorf("All's answer behind changes: %v; want %v", all, want)
	}
}

// R5: no heap, and a heap that New did not make.

func TestNoHeap(t *testing.T) {
	for name, h := range map[string]*heap.Heap{"nil": nil, "one that New did not make": {}, "another": new(heap.Heap)} {
		if e := h.Put(api.Timer{Due: 1, Id: 2}); e != api.ErrNil {
			t.Errorf("Put of %s: error %d; want %d", name, e, api.ErrNil)
		}
		if x, e := h.Drop(2); x != (api.Timer{}) || e != api.ErrNil {
			t.Errorf("Drop of %s: %v, error %d; want %d", name, x, e, api.ErrNil)
		}
		if x, ok := h.Get(2); x != (api.Timer{}) || ok {
			t.Errorf("Get of %s: %v, %v", name, x, ok)
		}
		if x, ok := h.Next(); x != (api.Timer{}) || ok {
			t.Errorf("Next of %s: %v, %v", name, x, ok)
		}
		if x, ok := h.Pop(); x != (api.Timer{}) || ok {
			t.Errorf("Pop of %s: %v, %v", name, x, ok)
		}
		if l := h.Due(math.MaxInt64); len(l) != 0 {
			t.Errorf("Due of %s: %v", name, l)
		}
		if l := h.All(); len(l) != 0 || h.Len() != 0 {
			t.Errorf("All of %s: %v, Len %d", name, l, h.Len())
		}
	}
}

func TestACopyOfAHeapIsThatHeap(t *testing.T) {
	b := twoOf(t, 3, timersDue(5, 4)...)
	twin := *b.heap
	if e := twin.Put(api.Timer{Due: 1, Id: 9}); e != api.OK {
		t.Errorf("Put: error %d", e)
	}
	b.list.put(api.Timer{Due: 1, Id: 9})
	b.same()
	b.drop(9)
	b.heap = &twin
	b.same()
}
