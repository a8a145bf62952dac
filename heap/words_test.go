package heap_test

import (
	"fmt"
	"slices"
	"testing"

	"millwheel/api"
	"millwheel/heap"
)

// What the tests hold heap against: a list that is always in order, and is gone through from its first timer on.

const mostTimers = 1 << 16

type list struct {
	most   int
	timers []api.Timer
}

// isAhead tells whether one timer is ahead of another, by the chapter's words.
func isAhead(a, b api.Timer) bool {
	if a.Due == b.Due {
		return a.Id < b.Id
	}
	return a.Due < b.Due
}

func (l *list) find(id int) int {
	return slices.IndexFunc(l.timers, func(t api.Timer) bool { return t.Id == id })
}

func (l *list) put(t api.Timer) api.Errno {
	if l.find(t.Id) >= 0 {
		return api.ErrTimer
	}
	if len(l.timers) >= l.most {
		return api.ErrFull
	}
	at := 0
	for at < len(l.timers) && isAhead(l.timers[at], t) {
		at++
	}
	l.timers = slices.Insert(l.timers, at, t)
	return api.OK
}

func (l *list) drop(id int) (api.Timer, api.Errno) {
	at := l.find(id)
	if at < 0 {
		return api.Timer{}, api.ErrTimer
	}
	gone := l.timers[at]
	l.timers = slices.Delete(l.timers, at, at+1)
	return gone, api.OK
}

func (l *list) get(id int) (api.Timer, bool) {
	at := l.find(id)
	if at < 0 {
		return api.Timer{}, false
	}
	return l.timers[at], true
}

func (l *list) next() (api.Timer, bool) {
	if len(l.timers) == 0 {
		return api.Timer{}, false
	}
	return l.timers[0], true
}

func (l *list) pop() (api.Timer, bool) {
	first, ok := l.next()
	if ok {
		l.timers = slices.Delete(l.timers, 0, 1)
	}
	return first, ok
}

func (l *list) due(now int64) []api.Timer {
	n := 0
	for n < len(l.timers) && l.timers[n].Due <= now {
		n++
	}
	gone := slices.Clone(l.timers[:n])
	l.timers = slices.Delete(l.timers, 0, n)
	return gone
}

// both is a heap, and the list that it has to be as; each deed is done to both of them, and their answers are held against each other.
type both struct {
	t    *testing.T
	heap *heap.Heap
	list list
}

// twoOf answers a heap and a list of one most that have these timers.
func twoOf(t *testing.T, most int, timers ...api.Timer) *both {
	t.Helper()
	b := &both{t: t, heap: newHeap(t, most), list: list{most: most}}
	for _, x := range timers {
		if e := b.put(x); e != api.OK {
			t.Fatalf("Put(%v): error %d", x, e)
		}
	}
	return b
}

func newHeap(t *testing.T, most int) *heap.Heap {
	t.Helper()
	h, e := heap.New(most)
	if e != api.OK || h == nil {
		t.Fatalf("New(%d): %v, error %d", most, h, e)
	}
	return h
}

func (b *both) put(x api.Timer) api.Errno {
	b.t.Helper()
	got, want := b.heap.Put(x), b.list.put(x)
	if got != want {
		b.t.Fatalf("Put(%v): error %d; want %d", x, got, want)
	}
	return got
}

func (b *both) drop(id int) (api.Timer, api.Errno) {
	b.t.Helper()
	got, e := b.heap.Drop(id)
	want, wantE := b.list.drop(id)
	if got != want || e != wantE {
		b.t.Fatalf("Drop(%d) = %v, error %d; want %v, error %d", id, got, e, want, wantE)
	}
	return got, e
}

func (b *both) get(id int) {
	b.t.Helper()
	got, ok := b.heap.Get(id)
	want, wantOk := b.list.get(id)
	if got != want || ok != wantOk {
		b.t.Fatalf("Get(%d) = %v, %v; want %v, %v", id, got, ok, want, wantOk)
	}
}

func (b *both) next() {
	b.t.Helper()
	got, ok := b.heap.Next()
	want, wantOk := b.list.next()
	if got != want || ok != wantOk {
		b.t.Fatalf("Next = %v, %v; want %v, %v", got, ok, want, wantOk)
	}
}

func (b *both) pop() (api.Timer, bool) {
	b.t.Helper()
	got, ok := b.heap.Pop()
	want, wantOk := b.list.pop()
	if got != want || ok != wantOk {
		b.t.Fatalf("Pop = %v, %v; want %v, %v", got, ok, want, wantOk)
	}
	return got, ok
}

func (b *both) due(now int64) []api.Timer {
	b.t.Helper()
	got, want := b.heap.Due(now), b.list.due(now)
	if !slices.Equal(got, want) {
		b.t.Fatalf("Due(%d) = %s; want %s", now, brief(got), brief(want))
	}
	return got
}

// same holds what is there against each other, by calls that change nothing.
func (b *both) same() {
	b.t.Helper()
	b.next()
	if got, want := b.heap.Len(), len(b.list.timers); got != want {
		b.t.Fatalf("Len = %d; want %d", got, want)
	}
	if got := b.heap.All(); !slices.Equal(got, b.list.timers) {
		b.t.Fatalf("All = %s; want %s", brief(got), brief(b.list.timers))
	}
	for _, x := range b.list.timers {
		b.get(x.Id)
	}
}

// empty lets all timers out, one by one.
func (b *both) empty() {
	b.t.Helper()
	for range len(b.list.timers) {
		b.pop()
	}
	b.same()
}

// brief is timers for a test's report: there may be many.
func brief(timers []api.Timer) string {
	return fmt.Sprintf("%d timers %.200s", len(timers), fmt.Sprint(timers))
}

// timersDue are those of these Dues, their Ids their places.
func timersDue(dues ...int64) []api.Timer {
	var all []api.Timer
	for id, due := range dues {
		all = append(all, api.Timer{Due: due, Id: id})
	}
	return all
}
