package ring_test

import (
	"fmt"
	"slices"
	"strings"
	"testing"

	"millwheel/api"
	"millwheel/ring"
)

// What the tests hold rings against: lists in the order in which they were put, each name's beside the others'. A name is struck out of them nowhere; which queues are there is counted each time.

const (
	mostNumbers = 1 << 16
	mostQueues  = 1000
	mostName    = 40
)

type line struct {
	name    string
	most    int
	numbers []int
}

type lists struct {
	most  int
	lines []*line
}

// line answers the one of a name, and begins it where there is none.
func (l *lists) line(name string) *line {
	for _, x := range l.lines {
		if x.name == name {
			return x
		}
	}
	x := &line{name: name, most: l.most}
	l.lines = append(l.lines, x)
	return x
}

// isThere tells whether anything tells the line from one that nothing was done to.
func (l *lists) isThere(x *line) bool {
	return len(x.numbers) > 0 || x.most != l.most
}

func (l *lists) there() int {
	n := 0
	for _, x := range l.lines {
		if l.isThere(x) {
			n++
		}
	}
	return n
}

func isName(name string) bool {
	return name != "" && len(name) <= mostName
}

func (l *lists) cap(name string, most int) api.Errno {
	if !isName(name) || most < 1 || most > mostNumbers {
		return api.ErrArg
	}
	x := l.line(name)
	was := x.most
	x.most = most
	if l.there() > mostQueues {
		x.most = was
		return api.ErrFull
	}
	return api.OK
}

func (l *lists) put(name string, n int) api.Errno {
	if !isName(name) {
		return api.ErrArg
	}
	x := l.line(name)
	if len(x.numbers) >= x.most {
		return api.ErrBusy
	}
	x.numbers = append(x.numbers, n)
	if l.there() > mostQueues {
		x.numbers = nil
		return api.ErrFull
	}
	return api.OK
}

func (l *lists) all(name string) []int {
	if !isName(name) {
		return nil
	}
	return l.line(name).numbers
}

func (l *lists) look(name string) (int, bool) {
	if all := l.all(name); len(all) > 0 {
		return all[0], true
	}
	return 0, false
}

func (l *lists) strike(name string, at int) {
	x := l.line(name)
	x.numbers = slices.Concat(x.numbers[:at], x.numbers[at+1:])
}

func (l *lists) take(name string) (int, bool) {
	n, ok := l.look(name)
	if ok {
		l.strike(name, 0)
	}
	return n, ok
}

func (l *lists) drop(name string, n int) bool {
	for at, x := range l.all(name) {
		if x == n {
			l.strike(name, at)
			return true
		}
	}
	return false
}

func (l *lists) room(name string) int {
	if !isName(name) {
		return 0
	}
	x := l.line(name)
	if len(x.numbers) > x.most {
		return 0
	}
	return x.most - len(x.numbers)
}

func (l *lists) names() []string {
	var names []string
	for _, x := range l.lines {
		if len(x.numbers) > 0 {
			names = append(names, x.name)
		}
	}
	slices.SortFunc(names, strings.Compare)
	return names
}

// both is rings, and the lists that they have to be as; each deed is done to both of them, and their answers are held against each other.
type both struct {
	t     *testing.T
	rings *ring.Rings
	lists lists
}

// twoOf answers rings and lists of one cap.
func twoOf(t *testing.T, most int) *both {
	t.Helper()
	return &both{t: t, rings: newRings(t, most), lists: lists{most: most}}
}

// twoWith answers rings and lists of one cap, with these numbers in the queue a.
func twoWith(t *testing.T, most int, numbers ...int) *both {
	t.Helper()
	b := twoOf(t, most)
	b.putAll("a", numbers...)
	return b
}

func newRings(t *testing.T, most int) *ring.Rings {
	t.Helper()
	r, e := ring.New(most)
	if e != api.OK || r == nil {
		t.Fatalf("New(%d): %v, error %d", most, r, e)
	}
	return r
}

func (b *both) cap(name string, most int) api.Errno {
	b.t.Helper()
	got, want := b.rings.Cap(name, most), b.lists.cap(name, most)
	if got != want {
		b.t.Fatalf("Cap(%q, %d): error %d; want %d", name, most, got, want)
	}
	return got
}

func (b *both) put(name string, n int) api.Errno {
	b.t.Helper()
	got, want := b.rings.Put(name, n), b.lists.put(name, n)
	if got != want {
		b.t.Fatalf("Put(%q, %d): error %d; want %d", name, n, got, want)
	}
	return got
}

// putAll puts numbers for all of which there has to be room.
func (b *both) putAll(name string, numbers ...int) {
	b.t.Helper()
	for _, n := range numbers {
		if e := b.put(name, n); e != api.OK {
			b.t.Fatalf("Put(%q, %d): error %d", name, n, e)
		}
	}
}

func (b *both) look(name string) {
	b.t.Helper()
	got, ok := b.rings.Look(name)
	want, wantOk := b.lists.look(name)
	if got != want || ok != wantOk {
		b.t.Fatalf("Look(%q) = %d, %v; want %d, %v", name, got, ok, want, wantOk)
	}
}

func (b *both) take(name string) (int, bool) {
	b.t.Helper()
	got, ok := b.rings.Take(name)
	want, wantOk := b.lists.take(name)
	if got != want || ok != wantOk {
		b.t.Fatalf("Take(%q) = %d, %v; want %d, %v", name, got, ok, want, wantOk)
	}
	return got, ok
}

func (b *both) drop(name string, n int) bool {
	b.t.Helper()
	got, want := b.rings.Drop(name, n), b.lists.drop(name, n)
	if got != want {
		b.t.Fatalf("Drop(%q, %d) = %v; want %v", name, n, got, want)
	}
	return got
}

// sameOf holds one queue against its list, by calls that change nothing.
func (b *both) sameOf(name string) {
	b.t.Helper()
	b.look(name)
	want := b.lists.all(name)
	if got := b.rings.All(name); !slices.Equal(got, want) {
		b.t.Fatalf("All(%q) = %s; want %s", name, brief(got), brief(want))
	}
	if got := b.rings.Len(name); got != len(want) {
		b.t.Fatalf("Len(%q) = %d; want %d", name, got, len(want))
	}
	if got, want := b.rings.Room(name), b.lists.room(name); got != want {
		b.t.Fatalf("Room(%q) = %d; want %d", name, got, want)
	}
}

// same holds all that is there against each other.
func (b *both) same() {
	b.t.Helper()
	for _, x := range b.lists.lines {
		b.sameOf(x.name)
	}
	if got, want := b.rings.Names(), b.lists.names(); !slices.Equal(got, want) {
		b.t.Fatalf("Names = %.200q; want %.200q", got, want)
	}
}

// empty takes all numbers out of a queue, one by one.
func (b *both) empty(name string) {
	b.t.Helper()
	for {
		if _, ok := b.take(name); !ok {
			break
		}
	}
	b.sameOf(name)
}

// emptyAll takes all numbers out of all queues.
func (b *both) emptyAll() {
	b.t.Helper()
	for _, x := range b.lists.lines {
		b.empty(x.name)
	}
	b.same()
}

// brief is numbers for a test's report: there may be many.
func brief(numbers []int) string {
	return fmt.Sprintf("%d numbers %.200s", len(numbers), fmt.Sprint(numbers))
}

// nth is a name for each number.
func nth(i int) string {
	return fmt.Sprintf("queue %d", i)
}
