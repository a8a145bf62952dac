package log_test

import (
	"bytes"
	"encoding/binary"
	"fmt"
	"math"
	"math/rand"
	"slices"
	"strconv"
	"strings"
	"testing"

	"millwheel/api"
	"millwheel/disk"
	"millwheel/frame"
	"millwheel/log"
)

// newDisk answers a new disk for so many bytes.
func newDisk(t *testing.T, most int) *disk.Disk {
	t.Helper()
	d, e := disk.New(most)
	if e != api.OK {
		t.Fatalf("disk.New(%d): error %d", most, e)
	}
	return d
}

// begun answers a log that begins on a disk, which has to go.
func begun(t *testing.T, d *disk.Disk, size, last int) *log.Log {
	t.Helper()
	l, e := log.Begin(d, size, last)
	if e != api.OK || l == nil {
		t.Fatalf("Begin(%d, %d): %v, error %d", size, last, l, e)
	}
	return l
}

// resumed answers a log that goes on with segments, which has to go.
func resumed(t *testing.T, d *disk.Disk, size int, firsts []int, last int) *log.Log {
	t.Helper()
	l, e := log.Resume(d, size, firsts, last)
	if e != api.OK || l == nil {
		t.Fatalf("Resume(%d, %v, %d): %v, error %d", size, firsts, last, l, e)
	}
	return l
}

// writes fails the test unless a batch of these texts is written, and is that one.
func writes(t *testing.T, l *log.Log, want int, all ...string) {
	t.Helper()
	if n, e := l.Write(texts(all...)); n != want || e != api.OK {
		t.Fatalf("Write: %d, error %d, want %d", n, e, want)
	}
}

// writesNot fails the test unless Write tells that error alone.
func writesNot(t *testing.T, l *log.Log, recs [][]byte, want api.Errno) {
	t.Helper()
	if n, e := l.Write(recs); n != 0 || e != want {
		t.Errorf("Write of %d records: %d, error %d, want error %d", len(recs), n, e, want)
	}
}

// tells fails the test unless a call told that error.
func tells(t *testing.T, what string, got, want api.Errno) {
	t.Helper()
	if got != want {
		t.Errorf("%s: error %d, want %d", what, got, want)
	}
}

// trims fails the test unless Trim tells just these names, and that error.
func trims(t *testing.T, l *log.Log, below int, want api.Errno, names ...string) {
	t.Helper()
	if got, e := l.Trim(below); !slices.Equal(got, names) || e != want {
		t.Errorf("Trim(%d): %q, error %d; want %q, error %d", below, got, e, names, want)
	}
}

// stands fails the test unless a log that is not over stands so.
func stands(t *testing.T, l *log.Log, last, acked int, names ...string) {
	t.Helper()
	if l.Last() != last || l.Acked() != acked || !slices.Equal(l.Files(), names) || l.Over() {
		t.Errorf("last %d, acked %d, files %q, over %v; want %d, %d, %q", l.Last(), l.Acked(), l.Files(), l.Over(), last, acked, names)
	}
}

// ended fails the test unless a log is over, stands so, and does nothing any more, not even with a disk that has power again.
func ended(t *testing.T, d *disk.Disk, l *log.Log, last, acked int, names ...string) {
	t.Helper()
	d.Crash(nil, nil)
	was := shown(d)
	for range 2 {
		if l.Last() != last || l.Acked() != acked || !slices.Equal(l.Files(), names) || !l.Over() {
			t.Errorf("last %d, acked %d, files %q, over %v; want %d, %d, %q, over", l.Last(), l.Acked(), l.Files(), l.Over(), last, acked, names)
		}
		writesNot(t, l, texts("a"), api.ErrEnded)
		writesNot(t, l, nil, api.ErrEnded)
		writesNot(t, l, [][]byte{make([]byte, 2*api.MaxFrame)}, api.ErrEnded)
		tells(t, "Sync", l.Sync(), api.ErrEnded)
		trims(t, l, math.MaxInt, api.ErrEnded)
		trims(t, l, 0, api.ErrEnded)
	}
	if now := shown(d); now != was {
		t.Errorf("a log that is over has changed its disk:\n%s\nwas\n%s", now, was)
	}
}

// shown is all that a disk tells of itself.
func shown(d *disk.Disk) string {
	var all strings.Builder
	fmt.Fprintln(&all, "down", d.Down(), "used", d.Used())
	for _, name := range d.List() {
		b, e := d.Read(name)
		fmt.Fprintf(&all, "%s: size %d, synced %d, error %d, %x\n", name, d.Size(name), d.Synced(name), e, b)
	}
	return all.String()
}

// file fails the test unless a file has the head of a segment, and these batches' frames behind it, and so many synced bytes.
func file(t *testing.T, d *disk.Disk, first, synced int, all ...api.Batch) {
	t.Helper()
	want := headed(first)
	for _, b := range all {
		want = append(want, framed(writtenRight(b))...)
	}
	name := "w" + strconv.Itoa(first)
	if got, e := d.Read(name); e != api.OK || !bytes.Equal(got, want) || d.Synced(name) != synced {
		t.Errorf("%s: %x (error %d), %d synced; want %x, %d synced", name, got, e, d.Synced(name), want, synced)
	}
}

// batch is one of texts.
func batch(n int, all ...string) api.Batch {
	return api.Batch{N: n, Recs: texts(all...)}
}

// filling is a text of which a batch of number n (below 128) makes a frame of so many bytes (below 128).
func filling(size int) string {
	return strings.Repeat("f", size-9)
}

// P4.2: Begin, Resume.

func TestBeginTakesSizesAndLasts(t *testing.T) {
	d := newDisk(t, 1000)
	for _, size := range []int{api.MinSize, api.MinSize + 1, 1000, api.MaxDisk - 1, api.MaxDisk} {
		for _, last := range []int{0, 1, 7, 1<<59 - 1, 1 << 59} {
			stands(t, begun(t, d, size, last), last, last)
		}
	}
	for _, size := range []int{math.MinInt, -64, -1, 0, 1, api.MinSize - 1, api.MaxDisk + 1, math.MaxInt} {
		if l, e := log.Begin(d, size, 0); l != nil || e != api.ErrArg {
			t.Errorf("Begin of size %d: %v, error %d", size, l, e)
		}
	}
	for _, last := range []int{math.MinInt, -7, -1, 1<<59 + 1, 1 << 60, math.MaxInt} {
		if l, e := log.Begin(d, 64, last); l != nil || e != api.ErrArg {
			t.Errorf("Begin behind %d: %v, error %d", last, l, e)
		}
	}
}

func TestBeginAndResumeWithoutADisk(t *testing.T) {
	for what, d := range map[string]*disk.Disk{"nil": nil, "not made": {}, "new": new(disk.Disk)} {
		for _, size := range []int{64, 63, 0, -1, api.MaxDisk + 1} {
			for _, last := range []int{0, 7, -1, 1<<59 + 1} {
				if l, e := log.Begin(d, size, last); l != nil || e != api.ErrNil {
					t.Errorf("%s: Begin(%d, %d): %v, error %d", what, size, last, l, e)
				}
				for _, firsts := range [][]int{nil, {1}, {0}, {2, 1}, {last + 9}} {
					if l, e := log.Resume(d, size, firsts, last); l != nil || e != api.ErrNil {
						t.Errorf("%s: Resume(%d, %v, %d): %v, error %d", what, size, firsts, last, l, e)
					}
				}
			}
		}
	}
}

// Neither call does anything with the disk: a fuse of 0 stays, one that is dark is taken.
func TestBeginAndResumeLeaveTheDisk(t *testing.T) {
	d := newDisk(t, 1000)
	d.Append("w1", headed(1))
	d.Append("other", []byte("x"))
	was := shown(d)
	d.Arm(0)
	begun(t, d, 64, 0)
	resumed(t, d, 64, []int{1}, 0)
	if shown(d) != was {
		t.Errorf("the disk is %s, was %s", shown(d), was)
	}
	tells(t, "the fuse of 0", d.Sync("other"), api.ErrDown)

	l := begun(t, d, 64, 7)
	stands(t, l, 7, 7)
	stands(t, resumed(t, d, 64, []int{1}, 7), 7, 7, "w1")
	tells(t, "Sync, with no segment, of a dark disk", l.Sync(), api.OK)
	writesNot(t, l, texts("a"), api.ErrDown)
	ended(t, d, l, 7, 7)
}

func TestResumeTakesFirsts(t *testing.T) {
	d := newDisk(t, 1000)
	const far = 1 << 59
	for _, one := range []struct {
		firsts []int
		last   int
		names  []string
	}{
		{[]int{1}, 0, []string{"w1"}},
		{[]int{1}, 1, []string{"w1"}},
		{[]int{1}, far, []string{"w1"}},
		{[]int{8}, 7, []string{"w8"}},
		{[]int{7}, 7, []string{"w7"}},
		{[]int{6}, 7, []string{"w6"}},
		{[]int{1, 2}, 1, []string{"w1", "w2"}},
		{[]int{1, 2, 9, 10, 11}, 10, []string{"w1", "w2", "w9", "w10", "w11"}},
		{[]int{far, far + 1}, far, []string{"w576460752303423488", "w576460752303423489"}},
	} {
		stands(t, resumed(t, d, 64, one.firsts, one.last), one.last, one.last, one.names...)
	}
}

func TestResumeRefuses(t *testing.T) {
	d := newDisk(t, 1000)
	for _, one := range []struct {
		size   int
		firsts []int
		last   int
	}{
		{64, nil, 0}, {64, nil, 7}, {64, []int{}, 7},
		{64, []int{0}, 7}, {64, []int{-1}, 7}, {64, []int{math.MinInt}, 7}, {64, []int{0, 1}, 7}, {64, []int{-1, 1}, 7},
		{64, []int{1, 1}, 7}, {64, []int{2, 1}, 7}, {64, []int{1, 3, 2}, 7}, {64, []int{1, 3, 3}, 7}, {64, []int{3, 1, 4}, 7}, {64, []int{1, 0}, 7}, {64, []int{1, math.MinInt}, 7},
		{64, []int{2}, 0}, {64, []int{9}, 7}, {64, []int{1, 9}, 7}, {64, []int{1, 7, 8, 9}, 7}, {64, []int{math.MaxInt}, 7}, {64, []int{1 << 60}, 1 << 59}, {64, []int{1<<59 + 2}, 1 << 59}, {64, []int{1, 9, 2}, 7},
		{63, []int{1}, 7}, {0, []int{1}, 7}, {-1, []int{1}, 7}, {api.MaxDisk + 1, []int{1}, 7},
		{64, []int{1}, -1}, {64, []int{0}, -1}, {64, []int{1}, math.MinInt}, {64, []int{1}, 1<<59 + 1}, {64, []int{1}, math.MaxInt},
	} {
		if l, e := log.Resume(d, one.size, one.firsts, one.last); l != nil || e != api.ErrArg {
			t.Errorf("Resume(%d, %v, %d): %v, error %d", one.size, one.firsts, one.last, l, e)
		}
	}
	stands(t, resumed(t, d, api.MaxDisk, []int{1}, 7), 7, 7, "w1")
}

func TestResumeKeepsNothingItIsHanded(t *testing.T) {
	d := newDisk(t, 1000)
	room := []int{1, 4, 7, 77, 77}
	l := resumed(t, d, 64, room[:2], 6)
	d.Append("w4", make([]byte, 64))
	writes(t, l, 7, "a")
	if !slices.Equal(room, []int{1, 4, 7, 77, 77}) {
		t.Fatalf("firsts have become %v", room)
	}
	clear(room)
	stands(t, l, 7, 6, "w1", "w4", "w7")
}

func TestResumedLogGoesOn(t *testing.T) {
	d := newDisk(t, 1000)
	l := begun(t, d, 64, 0)
	writes(t, l, 1, filling(56))
	writes(t, l, 2, "a")
	writes(t, l, 3, "b")
	tells(t, "Sync", l.Sync(), api.OK)

	l = resumed(t, d, 64, []int{1, 2}, 3)
	stands(t, l, 3, 3, "w1", "w2")
	writes(t, l, 4, "c")
	stands(t, l, 4, 3, "w1", "w2")
	file(t, d, 2, 28, batch(2, "a"), batch(3, "b"), batch(4, "c"))
	tells(t, "Sync", l.Sync(), api.OK)
	stands(t, l, 4, 4, "w1", "w2")
	trims(t, l, 2, api.OK, "w1")
	writes(t, l, 5, filling(26))
	writes(t, l, 6, "d")
	stands(t, l, 6, 5, "w2", "w6")
}

// P4.3: Write.

func TestWriteBeginsASegment(t *testing.T) {
	d := newDisk(t, 1000)
	l := begun(t, d, 64, 299)
	if names := d.List(); len(names) != 0 {
		t.Errorf("ahead of the first batch there are %q", names)
	}
	writes(t, l, 300, "a", "", "c")
	stands(t, l, 300, 299, "w300")
	file(t, d, 300, 0, batch(300, "a", "", "c"))
	writes(t, l, 301, "")
	stands(t, l, 301, 299, "w300")
	file(t, d, 300, 0, batch(300, "a", "", "c"), batch(301, ""))
}

// A segment that has just size bytes gets no more batches; one that has one less gets one, however long that is.
func TestWriteAtASegmentsSize(t *testing.T) {
	for _, size := range []int{64, 65, 100} {
		d := newDisk(t, 10000)
		l := begun(t, d, size, 0)
		writes(t, l, 1, filling(size-8))
		if d.Size("w1") != size {
			t.Fatalf("the test's segment has %d bytes, not %d", d.Size("w1"), size)
		}
		stands(t, l, 1, 0, "w1")
		writes(t, l, 2, "b")
		stands(t, l, 2, 1, "w1", "w2")
		file(t, d, 1, size, batch(1, filling(size-8)))
		file(t, d, 2, 0, batch(2, "b"))

		d = newDisk(t, 10000)
		l = begun(t, d, size, 0)
		writes(t, l, 1, filling(size-9))
		writes(t, l, 2, strings.Repeat("b", 5000))
		stands(t, l, 2, 0, "w1")
		file(t, d, 1, 0, batch(1, filling(size-9)), batch(2, strings.Repeat("b", 5000)))
		writes(t, l, 3, "c")
		stands(t, l, 3, 2, "w1", "w3")
		file(t, d, 1, d.Size("w1"), batch(1, filling(size-9)), batch(2, strings.Repeat("b", 5000)))
		file(t, d, 3, 0, batch(3, "c"))
	}
}

func TestWriteOfTheGreatestSegment(t *testing.T) {
	d := newDisk(t, api.MaxDisk)
	l := begun(t, d, api.MaxDisk, 0)
	for n := range 15 {
		if got, e := l.Write([][]byte{make([]byte, 1<<20-100)}); got != n+1 || e != api.OK {
			t.Fatalf("Write: %d, error %d", got, e)
		}
	}
	stands(t, l, 15, 0, "w1")
}

func TestWriteRefusesWhatIsNoBatch(t *testing.T) {
	d := newDisk(t, 3*api.MaxFrame)
	l := begun(t, d, 64, 0)
	refuse := func() {
		t.Helper()
		was, last, acked, names := shown(d), l.Last(), l.Acked(), l.Files()
		d.Arm(0)
		writesNot(t, l, nil, api.ErrArg)
		writesNot(t, l, [][]byte{}, api.ErrArg)
		writesNot(t, l, make([][]byte, api.MaxBatch+1), api.ErrArg)
		writesNot(t, l, [][]byte{make([]byte, api.MaxFrame)}, api.ErrLong)
		writesNot(t, l, [][]byte{make([]byte, api.MaxFrame-4)}, api.ErrLong)
		writesNot(t, l, slices.Repeat([][]byte{make([]byte, api.MaxFrame)}, api.MaxBatch+1), api.ErrArg)
		stands(t, l, last, acked, names...)
		if shown(d) != was {
			t.Errorf("what was refused has changed the disk")
		}
		d.Crash(slices.Repeat([]int{math.MaxInt}, 9), nil) // the fuse is gone; nothing else is
	}
	refuse()
	writes(t, l, 1, "a")
	refuse()
	writes(t, l, 2, filling(56))
	refuse()
	writes(t, l, 3, strings.Repeat("b", api.MaxFrame-5))
	stands(t, l, 3, 2, "w1", "w3")
	if n, e := l.Write(make([][]byte, api.MaxBatch)); n != 4 || e != api.OK {
		t.Errorf("Write of 1000 records: %d, error %d", n, e)
	}
}

func TestWriteKeepsNothingItIsHanded(t *testing.T) {
	d := newDisk(t, 1000)
	l := begun(t, d, 1000, 0)
	room := []byte("abcdef~~~~")
	recs := append(make([][]byte, 0, 9), room[:3], room[3:6])
	if n, e := l.Write(recs); n != 1 || e != api.OK {
		t.Fatalf("Write: %d, error %d", n, e)
	}
	if string(room) != "abcdef~~~~" || len(recs) != 2 || string(recs[0]) != "abc" || recs[:9][2] != nil {
		t.Errorf("Write has changed what it was handed: %q", room)
	}
	clear(room)
	clear(recs)
	file(t, d, 1, 0, batch(1, "abc", "def"))
	writes(t, l, 2, "g")
	tells(t, "Sync", l.Sync(), api.OK)
	file(t, d, 1, d.Size("w1"), batch(1, "abc", "def"), batch(2, "g"))
}

// How long the last segment is the disk tells, whoever has written there: a log shares its disk.
func TestWriteAsksTheDiskForTheSize(t *testing.T) {
	d := newDisk(t, 1000)
	l := begun(t, d, 64, 0)
	writes(t, l, 1, "a")
	d.Append("w1", make([]byte, 64))
	writes(t, l, 2, "b")
	stands(t, l, 2, 1, "w1", "w2")
	d.Append("w3", make([]byte, 70))
	d.Cut("w1", 0)
	writes(t, l, 3, "c")
	stands(t, l, 3, 1, "w1", "w2")
	file(t, d, 2, 0, batch(2, "b"), batch(3, "c"))
}

func TestLogsOfOneDiskAreApart(t *testing.T) {
	d := newDisk(t, 1000)
	one, other := begun(t, d, 64, 0), begun(t, d, 64, 50)
	writes(t, one, 1, "a")
	writes(t, other, 51, "b")
	tells(t, "Sync", other.Sync(), api.OK)
	stands(t, one, 1, 0, "w1")
	stands(t, other, 51, 51, "w51")
	file(t, d, 1, 0, batch(1, "a"))
	d.Remove("w1")
	tells(t, "Sync", one.Sync(), api.ErrFile)
	writes(t, other, 52, "c")
}

// P4.3: Sync.

func TestSyncAcknowledgesAllThatWasWritten(t *testing.T) {
	d := newDisk(t, 10000)
	l := begun(t, d, 1000, 0)
	var all []api.Batch
	for n := 1; n <= 12; n++ {
		writes(t, l, n, "r", strconv.Itoa(n))
		all = append(all, batch(n, "r", strconv.Itoa(n)))
		if n%5 != 0 {
			continue
		}
		stands(t, l, n, n-5, "w1")
		tells(t, "Sync", l.Sync(), api.OK)
		stands(t, l, n, n, "w1")
		file(t, d, 1, d.Size("w1"), all...)
		tells(t, "Sync again", l.Sync(), api.OK)
		stands(t, l, n, n, "w1")
	}
	stands(t, l, 12, 10, "w1")
}

func TestSyncWithoutASegment(t *testing.T) {
	d := newDisk(t, 1000)
	d.Append("w1", []byte("not this log's"))
	l := begun(t, d, 64, 7)
	d.Arm(0)
	tells(t, "Sync", l.Sync(), api.OK)
	stands(t, l, 7, 7)
	if d.Down() || d.Synced("w1") != 0 {
		t.Errorf("Sync of no segment has done something with the disk")
	}
}

// Sync is one deed, of the last segment's file alone.
func TestSyncIsOfTheLastSegment(t *testing.T) {
	d := newDisk(t, 1000)
	d.Append("other", []byte("x"))
	l := begun(t, d, 64, 0)
	writes(t, l, 1, filling(56))
	writes(t, l, 2, "a")
	d.Append("w1", []byte("x"))
	d.Arm(1)
	tells(t, "Sync", l.Sync(), api.OK)
	if d.Synced("w1") != 64 || d.Synced("w2") != d.Size("w2") || d.Synced("other") != 0 {
		t.Errorf("synced: %s", shown(d))
	}
	tells(t, "Sync", l.Sync(), api.ErrDown)
}

// P4.3: errors of the disk.

// A Write that begins no segment is one deed, one that begins the first segment two, one that begins another one three.
func TestWriteWithAFuse(t *testing.T) {
	cases := []struct {
		what  string
		ahead [][]string // batches ahead of it
		deeds []fuseCase
	}{
		{"first", nil, []fuseCase{{0, nil, nil}, {0, []string{"w1"}, []string{"w1"}}}},
		{"second", [][]string{{"a"}}, []fuseCase{{0, []string{"w1"}, []string{"w1"}}}},
		{"next segment", [][]string{{"a"}, {filling(46)}}, []fuseCase{
			{0, []string{"w1"}, []string{"w1"}},
			{2, []string{"w1"}, []string{"w1"}},
			{2, []string{"w1", "w3"}, []string{"w1", "w3"}},
		}},
	}
	for _, one := range cases {
		for fuse := range len(one.deeds) + 1 {
			d := newDisk(t, 1000)
			l := begun(t, d, 64, 0)
			for i, recs := range one.ahead {
				writes(t, l, i+1, recs...)
			}
			d.Arm(fuse)
			last := len(one.ahead)
			if fuse == len(one.deeds) {
				writes(t, l, last+1, "z")
				continue
			}
			writesNot(t, l, texts("z"), api.ErrDown)
			want := one.deeds[fuse]
			if !d.Down() || !slices.Equal(d.List(), want.disk) {
				t.Errorf("%s, fuse %d: down %v, files %q", one.what, fuse, d.Down(), d.List())
			}
			ended(t, d, l, last, want.acked, want.names...)
		}
	}
}

// fuseCase is how a log, and its disk, stand behind a deed that failed.
type fuseCase struct {
	acked       int
	names, disk []string
}

// A batch that does not fit leaves the segments and their bytes as they are; what was acknowledged on the way stays so.
func TestWriteOnAFullDisk(t *testing.T) {
	d := newDisk(t, 7) // a head takes 8
	l := begun(t, d, 64, 0)
	writesNot(t, l, texts("a"), api.ErrFull)
	if len(d.List()) != 0 {
		t.Errorf("files %q", d.List())
	}
	ended(t, d, l, 0, 0)

	d = newDisk(t, 8+9)
	l = begun(t, d, 64, 0)
	writesNot(t, l, texts("a"), api.ErrFull)
	file(t, d, 1, 0)
	ended(t, d, l, 0, 0, "w1")

	d = newDisk(t, 8+10)
	l = begun(t, d, 64, 0)
	writes(t, l, 1, "a")
	writesNot(t, l, texts(""), api.ErrFull)
	file(t, d, 1, 0, batch(1, "a"))
	ended(t, d, l, 1, 0, "w1")

	d = newDisk(t, 64+7)
	l = begun(t, d, 64, 0)
	writes(t, l, 1, filling(56))
	writesNot(t, l, texts("a"), api.ErrFull)
	file(t, d, 1, 64, batch(1, filling(56)))
	ended(t, d, l, 1, 1, "w1")

	d = newDisk(t, 64+8+9)
	l = begun(t, d, 64, 0)
	writes(t, l, 1, filling(56))
	writesNot(t, l, texts("a"), api.ErrFull)
	file(t, d, 1, 64, batch(1, filling(56)))
	file(t, d, 2, 0)
	ended(t, d, l, 1, 1, "w1", "w2")
}

func TestWriteWithTooManyFiles(t *testing.T) {
	d := newDisk(t, api.MaxDisk)
	l := begun(t, d, 64, 0)
	for n := 1; n <= api.MaxFiles; n++ {
		writes(t, l, n, strings.Repeat("f", 60))
	}
	stands(t, l, api.MaxFiles, api.MaxFiles-1, l.Files()...)
	if len(l.Files()) != api.MaxFiles {
		t.Fatalf("%d segments", len(l.Files()))
	}
	names := l.Files()
	writesNot(t, l, texts("a"), api.ErrFull)
	ended(t, d, l, api.MaxFiles, api.MaxFiles, names...)
}

func TestSyncWithAFuse(t *testing.T) {
	d := newDisk(t, 1000)
	l := begun(t, d, 64, 0)
	writes(t, l, 1, "a")
	tells(t, "Sync", l.Sync(), api.OK)
	writes(t, l, 2, "b")
	writes(t, l, 3, "c")
	d.Arm(0)
	tells(t, "Sync", l.Sync(), api.ErrDown)
	if !d.Down() || d.Synced("w1") != 18 {
		t.Errorf("down %v, %d synced", d.Down(), d.Synced("w1"))
	}
	ended(t, d, l, 3, 1, "w1")
}

func TestSyncOfAFileThatIsGone(t *testing.T) {
	d := newDisk(t, 1000)
	l := begun(t, d, 64, 0)
	writes(t, l, 1, "a")
	d.Remove("w1")
	tells(t, "Sync", l.Sync(), api.ErrFile)
	ended(t, d, l, 1, 0, "w1")
}

// P4.4: Trim.

// fiveSegments answers a log of the segments w1, w2, w4, w5 and w7, whose last batch is 7.
func fiveSegments(t *testing.T) (*disk.Disk, *log.Log) {
	t.Helper()
	d := newDisk(t, 1000)
	d.Append("other", []byte("x"))
	l := begun(t, d, 64, 0)
	for n, size := range []int{56, 20, 56, 56, 20, 56, 20} {
		writes(t, l, n+1, filling(size))
	}
	stands(t, l, 7, 6, "w1", "w2", "w4", "w5", "w7")
	return d, l
}

func TestTrimRemovesFromTheFirstOn(t *testing.T) {
	all := []string{"w1", "w2", "w4", "w5", "w7"}
	for below, gone := range map[int]int{
		math.MinInt: 0, -1: 0, 0: 0, 1: 0, // below the first number, and at it
		2: 1, 3: 1, 4: 2, 5: 3, 6: 3, 7: 4, // at segments' numbers, and between them
		8: 4, 9: 4, 1000: 4, 1 << 60: 4, math.MaxInt: 4, // above all: the last one stays
	} {
		d, l := fiveSegments(t)
		d.Arm(gone)
		trims(t, l, below, api.OK, all[:gone]...)
		stands(t, l, 7, 6, all[gone:]...)
		if want := append([]string{"other"}, all[gone:]...); !slices.Equal(d.List(), want) {
			t.Errorf("Trim(%d): the disk has %q, want %q", below, d.List(), want)
		}
		trims(t, l, below, api.OK)
		stands(t, l, 7, 6, all[gone:]...)
		d.Crash(slices.Repeat([]int{99}, 9), nil)
		file(t, d, 7, d.Size("w7"), batch(7, filling(20)))
		writes(t, l, 8, "a")
		file(t, d, 7, 28, batch(7, filling(20)), batch(8, "a"))
	}
}

func TestTrimBitByBit(t *testing.T) {
	_, l := fiveSegments(t)
	trims(t, l, 2, api.OK, "w1")
	trims(t, l, 2, api.OK)
	trims(t, l, 5, api.OK, "w2", "w4")
	stands(t, l, 7, 6, "w5", "w7")
	trims(t, l, 4, api.OK)
	trims(t, l, 9, api.OK, "w5")
	trims(t, l, math.MaxInt, api.OK)
	stands(t, l, 7, 6, "w7")
	writes(t, l, 8, filling(36))
	writes(t, l, 9, "a")
	trims(t, l, 9, api.OK, "w7")
	stands(t, l, 9, 8, "w9")
}

func TestTrimWithoutSegments(t *testing.T) {
	d := newDisk(t, 1000)
	l := begun(t, d, 64, 7)
	d.Arm(0)
	for _, below := range []int{math.MinInt, 0, 1, 7, 8, math.MaxInt} {
		trims(t, l, below, api.OK)
	}
	stands(t, l, 7, 7)
	if d.Down() {
		t.Error("Trim of no segments has done something with the disk")
	}
}

// The names that were removed ahead of an error are told beside it.
func TestTrimWithAFuse(t *testing.T) {
	all := []string{"w1", "w2", "w4", "w5", "w7"}
	for fuse := range 4 {
		d, l := fiveSegments(t)
		d.Arm(fuse)
		trims(t, l, 7, api.ErrDown, all[:fuse]...)
		if want := append([]string{"other"}, all[fuse:]...); !d.Down() || !slices.Equal(d.List(), want) {
			t.Errorf("fuse %d: down %v, the disk has %q, want %q", fuse, d.Down(), d.List(), want)
		}
		ended(t, d, l, 7, 6, all[fuse:]...)
	}
}

func TestTrimOfAFileThatIsGone(t *testing.T) {
	d, l := fiveSegments(t)
	d.Remove("w4")
	trims(t, l, 7, api.ErrFile, "w1", "w2")
	if want := []string{"other", "w5", "w7"}; !slices.Equal(d.List(), want) {
		t.Errorf("the disk has %q, want %q", d.List(), want)
	}
	ended(t, d, l, 7, 6, "w4", "w5", "w7")
}

func TestAnswersAreNew(t *testing.T) {
	_, l := fiveSegments(t)
	first, second := l.Files(), l.Files()
	clear(first[:cap(first)])
	if !slices.Equal(second, []string{"w1", "w2", "w4", "w5", "w7"}) {
		t.Errorf("answers of Files share memory: %q", second)
	}
	gone, _ := l.Trim(4)
	clear(gone[:cap(gone)])
	_ = append(gone, "x", "y", "z")
	stands(t, l, 7, 6, "w4", "w5", "w7")
	if len(second) != 5 || second[0] != "w1" {
		t.Errorf("an answer has changed by Trim: %q", second)
	}
}

// R5: no log.

func TestNoLog(t *testing.T) {
	for what, l := range map[string]*log.Log{"nil": nil, "not made": {}, "new": new(log.Log)} {
		for _, recs := range [][][]byte{nil, texts("a"), make([][]byte, api.MaxBatch+1), {make([]byte, api.MaxFrame+1)}} {
			writesNot(t, l, recs, api.ErrNil)
		}
		tells(t, what+": Sync", l.Sync(), api.ErrNil)
		for _, below := range []int{math.MinInt, 0, 7, math.MaxInt} {
			trims(t, l, below, api.ErrNil)
		}
		stands(t, l, 0, 0)
	}
}

// P4.3, P4.4, P4.5, word by word: a log of the test's own goes the same way on a disk of its own.

// byWords is a log as the chapter's words say it.
type byWords struct {
	d           *disk.Disk
	size        int
	firsts      []int
	last, acked int
	over        bool
}

func (w *byWords) name(i int) string {
	return "w" + strconv.Itoa(w.firsts[i])
}

// fail makes the log over at an error.
func (w *byWords) fail(e api.Errno) bool {
	w.over = w.over || e != api.OK
	return w.over
}

func (w *byWords) write(recs [][]byte) (int, api.Errno) {
	if w.over {
		return 0, api.ErrEnded
	}
	if len(recs) < 1 || len(recs) > 1000 {
		return 0, api.ErrArg
	}
	n := w.last + 1
	body := written(uint64(n), uint64(len(recs)), recs...)
	if len(body) > 1<<20 {
		return 0, api.ErrLong
	}
	if end := len(w.firsts) - 1; end < 0 || w.d.Size(w.name(end)) >= w.size {
		if end >= 0 {
			if e := w.d.Sync(w.name(end)); w.fail(e) {
				return 0, e
			}
			w.acked = w.last
		}
		if e := w.d.Append("w"+strconv.Itoa(n), headed(n)); w.fail(e) {
			return 0, e
		}
		w.firsts = append(w.firsts, n)
	}
	if e := w.d.Append(w.name(len(w.firsts)-1), framed(body)); w.fail(e) {
		return 0, e
	}
	w.last = n
	return n, api.OK
}

func (w *byWords) sync() api.Errno {
	if w.over {
		return api.ErrEnded
	}
	if len(w.firsts) > 0 {
		if e := w.d.Sync(w.name(len(w.firsts) - 1)); w.fail(e) {
			return e
		}
	}
	w.acked = w.last
	return api.OK
}

func (w *byWords) trim(below int) ([]string, api.Errno) {
	if w.over {
		return nil, api.ErrEnded
	}
	var gone []string
	for len(w.firsts) > 1 && w.firsts[1] <= below {
		if e := w.d.Remove(w.name(0)); w.fail(e) {
			return gone, e
		}
		gone, w.firsts = append(gone, w.name(0)), w.firsts[1:]
	}
	return gone, api.OK
}

// told is all that the log tells.
func (w *byWords) told() string {
	var names []string
	for i := range w.firsts {
		names = append(names, w.name(i))
	}
	return fmt.Sprint(w.last, w.acked, names, w.over)
}

// told is all that a log tells.
func told(l *log.Log) string {
	return fmt.Sprint(l.Last(), l.Acked(), l.Files(), l.Over())
}

// someRecords are none to three, short ones, by chance.
func someRecords(source *rand.Rand) [][]byte {
	recs := make([][]byte, source.Intn(4))
	for i := range recs {
		recs[i] = make([]byte, source.Intn(30))
		source.Read(recs[i])
	}
	return recs
}

// doesTheSame does one thing by chance with both logs, and fails the test unless they answer the same.
func doesTheSame(t *testing.T, source *rand.Rand, l *log.Log, w *byWords) {
	t.Helper()
	var did, got, want string
	switch source.Intn(10) {
	case 0, 1:
		did, got, want = "Sync", fmt.Sprint(l.Sync()), fmt.Sprint(w.sync())
	case 2:
		below := w.last + 1 - source.Intn(6)
		gone, e := l.Trim(below)
		goneToo, eToo := w.trim(below)
		did, got, want = "Trim", fmt.Sprint(gone, e), fmt.Sprint(goneToo, eToo)
	default:
		recs := someRecords(source)
		n, e := l.Write(recs)
		nToo, eToo := w.write(recs)
		did, got, want = "Write", fmt.Sprint(n, e), fmt.Sprint(nToo, eToo)
	}
	if got != want {
		t.Fatalf("%s: %s, want %s", did, got, want)
	}
}

// same fails the test unless both logs, and their disks, are the same.
func same(t *testing.T, d *disk.Disk, l *log.Log, w *byWords) {
	t.Helper()
	if got := told(l); got != w.told() {
		t.Fatalf("%s, want %s", got, w.told())
	}
	if got, want := shown(d), shown(w.d); got != want {
		t.Fatalf("the disk is\n%s\nwant\n%s", got, want)
	}
}

// twoLogs answers a log, and one by words, on disks of so many bytes.
func twoLogs(t *testing.T, room, size, last int) (*disk.Disk, *log.Log, *byWords) {
	t.Helper()
	d := newDisk(t, room)
	return d, begun(t, d, size, last), &byWords{d: newDisk(t, room), size: size, last: last, acked: last}
}

// A row of calls by chance, with the power failing at each deed of it.
func TestLogByWordsAtEachDeed(t *testing.T) {
	for seed := range 6 {
		for fuse := 0; ; fuse++ {
			source := rand.New(rand.NewSource(int64(seed)))
			d, l, w := twoLogs(t, 100000, 64+seed*9, seed*seed*seed)
			d.Arm(fuse)
			w.d.Arm(fuse)
			for range 60 {
				doesTheSame(t, source, l, w)
				same(t, d, l, w)
			}
			if !l.Over() {
				break
			}
			d.Crash(nil, nil)
			w.d.Crash(nil, nil)
			doesTheSame(t, source, l, w)
			same(t, d, l, w)
		}
	}
}

func TestLogByWordsOnFullDisks(t *testing.T) {
	source := rand.New(rand.NewSource(42))
	for room := range 400 {
		d, l, w := twoLogs(t, room, 64, 0)
		for range 40 {
			doesTheSame(t, source, l, w)
			same(t, d, l, w)
		}
	}
}

// P4.5: what follows.

// found are the batches within the first bytes of a segment's file, which has to begin with its head; whole tells that no byte stands behind them.
func found(t *testing.T, b []byte, first int) ([]api.Batch, bool) {
	t.Helper()
	head, at, e := frame.Get(b, 0)
	if e != api.OK || !bytes.Equal(head, binary.AppendUvarint([]byte{0}, uint64(first))) {
		return nil, false
	}
	var all []api.Batch
	for at < len(b) {
		body, next, e := frame.Get(b, at)
		if e != api.OK {
			return all, false
		}
		one, e := log.Parse(body)
		tells(t, "Parse of what was written", e, api.OK)
		all, at = append(all, one), next
	}
	return all, true
}

// syncedOf are the batches of a log's segments within their synced bytes.
func syncedOf(t *testing.T, d *disk.Disk, l *log.Log) []api.Batch {
	t.Helper()
	var all []api.Batch
	for _, name := range l.Files() {
		first, ok := log.First(name)
		if !ok {
			t.Fatalf("%q is no segment's name", name)
		}
		b, e := d.Read(name)
		tells(t, "Read", e, api.OK)
		some, _ := found(t, b[:d.Synced(name)], first)
		all = append(all, some...)
	}
	return all
}

// goOn fails the test unless the numbers of batches go on one by one, up to one that is last at least.
func goOn(t *testing.T, all []api.Batch, last int) {
	t.Helper()
	for i := 1; i < len(all); i++ {
		if all[i].N != all[i-1].N+1 {
			t.Fatalf("batch %d behind batch %d", all[i].N, all[i-1].N)
		}
	}
	if len(all) > 0 && all[len(all)-1].N < last {
		t.Fatalf("batches up to %d alone, not %d", all[len(all)-1].N, last)
	}
}

// Whatever is done: what is acknowledged, and was not trimmed, is among the synced bytes, as it was written.
func TestAcknowledgedIsSynced(t *testing.T) {
	source := rand.New(rand.NewSource(43))
	for range 40 {
		d := newDisk(t, 100000)
		l := begun(t, d, 64+source.Intn(200), source.Intn(300))
		from := l.Last()
		var all [][][]byte
		for range 60 {
			if recs := someRecords(source); len(recs) > 0 {
				n, e := l.Write(recs)
				tells(t, "Write", e, api.OK)
				all = append(all, recs)
				if n != from+len(all) {
					t.Fatalf("batch %d is told as %d", from+len(all), n)
				}
			}
			if source.Intn(6) == 0 {
				tells(t, "Sync", l.Sync(), api.OK)
			}
			if source.Intn(20) == 0 {
				l.Trim(l.Acked())
			}
			there := syncedOf(t, d, l)
			goOn(t, there, l.Acked())
			if len(there) == 0 && l.Acked() > from {
				t.Fatalf("nothing is synced of what is acknowledged, up to %d", l.Acked())
			}
			for _, b := range there {
				if !sameBatch(b, api.Batch{N: b.N, Recs: all[b.N-from-1]}) {
					t.Fatalf("batch %d is not what was written", b.N)
				}
			}
		}
	}
}

// Numbers go on from segment to segment, in the files too, up to the greatest ones that may be.
func TestNumbersGoOnFromSegmentToSegment(t *testing.T) {
	for _, last := range []int{0, 5, 126, 1 << 40, 1 << 59} {
		d := newDisk(t, 10000)
		l := begun(t, d, 64, last)
		for n := last + 1; n <= last+20; n++ {
			writes(t, l, n, filling(20), "")
		}
		tells(t, "Sync", l.Sync(), api.OK)
		there := syncedOf(t, d, l)
		goOn(t, there, last+20)
		if len(there) != 20 || there[0].N != last+1 || len(l.Files()) < 5 {
			t.Errorf("behind %d: %d batches in %q", last, len(there), l.Files())
		}
	}
}

// A record may be anything: nothing, and what looks like a frame, a head, or the end of one.
func TestRecordsMayBeAnything(t *testing.T) {
	source := rand.New(rand.NewSource(44))
	rows := [][][]byte{{nil}, {{}}, {nil, nil}, {headed(2)}, {framed([]byte{1, 1, 0})}, {{0}}, {{165}, {0, 0, 0, 0, 165}}, make([][]byte, api.MaxBatch)}
	for range 20 {
		long := make([]byte, source.Intn(3000))
		source.Read(long)
		rows = append(rows, [][]byte{long, nil})
	}
	d := newDisk(t, 1000000)
	l := begun(t, d, 500, 0)
	for i, recs := range rows {
		if n, e := l.Write(recs); n != i+1 || e != api.OK {
			t.Fatalf("Write: %d, error %d", n, e)
		}
	}
	tells(t, "Sync", l.Sync(), api.OK)
	there := syncedOf(t, d, l)
	if len(there) != len(rows) {
		t.Fatalf("%d batches, want %d", len(there), len(rows))
	}
	for i, b := range there {
		if !sameBatch(b, api.Batch{N: i + 1, Recs: rows[i]}) {
			t.Errorf("batch %d is not what was written", i+1)
		}
	}
}

func TestExamples(t *testing.T) {
	d := newDisk(t, 1000)
	l := begun(t, d, 64, 0)
	writes(t, l, 1, "a", "")
	stands(t, l, 1, 0, "w1")
	tells(t, "Sync", l.Sync(), api.OK)
	stands(t, l, 1, 1, "w1")
	if names := d.List(); !slices.Equal(names, []string{"w1"}) || d.Size("w1") != 8+11 {
		t.Errorf("files %q, w1 of %d bytes", names, d.Size("w1"))
	}
	if b, e := log.Bytes(batch(1, "a", "")); e != api.OK || !bytes.Equal(b, []byte{1, 2, 1, 97, 0}) {
		t.Errorf("Bytes: %v, error %d", b, e)
	}
	writes(t, l, 2, filling(64-19))
	writes(t, l, 3, "c")
	stands(t, l, 3, 2, "w1", "w3")
	writesNot(t, l, nil, api.ErrArg)
	if name := log.Name(7); name != "w7" {
		t.Errorf("Name(7) = %q", name)
	}
	if n, ok := log.First("w07"); n != 0 || ok {
		t.Errorf("First(w07) = %d, %v", n, ok)
	}
}
