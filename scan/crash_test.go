package scan_test

import (
	"math/rand"
	"slices"
	"testing"

	"millwheel/api"
	"millwheel/disk"
	"millwheel/log"
	"millwheel/scan"
)

// P5.4: what follows.

// story is a log, and all that was written into it.
type story struct {
	d    *disk.Disk
	l    *log.Log
	size int
	base int         // the batch that it began behind
	all  []api.Batch // all that were written behind it
}

// begins begins a story on a disk of its own.
func begins(t *testing.T, size, base int) *story {
	t.Helper()
	d := newDisk(t, 1<<16)
	l, e := log.Begin(d, size, base)
	tells(t, "Begin", e, api.OK)
	return &story{d, l, size, base, nil}
}

// someRecords are one to three, short ones, by chance.
func someRecords(source *rand.Rand) [][]byte {
	recs := make([][]byte, 1+source.Intn(3))
	for i := range recs {
		recs[i] = make([]byte, source.Intn(20))
		if source.Intn(3) > 0 { // else noughts, as a crash leaves them
			source.Read(recs[i])
		}
	}
	return recs
}

// step does one thing by chance, and tells whether the power was there for it.
func (s *story) step(t *testing.T, source *rand.Rand) bool {
	t.Helper()
	e := api.OK
	switch source.Intn(8) {
	case 0, 1:
		e = s.l.Sync()
	case 2:
		_, e = s.l.Trim(s.l.Last() + 1 - source.Intn(6))
	default:
		b := api.Batch{Recs: someRecords(source)}
		if b.N, e = s.l.Write(b.Recs); e == api.OK {
			s.all = append(s.all, b)
		}
	}
	if e != api.OK && e != api.ErrDown {
		t.Fatalf("a step: error %d", e)
	}
	return e == api.OK
}

// floor is the number of the first batch that was not trimmed.
func (s *story) floor() int {
	if names := s.l.Files(); len(names) > 0 {
		first, _ := log.First(names[0])
		return first
	}
	return s.l.Last() + 1
}

// unsafe is how many bytes of the log are not safe; they stand in one file.
func (s *story) unsafe(t *testing.T) int {
	t.Helper()
	n, files := 0, 0
	for _, name := range s.d.List() {
		if rest := s.d.Size(name) - s.d.Synced(name); rest > 0 {
			n, files = rest, files+1
		}
	}
	if files > 1 {
		t.Fatalf("%d files of a log are not safe", files)
	}
	return n
}

// from are the batches that were written, from one number up to another.
func (s *story) from(first, last int) []api.Batch {
	return s.all[first-s.base-1 : last-s.base]
}

// keeps fails the test unless what is left, behind a crash, is a beginning of what was written, with all that was acknowledged (but for what was trimmed); it answers that.
func (s *story) keeps(t *testing.T, d *disk.Disk) answer {
	t.Helper()
	got := byWords(d)
	scans(t, "crashed", d, got)
	floor := s.floor()
	if len(got.names) > 0 && got.names[0] != name(floor) {
		t.Fatalf("the first segment is %s, want %s", got.names[0], name(floor))
	}
	last := floor - 1 + len(got.batches)
	if last < s.l.Acked() || last > s.l.Last() {
		t.Fatalf("the last batch is %d, want %d to %d", last, s.l.Acked(), s.l.Last())
	}
	if !sameBatches(got.batches, s.from(floor, last)) {
		t.Fatalf("%v are left, want %v", got.batches, s.from(floor, last))
	}
	return got
}

// crash is a crash that keeps, and tears, so many bytes of each file.
func crash(d *disk.Disk, keep, tear int) {
	d.Crash(slices.Repeat([]int{keep}, api.MaxFiles), slices.Repeat([]int{tear}, api.MaxFiles))
}

// mendsThroughCrashes fails the test unless Mend changes nothing of what is left, whenever it is cut short.
func mendsThroughCrashes(t *testing.T, d *disk.Disk, left answer) {
	t.Helper()
	for fuse := range len(left.deeds) + 1 {
		c := copied(t, d)
		c.Arm(fuse)
		if _, e := scan.Mend(c); (e == api.OK) != (fuse == len(left.deeds)) {
			t.Fatalf("Mend with a fuse of %d: error %d", fuse, e)
		}
		crash(c, fuse, 64)
		scans(t, "crashed within Mend", c, left)
		mends(t, "crashed within Mend", c, left.batches)
		once := shown(c)
		mends(t, "mended twice", c, left.batches)
		if shown(c) != once {
			t.Fatalf("mended twice is not mended once")
		}
		scans(t, "mended", c, left)
	}
}

// goesOnBehind fails the test unless a log that is opened goes on behind its batches, whatever of them was known.
func (s *story) goesOnBehind(t *testing.T, d *disk.Disk, left answer) {
	t.Helper()
	first := s.floor()
	end := first - 1 + len(left.batches)
	for last := first - 1; last <= end; last++ {
		c := copied(t, d)
		l := opens(t, "crashed", c, s.size, last, end, left.names, left.batches[last+1-first:])
		for n := end + 1; n < end+4; n++ {
			if got, e := l.Write(plain(n).Recs); got != n || e != api.OK {
				t.Fatalf("Write: %d, error %d; want %d", got, e, n)
			}
		}
		tells(t, "Sync", l.Sync(), api.OK)
		c.Crash(nil, nil)
		scans(t, "gone on", c, answer{batches: slices.Concat(left.batches, plains(end+1, end+3)), names: l.Files()})
	}
	if len(left.names) > 0 {
		opensNot(t, "a batch that is not there", copied(t, d), s.size, end+1, api.ErrLog)
	}
	if len(left.names) > 0 && first > 1 {
		opensNot(t, "a batch that is trimmed", copied(t, d), s.size, first-2, api.ErrLog)
	}
}

// goes is a story of up to 25 steps, that the seed tells, and the power fails in.
func goes(t *testing.T, seed, fuse int) *story {
	t.Helper()
	source := rand.New(rand.NewSource(int64(seed)))
	s := begins(t, 64+17*seed, 97*seed)
	s.d.Arm(fuse)
	for i := 0; i < 25 && s.step(t, source); i++ {
	}
	return s
}

// A crash at each deed of Write, Sync and Trim, that keeps any number of bytes, and tears some.
func TestCrashAtEachDeed(t *testing.T) {
	for seed := range 4 {
		for fuse := 0; ; fuse++ {
			s := goes(t, seed, fuse)
			for keep := range s.unsafe(t) + 1 {
				for i, tear := range []int{0, 1, 7 + keep%50, 64} {
					s = goes(t, seed, fuse)
					crash(s.d, keep, tear)
					left := s.keeps(t, s.d)
					if i == keep%12 { // some of them: all would take long
						mendsThroughCrashes(t, s.d, left)
						s.goesOnBehind(t, s.d, left)
					}
				}
			}
			if !s.l.Over() {
				break
			}
		}
	}
}

// Mend of a disk that has not crashed yet: what is acknowledged stays, and what Mend has told, too.
func TestMendAheadOfACrash(t *testing.T) {
	for seed := range 40 {
		for fuse := range 3 {
			source := rand.New(rand.NewSource(int64(seed)))
			s := begins(t, 64+seed, seed)
			for range 5 + seed {
				s.step(t, source)
			}
			s.d.Arm(fuse)
			batches, e := scan.Mend(s.d)
			crash(s.d, source.Intn(40), source.Intn(70))
			left := s.keeps(t, s.d)
			if e == api.OK && (!sameBatches(batches, left.batches) || len(batches) != s.l.Last()+1-s.floor()) {
				t.Fatalf("Mend told %v, and %v are left", batches, left.batches)
			}
		}
	}
}

// reopens opens the story's log again behind a crash, with the power failing within that now and then.
func (s *story) reopens(t *testing.T, source *rand.Rand) {
	t.Helper()
	left := s.keeps(t, s.d)
	first := s.floor()
	end := first - 1 + len(left.batches)
	last := first - 1 + source.Intn(len(left.batches)+1)
	s.d.Arm(source.Intn(6))
	for {
		l, batches, e := scan.Open(s.d, s.size, last)
		if e == api.OK {
			if !sameBatches(batches, s.from(last+1, end)) || l.Last() != end || l.Acked() != end {
				t.Fatalf("Open behind %d: a log at %d, %d, and %v", last, l.Last(), l.Acked(), batches)
			}
			s.l, s.all = l, s.from(s.base+1, end)
			return
		}
		tells(t, "Open", e, api.ErrDown)
		crash(s.d, source.Intn(80), source.Intn(70))
		scans(t, "crashed within Open", s.d, left)
	}
}

// One log through many crashes.
func TestManyCrashes(t *testing.T) {
	for seed := range 200 {
		source := rand.New(rand.NewSource(int64(1000 + seed)))
		s := begins(t, 64+source.Intn(200), source.Intn(1000))
		for range 40 {
			s.d.Arm(source.Intn(30))
			for i := 0; i < 60 && s.step(t, source); i++ {
			}
			crash(s.d, source.Intn(300), source.Intn(70))
			s.reopens(t, source)
		}
	}
}
