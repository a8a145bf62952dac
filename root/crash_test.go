package root_test

import (
	"bytes"
	"math/rand"
	"testing"

	"millwheel/api"
	"millwheel/disk"
	"millwheel/root"
)

// The deeds of Write (P6.3), and what follows (P6.4).

// begun are disks that a Write may come to, with roots that are safe.
func begun() []row {
	first, second, third := rootOf(1, 7, "first"), rootOf(2, 9, "second"), rootOf(3, 11, "third")
	one, two, three := file{"root1", written(first)}, file{"root0", written(second)}, file{"root1", written(third)}
	long := file{"root0", written(api.Root{Serial: 2, Batch: 1, Blob: make([]byte, 200)})}
	return []row{
		{"no root", nil, api.Root{}},
		{"one root", []file{one}, first},
		{"two roots", []file{one, two}, second},
		{"two roots, root1 the newer", []file{two, three}, third},
		{"a long root", []file{one, long}, api.Root{Serial: 2, Batch: 1, Blob: make([]byte, 200)}},
		{"no root, and root.new", []file{{"root.new", written(first)}}, api.Root{}},
		{"a root, and root.new", []file{one, {"root.new", written(second)[:4]}}, first},
		{"two roots, and root.new", []file{one, two, {"root.new", written(rootOf(9, 9, "ninth"))}}, second},
		{"a root, and root.new without bytes", []file{one, {"root.new", nil}}, first},
		{"a root, and other files", []file{{"a", []byte("a")}, one, {"w1", []byte("a log's")}, {"zz", nil}}, first},
		{"a spoilt root0", []file{one, {"root0", written(second)[:5]}}, first},
		{"a spoilt root1", []file{two, {"root1", append(written(first), 0)}}, second},
		{"both spoilt", []file{{"root0", written(second)[:5]}, {"root1", nil}}, api.Root{}},
		{"both in the other's place", []file{{"root0", written(first)}, {"root1", written(second)}}, second},
		{"the newest where the next one goes", []file{{"root0", written(first)}}, first},
	}
}

// Write does the deeds that the words say, up to the one at which the power fails, and those alone.
func TestWriteDeedByDeed(t *testing.T) {
	for _, r := range begun() {
		for _, safe := range []int{0, 5, api.MaxDisk} {
			before := diskOf(t, 1<<16, safe, r.files...)
			next := nextByWords(before, rootOf(0, 50, "the next one"))
			deeds := deedsByWords(before, next)
			for fuse := range len(deeds) + 1 {
				d, model := diskOf(t, 1<<16, safe, r.files...), diskOf(t, 1<<16, safe, r.files...)
				d.Arm(fuse)
				if fuse < len(deeds) {
					writesNot(t, r.what, d, next, api.ErrDown)
				} else if got, e := root.Write(d, next); e != api.OK || !same(got, next) {
					t.Fatalf("%s: Write: %s, error %d", r.what, brief(got), e)
				}
				for _, one := range deeds[:fuse] {
					tells(t, r.what, one(model), api.OK)
				}
				if fuse == len(deeds) {
					tells(t, "the next deed", d.Append("root0", nil), api.ErrDown)
				}
				if got, want := marks(d), marks(model); got != want {
					t.Fatalf("%s: Write with a fuse of %d leaves\n%s\nwant\n%s", r.what, fuse, got, want)
				}
				crash(d, api.MaxDisk, 0)
				crash(model, api.MaxDisk, 0)
				if got, want := shown(d), shown(model); got != want {
					t.Fatalf("%s: Write with a fuse of %d leaves\n%s\nwant\n%s", r.what, fuse, got, want)
				}
			}
		}
	}
}

// keepsOthers fails the test unless files that Write has no business with are as they were.
func keepsOthers(t *testing.T, what string, d *disk.Disk, files []file, next api.Root) {
	t.Helper()
	for _, f := range files {
		if f.name == "root.new" || f.name == target(next.Serial) {
			continue
		}
		if b, e := d.Read(f.name); e != api.OK || !bytes.Equal(b, f.bytes) {
			t.Fatalf("%s: %s is %.100x, error %d", what, f.name, b, e)
		}
	}
}

// A crash at each deed of Write, that keeps and tears any number of bytes: the root is the one that was there, or the new one, and that if Write was OK.
func TestCrashAtEachDeed(t *testing.T) {
	for _, r := range begun() {
		next := rootOf(r.want.Serial+1, 50, "the next one, that is longer than the others and than one sector of a disk")
		for fuse := range 6 {
			for keep := range len(written(next)) + 2 {
				for _, tear := range []int{0, 1, 5, 63, 64, 1000} {
					d := diskOf(t, 1<<16, api.MaxDisk, r.files...)
					d.Arm(fuse)
					_, e := root.Write(d, next)
					crash(d, keep, tear)
					want := r.want
					if e == api.OK {
						want = next
					} else {
						tells(t, r.what, e, api.ErrDown)
					}
					reads(t, r.what, d, want)
					keepsOthers(t, r.what, d, r.files, next)
					again := writes(t, r.what+", again", d, rootOf(0, 51, "again"))
					crash(d, 0, 0)
					reads(t, r.what+", again", d, again)
				}
			}
		}
	}
}

// story is a disk, and what is known of its root.
type story struct {
	d   *disk.Disk
	now api.Root
}

// step writes a root, with the power failing now and then, and a crash behind that.
func (s *story) step(t *testing.T, source *rand.Rand) {
	t.Helper()
	next := api.Root{Serial: s.now.Serial + 1, Batch: source.Intn(1 << 30), Blob: make([]byte, source.Intn(300))}
	if source.Intn(3) > 0 { // else noughts, as a crash leaves them
		source.Read(next.Blob)
	}
	s.d.Arm(source.Intn(6))
	got, e := root.Write(s.d, api.Root{Serial: source.Intn(9), Batch: next.Batch, Blob: next.Blob})
	if e == api.OK {
		if !same(got, next) {
			t.Fatalf("Write: %s, want %s", brief(got), brief(next))
		}
		s.now = next
	} else {
		tells(t, "Write", e, api.ErrDown)
	}
	if s.d.Down() || source.Intn(2) == 0 {
		crash(s.d, source.Intn(400), source.Intn(70))
	}
	reads(t, "on the way", s.d, s.now)
}

// One disk through many crashes: no root whose Write was OK is lost, and none that was not comes up later.
func TestManyCrashes(t *testing.T) {
	for seed := range 60 {
		source := rand.New(rand.NewSource(int64(seed)))
		s := &story{d: newDisk(t, 1<<12)}
		for range 200 {
			s.step(t, source)
		}
		if s.now.Serial < 20 {
			t.Errorf("only %d roots were written", s.now.Serial)
		}
	}
}

// A disk without room for the next root: what was there stays.
func TestFullDiskKeepsItsRoot(t *testing.T) {
	for room := range 120 {
		d := newDisk(t, room)
		now := api.Root{}
		for n := range 6 {
			next := api.Root{Serial: now.Serial + 1, Batch: n, Blob: make([]byte, 7*n)}
			got, e := root.Write(d, next)
			if e == api.OK {
				now = next
			} else if e != api.ErrFull || !isNone(got) {
				t.Fatalf("Write: %s, error %d", brief(got), e)
			}
			reads(t, "full", d, now)
			d.Crash(nil, nil)
			reads(t, "full, crashed", d, now)
		}
	}
}
