package scan_test

import (
	"bytes"
	"math"
	"math/rand"
	"slices"
	"strings"
	"testing"

	"millwheel/api"
	"millwheel/disk"
	"millwheel/log"
	"millwheel/scan"
)

// file is one of a disk.
type file struct {
	name  string
	bytes []byte
}

// row is a disk, and what is to be told of it.
type row struct {
	what  string
	files []file
	answer
}

// disk makes the row's disk; of each file so many bytes are safe, all of them at most.
func (r row) disk(t *testing.T, safe int) *disk.Disk {
	t.Helper()
	d := newDisk(t, api.MaxDisk)
	for _, f := range r.files {
		cut := min(safe, len(f.bytes))
		tells(t, "Append", d.Append(f.name, f.bytes[:cut]), api.OK)
		tells(t, "Sync", d.Sync(f.name), api.OK)
		tells(t, "Append", d.Append(f.name, f.bytes[cut:]), api.OK)
	}
	return d
}

// and is bytes, one behind the other.
func and(parts ...[]byte) []byte {
	return slices.Concat(parts...)
}

func remove(name string) deed         { return deed{"remove", name, 0} }
func cut(name string, to []byte) deed { return deed{"cut", name, len(to)} }
func sync(name string) deed           { return deed{"sync", name, 0} }

// rows are disks of all kinds that the chapter names.
func rows() []row {
	return slices.Concat(plainRows(), headRows(), batchRows(), goingOnRows(), greatRows())
}

// plainRows are disks that no crash has touched.
func plainRows() []row {
	others := []file{{"w", segment(1, 1)}, {"w0", segment(1, 1)}, {"w07", segment(7, 7)}, {"w01", segment(1, 1)}, {"w1-", segment(1, 1)}, {"w1.5", segment(1, 1)}, {"a", []byte("a")}, {"root", nil}, {"v1", segment(1, 1)}, {"ww1", segment(1, 1)}, {"1", segment(1, 1)}, {"w1152921504606846977", segment(1, 1)}, {"w99999999999999999999", segment(1, 1)}}
	return []row{
		{"no files", nil, answer{}},
		{"other files", others, answer{}},
		{"other files beside a segment", append(others, file{"w1", segment(1, 1, 2)}), answer{plains(1, 2), []string{"w1"}, []deed{sync("w1")}}},
		{"a file w07 beside w6", []file{{"w6", segment(6, 6)}, {"w07", segment(7, 7)}}, answer{plains(6, 6), []string{"w6"}, []deed{sync("w6")}}},
		{"a head alone", []file{{"w1", segment(1)}}, answer{nil, []string{"w1"}, []deed{sync("w1")}}},
		{"three batches", []file{{"w1", segment(1, 1, 2, 3)}}, answer{plains(1, 3), []string{"w1"}, []deed{sync("w1")}}},
		{"from 8 on", []file{{"w8", segment(8, 8, 9)}}, answer{plains(8, 9), []string{"w8"}, []deed{sync("w8")}}},
		{"two segments", []file{{"w1", segment(1, 1, 2)}, {"w3", segment(3, 3, 4)}}, answer{plains(1, 4), []string{"w1", "w3"}, []deed{sync("w3")}}},
		{"a last one without batches", []file{{"w1", segment(1, 1, 2)}, {"w3", segment(3)}}, answer{plains(1, 2), []string{"w1", "w3"}, []deed{sync("w3")}}},
		{"w10 and w9", []file{{"w10", segment(10, 10, 11)}, {"w9", segment(9, 9)}}, answer{plains(9, 11), []string{"w9", "w10"}, []deed{sync("w10")}}},
		{"w99, w100 and w98", []file{{"w99", segment(99, 99)}, {"w100", segment(100)}, {"w98", segment(98, 98)}}, answer{plains(98, 99), []string{"w98", "w99", "w100"}, []deed{sync("w100")}}},
		{"records of all kinds", []file{{"w1", and(headed(1), framed(written(batch(1, "", "\x00\xa5", "w1"))), framed(written(batch(2, strings.Repeat("\x00", 200)))))}}, answer{[]api.Batch{batch(1, "", "\x00\xa5", "w1"), batch(2, strings.Repeat("\x00", 200))}, []string{"w1"}, []deed{sync("w1")}}},
	}
}

// headRows are disks with segments whose heads are not theirs.
func headRows() []row {
	gone := func(what string, b []byte) row {
		return row{what, []file{{"w5", b}}, answer{nil, nil, []deed{remove("w5")}}}
	}
	changed := headed(5)
	changed[2]++
	ended := headed(5)
	ended[len(ended)-1] = 164
	long := framed([]byte{0, 133, 0}) // 5, with a seven too many
	rows := []row{
		gone("no bytes", nil),
		gone("a nought", []byte{0}),
		gone("noughts", make([]byte, 64)),
		gone("no head", frames(5, 6)),
		gone("another one's head", segment(6, 5, 6)),
		gone("another one's head and batches", segment(4, 4, 5)),
		gone("its head as the second frame", and(frames(4), segment(5, 5))),
		gone("a changed head", and(changed, frames(5))),
		gone("a head with another end", and(ended, frames(5))),
		gone("a head with one byte more", and(framed([]byte{0, 5, 0}), frames(5))),
		gone("a head without a number", and(framed([]byte{0}), frames(5))),
		gone("a head with a long number", and(long, frames(5))),
		gone("a head with a long length", and([]byte{130, 0}, headed(5)[1:], frames(5))),
		gone("a nought ahead of its head", and([]byte{0}, segment(5, 5))),
		{"the first one of three without a head", []file{{"w1", frames(1)}, {"w2", segment(2, 2)}, {"w3", segment(3, 3)}}, answer{nil, nil, []deed{remove("w3"), remove("w2"), remove("w1")}}},
		{"the second one of three without a head", []file{{"w1", segment(1, 1)}, {"w2", frames(2)}, {"w3", segment(3, 3)}}, answer{plains(1, 1), []string{"w1"}, []deed{remove("w3"), remove("w2"), sync("w1")}}},
		{"the last one of three without a head", []file{{"w1", segment(1, 1)}, {"w2", segment(2, 2)}, {"w3", nil}}, answer{plains(1, 2), []string{"w1", "w2"}, []deed{remove("w3"), sync("w2")}}},
		{"the second one with the third one's head", []file{{"w1", segment(1, 1)}, {"w2", segment(3, 2)}, {"w3", segment(3, 3)}}, answer{plains(1, 1), []string{"w1"}, []deed{remove("w3"), remove("w2"), sync("w1")}}},
	}
	for n := range len(headed(5)) {
		torn := and(headed(5)[:n], make([]byte, len(headed(5))-n))
		rows = append(rows, gone("a head cut off", headed(5)[:n]), gone("a torn head", torn), gone("a torn head with batches", and(torn, frames(5, 6))))
	}
	return rows
}

// batchRows are disks with a segment that is not good to its end.
func batchRows() []row {
	ends := func(what string, whole int, behind ...[]byte) row {
		kept := and(headed(1), frames([]int{1, 2, 3}[:whole]...))
		return row{what, []file{{"w1", and(kept, and(behind...))}}, answer{plains(1, whole), []string{"w1"}, []deed{cut("w1", kept), sync("w1")}}}
	}
	changed := frames(3)
	changed[4] ^= 32
	ended := frames(3)
	ended[len(ended)-1] = 0
	rows := []row{
		ends("a number too great at first", 0, frames(2)),
		ends("a number too great", 2, frames(4)),
		ends("a number too small", 2, frames(1)),
		ends("the same number again", 2, frames(2, 3)),
		ends("a number left out, and all that follow", 1, frames(3, 4)),
		ends("a number too great, and the right one", 2, frames(4, 3)),
		ends("its head again", 0, headed(1), frames(1)),
		ends("its head again behind batches", 2, headed(1), frames(3)),
		ends("the next one's head", 2, headed(3), frames(3)),
		ends("a frame of one byte", 2, framed([]byte{3})),
		ends("a frame without records", 2, framed([]byte{3, 0})),
		ends("a frame with a record too few", 2, framed([]byte{3, 2, 0})),
		ends("a frame with a record too many", 2, framed([]byte{3, 1, 0, 0})),
		ends("a frame that is no batch, and one that is", 2, framed([]byte("three")), frames(3)),
		ends("a number with a seven too many", 2, framed([]byte{131, 0, 1, 0})),
		ends("a changed frame", 2, changed),
		ends("a changed frame, and whole ones", 2, changed, frames(3, 4)),
		ends("a frame with another end", 2, ended),
		ends("a frame with another end, and whole ones", 2, ended, frames(3, 4)),
		ends("one nought", 3, []byte{0}),
		ends("one nought, and whole frames", 2, []byte{0}, frames(3, 4)),
		ends("one byte", 3, []byte{9}),
		ends("noughts", 3, make([]byte, 64)),
		ends("noughts behind a head", 0, make([]byte, 64)),
		ends("noughts, and whole frames", 2, make([]byte, 64), frames(3, 4)),
	}
	for n := range len(frames(3)) {
		noughts := make([]byte, len(frames(3))-n)
		rows = append(rows, ends("a torn frame", 2, frames(3)[:n], noughts), ends("a torn frame, and whole ones", 2, frames(3)[:n], noughts, frames(3, 4)))
		if n > 0 {
			rows = append(rows, ends("a frame cut off", 2, frames(3)[:n]), ends("a frame cut off, and whole ones", 2, frames(3)[:n], frames(3, 4)))
		}
	}
	return rows
}

// goingOnRows are disks whose segments do not all go on.
func goingOnRows() []row {
	return []row{
		{"w9 beside w1 of three batches", []file{{"w1", segment(1, 1, 2, 3)}, {"w9", segment(9, 9)}}, answer{plains(1, 3), []string{"w1"}, []deed{remove("w9"), sync("w1")}}},
		{"one number too far", []file{{"w1", segment(1, 1, 2)}, {"w4", segment(4, 4)}}, answer{plains(1, 2), []string{"w1"}, []deed{remove("w4"), sync("w1")}}},
		{"one number too near", []file{{"w1", segment(1, 1, 2)}, {"w2", segment(2, 2, 3)}}, answer{plains(1, 2), []string{"w1"}, []deed{remove("w2"), sync("w1")}}},
		{"too far, and the ones behind would go on", []file{{"w1", segment(1, 1)}, {"w3", segment(3, 3)}, {"w4", segment(4, 4)}}, answer{plains(1, 1), []string{"w1"}, []deed{remove("w4"), remove("w3"), sync("w1")}}},
		{"too near, and the one behind would go on", []file{{"w1", segment(1, 1, 2)}, {"w2", segment(2, 2)}, {"w3", segment(3, 3)}}, answer{plains(1, 2), []string{"w1"}, []deed{remove("w3"), remove("w2"), sync("w1")}}},
		{"none goes on behind a head alone", []file{{"w4", segment(4)}, {"w5", segment(5, 5)}}, answer{nil, []string{"w4"}, []deed{remove("w5"), sync("w4")}}},
		{"none goes on behind a head alone in the middle", []file{{"w3", segment(3, 3)}, {"w4", segment(4)}, {"w5", segment(5, 5)}}, answer{plains(3, 3), []string{"w3", "w4"}, []deed{remove("w5"), sync("w4")}}},
		{"none goes on behind what is not good to its end", []file{{"w1", and(segment(1, 1), []byte{0})}, {"w2", segment(2, 2)}}, answer{plains(1, 1), []string{"w1"}, []deed{remove("w2"), cut("w1", segment(1, 1)), sync("w1")}}},
		{"a torn batch, and the segment of the number behind it", []file{{"w1", and(segment(1, 1), frames(2)[:5])}, {"w3", segment(3, 3)}}, answer{plains(1, 1), []string{"w1"}, []deed{remove("w3"), cut("w1", segment(1, 1)), sync("w1")}}},
		{"the end of the middle one", []file{{"w1", segment(1, 1)}, {"w2", and(segment(2, 2), frames(4))}, {"w3", segment(3, 3)}, {"w4", segment(4, 4)}}, answer{plains(1, 2), []string{"w1", "w2"}, []deed{remove("w4"), remove("w3"), cut("w2", segment(2, 2)), sync("w2")}}},
		{"by numbers, not by names", []file{{"w9", segment(9, 9)}, {"w10", nil}, {"w11", segment(11, 11)}, {"w100", nil}, {"w20", segment(20, 20)}, {"w3000", nil}}, answer{plains(9, 9), []string{"w9"}, []deed{remove("w3000"), remove("w100"), remove("w20"), remove("w11"), remove("w10"), sync("w9")}}},
		{"the first by number, not by name", []file{{"w10", segment(10, 10)}, {"w9", and(headed(9)[:3])}}, answer{nil, nil, []deed{remove("w10"), remove("w9")}}},
	}
}

// greatRows are disks of the greatest numbers, batches and files.
func greatRows() []row {
	many := api.Batch{N: 1, Recs: make([][]byte, api.MaxBatch)}
	tooMany := api.Batch{N: 2, Recs: make([][]byte, api.MaxBatch+1)}
	long := batch(2, strings.Repeat("x", api.MaxFrame-5))
	tooLong := batch(3, strings.Repeat("x", api.MaxFrame-4))
	great := slices.Concat(headed(1), framed(written(many)), framed(written(long)))
	rows := []row{
		{"the greatest number", []file{{name(most), segment(most, most)}}, answer{plains(most, most), []string{name(most)}, []deed{sync(name(most))}}},
		{"behind the greatest number", []file{{name(most), segment(most, most, most+1)}}, answer{plains(most, most), []string{name(most)}, []deed{cut(name(most), segment(most, most)), sync(name(most))}}},
		{"no segment behind the greatest number", []file{{name(most), segment(most, most)}, {name(most + 1), segment(most+1, most+1)}}, answer{plains(most, most), []string{name(most)}, []deed{sync(name(most))}}},
		{"far numbers", []file{{"w1", segment(1, 1)}, {name(most), segment(most)}}, answer{plains(1, 1), []string{"w1"}, []deed{remove(name(most)), sync("w1")}}},
		{"the greatest batches", []file{{"w1", great}}, answer{[]api.Batch{many, long}, []string{"w1"}, []deed{sync("w1")}}},
		{"a batch too long", []file{{"w1", and(great, framed(written(tooLong)))}}, answer{[]api.Batch{many, long}, []string{"w1"}, []deed{cut("w1", great), sync("w1")}}},
		{"a batch of too many records", []file{{"w1", and(segment(1, 1), framed(written(tooMany)))}}, answer{plains(1, 1), []string{"w1"}, []deed{cut("w1", segment(1, 1)), sync("w1")}}},
	}
	full := row{"as many files as may be", nil, answer{batches: plains(1, api.MaxFiles), deeds: []deed{sync(name(api.MaxFiles))}}}
	gone := row{"as many files as may be, let go", nil, answer{}}
	for n := 1; n <= api.MaxFiles; n++ {
		full.files, full.names = append(full.files, file{name(n), segment(n, n)}), append(full.names, name(n))
		gone.files, gone.deeds = append(gone.files, file{name(n), segment(n + 1)}), append([]deed{remove(name(n))}, gone.deeds...)
	}
	return append(rows, full, gone)
}

// scans fails the test unless Scan tells that, and changes nothing.
func scans(t *testing.T, what string, d *disk.Disk, want answer) {
	t.Helper()
	before := shown(d)
	batches, names, e := scan.Scan(d)
	if e != api.OK || !sameBatches(batches, want.batches) || !slices.Equal(names, want.names) {
		t.Fatalf("%s: Scan: %.200v, %v, error %d; want %.200v, %v", what, batches, names, e, want.batches, want.names)
	}
	if shown(d) != before {
		t.Fatalf("%s: Scan has changed the disk", what)
	}
}

// refuses fails the test unless all three calls tell that error, and nothing else.
func refuses(t *testing.T, what string, d *disk.Disk, want api.Errno) {
	t.Helper()
	if batches, names, e := scan.Scan(d); batches != nil || names != nil || e != want {
		t.Errorf("%s: Scan: %v, %v, error %d; want error %d", what, batches, names, e, want)
	}
	if batches, e := scan.Mend(d); batches != nil || e != want {
		t.Errorf("%s: Mend: %v, error %d; want error %d", what, batches, e, want)
	}
	if l, batches, e := scan.Open(d, 64, 0); l != nil || batches != nil || e != want {
		t.Errorf("%s: Open: %v, %v, error %d; want error %d", what, l, batches, e, want)
	}
}

// The words of the tests say of the rows what the rows say.
func TestByWords(t *testing.T) {
	for _, r := range rows() {
		got := byWords(r.disk(t, 0))
		if !sameBatches(got.batches, r.batches) || !slices.Equal(got.names, r.names) || !slices.Equal(got.deeds, r.deeds) {
			t.Errorf("%s: by words: %.200v, %v, %v", r.what, got.batches, got.names, got.deeds)
		}
	}
}

// P5.1: Scan.

func TestScan(t *testing.T) {
	for _, r := range rows() {
		for _, safe := range []int{0, 9, api.MaxDisk} {
			scans(t, r.what, r.disk(t, safe), r.answer)
		}
	}
}

func TestNoDisk(t *testing.T) {
	refuses(t, "nil", nil, api.ErrNil)
	refuses(t, "one that New did not make", &disk.Disk{}, api.ErrNil)
	refuses(t, "one that New did not make", new(disk.Disk), api.ErrNil)
}

func TestDarkDisk(t *testing.T) {
	for _, r := range rows()[:20] {
		d := r.disk(t, api.MaxDisk)
		before := shown(d)
		d.Arm(0)
		tells(t, "Append", d.Append("x", nil), api.ErrDown)
		refuses(t, r.what, d, api.ErrDown)
		d.Crash(nil, nil)
		if shown(d) != before {
			t.Errorf("%s: a dark disk has changed", r.what)
		}
		scans(t, r.what, d, r.answer)
	}
}

// hasNoFuseLeft fails the test unless the power fails at the next deed.
func hasNoFuseLeft(t *testing.T, d *disk.Disk) {
	t.Helper()
	one := append(d.List(), "x")[0]
	tells(t, "the next deed", d.Append(one, nil), api.ErrDown)
}

func TestScanBurnsNoFuse(t *testing.T) {
	for _, r := range rows() {
		d := r.disk(t, 0)
		d.Arm(0)
		scans(t, r.what, d, r.answer)
		hasNoFuseLeft(t, d)
	}
}

// spoil writes over all that an answer has, records' spare room too.
func spoil(batches []api.Batch, names []string) {
	for i := range batches {
		for j := range batches[i].Recs {
			rec := batches[i].Recs[j]
			clear(rec[:cap(rec)])
		}
		clear(batches[i].Recs[:cap(batches[i].Recs)])
	}
	clear(batches)
	clear(names)
}

func TestAnswersAreNew(t *testing.T) {
	r := row{"", []file{{"w1", segment(1, 1, 2)}, {"w3", and(segment(3, 3, 4), []byte{0})}}, answer{batches: plains(1, 4), names: []string{"w1", "w3"}}}
	d := r.disk(t, 0)
	before := shown(d)
	batches, names, _ := scan.Scan(d)
	otherBatches, otherNames, _ := scan.Scan(d)
	spoil(otherBatches, otherNames)
	if !sameBatches(batches, r.batches) || !slices.Equal(names, r.names) || shown(d) != before {
		t.Errorf("Scan: %v, %v behind a change of another answer", batches, names)
	}
	spoil(batches[1:3], nil)
	if !sameBatches(batches[:1], r.batches[:1]) || !sameBatches(batches[3:], r.batches[3:]) {
		t.Errorf("Scan: %v behind a change of two of its batches", batches)
	}
}

// P5.2: Mend.

// mends fails the test unless Mend tells that.
func mends(t *testing.T, what string, d *disk.Disk, want []api.Batch) {
	t.Helper()
	batches, e := scan.Mend(d)
	if e != api.OK || !sameBatches(batches, want) {
		t.Fatalf("%s: Mend: %.200v, error %d; want %.200v", what, batches, e, want)
	}
}

// mendsByDeeds fails the test unless Mend does the first deeds, up to the one at which the power fails, and those alone.
func mendsByDeeds(t *testing.T, what string, before *disk.Disk, fuse int, want answer) *disk.Disk {
	t.Helper()
	d, model := copied(t, before), copied(t, before)
	d.Arm(fuse)
	if fuse < len(want.deeds) {
		if batches, e := scan.Mend(d); batches != nil || e != api.ErrDown {
			t.Fatalf("%s: Mend with a fuse of %d: %.200v, error %d", what, fuse, batches, e)
		}
	} else {
		mends(t, what, d, want.batches)
		hasNoFuseLeft(t, d)
	}
	for _, one := range want.deeds[:fuse] {
		tells(t, what+": "+one.does, one.do(model), api.OK)
	}
	keeps := slices.Repeat([]int{api.MaxDisk}, api.MaxFiles)
	marks := func(d *disk.Disk) (all []int) {
		for _, name := range d.List() {
			all = append(all, d.Synced(name))
		}
		return all
	}
	if !slices.Equal(marks(d), marks(model)) {
		t.Fatalf("%s: Mend with a fuse of %d: %v are safe, want %v", what, fuse, marks(d), marks(model))
	}
	d.Crash(keeps, nil)
	model.Crash(keeps, nil)
	if got, want := shown(d), shown(model); got != want {
		t.Fatalf("%s: Mend with a fuse of %d leaves\n%.500s\nwant\n%.500s", what, fuse, got, want)
	}
	return d
}

func TestMendDeedByDeed(t *testing.T) {
	for _, r := range rows() {
		for _, safe := range []int{0, 9, api.MaxDisk} {
			before := r.disk(t, safe)
			for fuse := 0; fuse <= len(r.deeds); fuse += 1 + len(r.deeds)/50 {
				d := mendsByDeeds(t, r.what, before, fuse, r.answer)
				scans(t, r.what+", mended in part", d, r.answer)
				mends(t, r.what+", mended again", d, r.batches)
				scans(t, r.what+", mended again", d, r.answer)
			}
		}
	}
}

func TestMendTwice(t *testing.T) {
	for _, r := range rows() {
		d := r.disk(t, 0)
		mends(t, r.what, d, r.batches)
		scans(t, r.what+", mended", d, r.answer)
		once := shown(d)
		mends(t, r.what+", mended twice", d, r.batches)
		if shown(d) != once {
			t.Errorf("%s: mended twice is not mended once", r.what)
		}
	}
}

func TestMendMakesItSafe(t *testing.T) {
	for _, r := range rows() {
		if len(r.names) > 1 {
			continue // those ahead of the last one are a log's, and synced
		}
		d := r.disk(t, 0)
		mends(t, r.what, d, r.batches)
		d.Crash(nil, nil)
		scans(t, r.what+", crashed behind Mend", d, r.answer)
	}
}

func TestMendLeavesOtherFiles(t *testing.T) {
	for _, other := range []string{"w", "w0", "w07", "w1-", "w1.5", "ww1", "v1", "root-a", name(most + 1)} {
		r := row{"", []file{{"w1", and(segment(1, 1), []byte{0})}, {"w7", segment(7)}, {other, segment(1, 1)}}, answer{}}
		d := r.disk(t, 4)
		mends(t, other, d, plains(1, 1))
		if b, e := d.Read(other); e != api.OK || !bytes.Equal(b, segment(1, 1)) || d.Synced(other) != 4 {
			t.Errorf("Mend has changed %s: %v, error %d, %d bytes safe", other, b, e, d.Synced(other))
		}
		if got := len(d.List()); got != 2 {
			t.Errorf("%d files are left", got)
		}
	}
}

func TestMendOfAFullDisk(t *testing.T) {
	b := and(segment(1, 1), []byte{7, 7, 7})
	d := newDisk(t, len(b))
	tells(t, "Append", d.Append("w1", b), api.OK)
	mends(t, "full", d, plains(1, 1))
	if d.Used() != len(segment(1, 1)) {
		t.Errorf("%d bytes are used", d.Used())
	}
}

// P5.3: Open.

// opens fails the test unless Open answers a log that stands like that, and these batches.
func opens(t *testing.T, what string, d *disk.Disk, size, last, logLast int, names []string, want []api.Batch) *log.Log {
	t.Helper()
	l, batches, e := scan.Open(d, size, last)
	if e != api.OK || !sameBatches(batches, want) {
		t.Fatalf("%s: Open behind %d: %.200v, error %d; want %.200v", what, last, batches, e, want)
	}
	if l.Last() != logLast || l.Acked() != logLast || !slices.Equal(l.Files(), names) || l.Over() {
		t.Fatalf("%s: Open behind %d: a log of %d, %d, %v, %v; want %d, %v", what, last, l.Last(), l.Acked(), l.Files(), l.Over(), logLast, names)
	}
	return l
}

// opensNot fails the test unless Open tells that error alone.
func opensNot(t *testing.T, what string, d *disk.Disk, size, last int, want api.Errno) {
	t.Helper()
	if l, batches, e := scan.Open(d, size, last); l != nil || batches != nil || e != want {
		t.Fatalf("%s: Open(%d, %d): %v, %.200v, error %d; want error %d", what, size, last, l, batches, e, want)
	}
}

// goesOn fails the test unless the next batch of a log is that one, and stands in that file.
func goesOn(t *testing.T, d *disk.Disk, l *log.Log, n int, name string) {
	t.Helper()
	if got, e := l.Write(plain(n).Recs); got != n || e != api.OK {
		t.Fatalf("Write: %d, error %d; want %d", got, e, n)
	}
	b, e := d.Read(name)
	if e != api.OK || !bytes.HasSuffix(b, frames(n)) {
		t.Fatalf("the batch %d is not in %s: %v, error %d", n, name, b, e)
	}
}

func TestOpenWithoutSegments(t *testing.T) {
	kinds := map[string][]file{
		"no files": nil, "other files": {{"w07", segment(7, 7)}, {"w0", nil}, {"w", nil}},
		"one let go": {{"w3", frames(3)}}, "all let go": {{"w8", nil}, {"w9", segment(9, 9)}},
	}
	for what, files := range kinds {
		for _, last := range []int{0, 1, 7, 8, 1 << 40, 1 << 59} {
			d := row{files: files}.disk(t, 0)
			l := opens(t, what, d, 64, last, last, nil, nil)
			goesOn(t, d, l, last+1, name(last+1))
			scans(t, what, d, answer{batches: plains(last+1, last+1), names: []string{name(last + 1)}})
		}
	}
}

func TestOpenBehind(t *testing.T) {
	kinds := []struct {
		what        string
		files       []file
		first, last int
		names       []string
	}{
		{"one segment", []file{{"w8", segment(8, 8, 9, 10)}}, 8, 10, []string{"w8"}},
		{"the first segment", []file{{"w1", segment(1, 1, 2)}}, 1, 2, []string{"w1"}},
		{"a head alone", []file{{"w8", segment(8)}}, 8, 7, []string{"w8"}},
		{"the first head alone", []file{{"w1", segment(1)}}, 1, 0, []string{"w1"}},
		{"three segments", []file{{"w9", segment(9, 9, 10)}, {"w11", segment(11, 11)}, {"w12", segment(12, 12, 13)}}, 9, 13, []string{"w9", "w11", "w12"}},
		{"a last one without batches", []file{{"w9", segment(9, 9)}, {"w10", segment(10)}}, 9, 9, []string{"w9", "w10"}},
		{"a torn end", []file{{"w5", and(segment(5, 5, 6), frames(7)[:9])}}, 5, 6, []string{"w5"}},
		{"two let go", []file{{"w5", segment(5, 5, 6)}, {"w9", segment(9, 9)}, {"w10", segment(10, 10)}}, 5, 6, []string{"w5"}},
		{"a head torn", []file{{"w5", segment(5, 5, 6)}, {"w7", headed(7)[:4]}}, 5, 6, []string{"w5"}},
		{"great numbers", []file{{name(1<<59 - 2), segment(1<<59-2, 1<<59-2, 1<<59-1)}, {name(1 << 59), segment(1<<59, 1<<59)}}, 1<<59 - 2, 1 << 59, []string{name(1<<59 - 2), name(1 << 59)}},
		{"a head behind the greatest last", []file{{name(1<<59 + 1), segment(1<<59 + 1)}}, 1<<59 + 1, 1 << 59, []string{name(1<<59 + 1)}},
	}
	for _, k := range kinds {
		r := row{files: k.files}
		for last := max(k.first-4, 0); last <= min(k.last+4, 1<<59); last++ {
			d := r.disk(t, 0)
			if k.first > last+1 || k.last < last {
				opensNot(t, k.what, d, 1000, last, api.ErrLog)
				continue
			}
			l := opens(t, k.what, d, 1000, last, k.last, k.names, plains(last+1, k.last))
			goesOn(t, d, l, k.last+1, k.names[len(k.names)-1])
		}
	}
}

func TestOpenMendsAheadOfErrLog(t *testing.T) {
	for _, last := range []int{3, 9} {
		r := row{files: []file{{"w5", and(segment(5, 5), []byte{0})}, {"w9", segment(9, 9)}}}
		d, mended := r.disk(t, 0), r.disk(t, 0)
		opensNot(t, "beside it", d, 64, last, api.ErrLog)
		mends(t, "alone", mended, plains(5, 5))
		if got, want := shown(d), shown(mended); got != want {
			t.Errorf("Open leaves\n%s\nwant\n%s", got, want)
		}
	}
}

func TestOpenTellsResumesError(t *testing.T) {
	const far = 1<<59 + 1 // no log goes on behind it
	for _, r := range []row{
		{files: []file{{name(far), segment(far, far)}}},
		{files: []file{{name(far - 1), segment(far-1, far-1, far)}}},
		{files: []file{{name(far - 1), segment(far-1, far-1, far)}, {name(far + 1), segment(far+1, far+1)}}},
	} {
		opensNot(t, "a batch that no log has last", r.disk(t, 0), 64, far-1, api.ErrArg)
	}
	d := row{files: []file{{name(most), segment(most, most)}}}.disk(t, 0)
	opensNot(t, "the greatest", d, 64, 1<<59, api.ErrLog)
}

func TestOpenRefuses(t *testing.T) {
	sizes := []int{math.MinInt, -1, 0, 63, api.MaxDisk + 1, math.MaxInt}
	lasts := []int{math.MinInt, -1, 1<<59 + 1, math.MaxInt}
	r := row{files: []file{{"w1", and(segment(1, 1), []byte{0})}, {"w9", segment(9, 9)}}}
	d := r.disk(t, 0)
	dark := r.disk(t, 0)
	dark.Arm(0)
	tells(t, "Append", dark.Append("x", nil), api.ErrDown)
	before := shown(d)
	for _, size := range append(sizes, 64, api.MaxDisk) {
		for _, last := range append(lasts, 0, 1<<59) {
			opensNot(t, "no disk", nil, size, last, api.ErrNil)
			opensNot(t, "one that New did not make", new(disk.Disk), size, last, api.ErrNil)
			if slices.Contains(sizes, size) || slices.Contains(lasts, last) {
				opensNot(t, "a disk to mend", d, size, last, api.ErrArg)
				opensNot(t, "a dark disk", dark, size, last, api.ErrArg)
			} else {
				opensNot(t, "a dark disk", dark, size, last, api.ErrDown)
			}
		}
	}
	if shown(d) != before {
		t.Errorf("Open has mended a disk that it refused")
	}
}

func TestOpenTakesSizes(t *testing.T) {
	for _, size := range []int{64, 65, api.MaxDisk} {
		d := row{files: []file{{"w1", segment(1, 1, 2, 3, 4, 5)}}}.disk(t, 0)
		l := opens(t, "sizes", d, size, 0, 5, []string{"w1"}, plains(1, 5))
		if d.Size("w1") < 65 || d.Size("w1") > 1000 {
			t.Fatalf("the test's segment has %d bytes", d.Size("w1"))
		}
		if size < 1000 {
			goesOn(t, d, l, 6, "w6")
		} else {
			goesOn(t, d, l, 6, "w1")
		}
	}
}

func TestOpenDeedByDeed(t *testing.T) {
	for _, r := range rows() {
		if len(r.deeds) > 50 || len(r.names) > 0 && r.names[0] == name(most) {
			continue
		}
		last := 0
		if len(r.names) > 0 {
			first, _ := log.First(r.names[0])
			last = first - 1
		}
		for fuse := range len(r.deeds) + 1 {
			d, mended := r.disk(t, 9), r.disk(t, 9)
			d.Arm(fuse)
			mended.Arm(fuse)
			if _, e := scan.Mend(mended); e != api.OK {
				opensNot(t, r.what, d, 64, last, api.ErrDown)
			} else {
				opens(t, r.what, d, 64, last, last+len(r.batches), r.names, r.batches)
			}
			d.Crash(nil, nil)
			mended.Crash(nil, nil)
			if got, want := shown(d), shown(mended); got != want {
				t.Fatalf("%s: Open with a fuse of %d leaves\n%s\nwant\n%s", r.what, fuse, got, want)
			}
		}
	}
}

func TestErrDownCountsAheadOfErrLog(t *testing.T) {
	for _, last := range []int{3, 4, 6, 1 << 59} {
		d := row{files: []file{{"w5", segment(5, 5)}}}.disk(t, 0)
		d.Arm(0)
		opensNot(t, "a fuse of 0", d, 64, last, api.ErrDown)
	}
}

func TestOpenedTwiceIsTwoLogs(t *testing.T) {
	d := row{files: []file{{"w1", segment(1, 1)}}}.disk(t, 0)
	one := opens(t, "once", d, 1000, 0, 1, []string{"w1"}, plains(1, 1))
	goesOn(t, d, one, 2, "w1")
	two := opens(t, "twice", d, 1000, 1, 2, []string{"w1"}, plains(2, 2))
	goesOn(t, d, two, 3, "w1")
	if one.Last() != 2 {
		t.Errorf("the first log is at %d", one.Last())
	}
}

// Bytes that nobody wrote.

// blemish changes a disk in one place by chance.
func blemish(t *testing.T, source *rand.Rand, d *disk.Disk) {
	t.Helper()
	names := d.List()
	one := names[source.Intn(len(names))]
	b, e := d.Read(one)
	tells(t, "Read", e, api.OK)
	at := source.Intn(len(b) + 1)
	n := 1 + source.Intn(12)
	junk := [][]byte{nil, {0}, {165}, make([]byte, n), frames(n), headed(n), framed([]byte{byte(n)}), b[:at]}[source.Intn(8)]
	switch source.Intn(7) {
	case 0:
		b = b[:at]
	case 1:
		b = and(b[:at], make([]byte, len(b)-at))
	case 2:
		b = and(b[:at], junk, b[at:])
	case 3:
		b = and(b[:at], junk)
	case 4:
		if at < len(b) {
			b[at] ^= 1 << source.Intn(8)
		}
	case 5:
		other := []string{name(n), "w0" + name(n)[1:], "x"}[source.Intn(3)]
		tells(t, "Rename", d.Rename(one, other), api.OK)
		return
	case 6:
		b = and(b, junk)
	}
	tells(t, "Cut", d.Cut(one, 0), api.OK)
	tells(t, "Append", d.Append(one, b), api.OK)
	if source.Intn(2) == 0 {
		tells(t, "Sync", d.Sync(one), api.OK)
	}
}

func TestBlemishedDisksByWords(t *testing.T) {
	source := rand.New(rand.NewSource(51))
	for range 6000 {
		r := row{files: []file{{"w8", segment(8, 8)}, {"w9", segment(9, 9)}, {"w10", segment(10, 10, 11)}, {"w12", segment(12)}}}
		d := r.disk(t, source.Intn(60))
		for range 1 + source.Intn(3) {
			blemish(t, source, d)
		}
		want := byWords(d)
		scans(t, "blemished", d, want)
		after := mendsByDeeds(t, "blemished", d, source.Intn(len(want.deeds)+1), want)
		scans(t, "blemished, mended in part", after, want)
		mends(t, "blemished, mended again", after, want.batches)
	}
}

func TestExamples(t *testing.T) {
	d := newDisk(t, 1000)
	l, e := log.Begin(d, 1000, 0)
	tells(t, "Begin", e, api.OK)
	for n := 1; n <= 3; n++ {
		goesOn(t, d, l, n, "w1")
		if n == 1 {
			tells(t, "Sync", l.Sync(), api.OK)
		}
	}
	d.Crash([]int{len(frames(2)) + len(frames(3))/2}, nil)
	want := answer{batches: plains(1, 2), names: []string{"w1"}}
	scans(t, "half a batch", d, want)
	mends(t, "half a batch", d, want.batches)
	if d.Size("w1") != len(segment(1, 1, 2)) {
		t.Errorf("w1 has %d bytes", d.Size("w1"))
	}
	scans(t, "half a batch, mended", d, want)
	beside := row{files: []file{{"w1", segment(1, 1, 2, 3)}, {"w9", segment(9, 9)}}}.disk(t, 0)
	mends(t, "w9 beside w1", beside, plains(1, 3))
	if !slices.Equal(beside.List(), []string{"w1"}) {
		t.Errorf("files %v are left", beside.List())
	}
	empty := newDisk(t, 1000)
	scans(t, "a disk without files", empty, answer{})
	goesOn(t, empty, opens(t, "a disk without files", empty, 64, 7, 7, nil, nil), 8, "w8")
}
