package scan_test

import (
	"bytes"
	"encoding/binary"
	"fmt"
	"hash/crc32"
	"regexp"
	"slices"
	"strconv"
	"strings"
	"testing"

	"millwheel/api"
	"millwheel/disk"
)

// What the tests hold scan against: segments by the library's means, and a disk read and mended as the chapter's words say, without layers 3 and 4.

// most is the greatest number of a batch, and of a segment.
const most = 1 << 60

// framed is a body's frame.
func framed(body []byte) []byte {
	b := binary.AppendUvarint(nil, uint64(len(body)))
	b = append(b, body...)
	b = binary.BigEndian.AppendUint32(b, crc32.ChecksumIEEE(body))
	return append(b, 165)
}

// headed is the frame of a segment's head.
func headed(first int) []byte {
	return framed(binary.AppendUvarint([]byte{0}, uint64(first)))
}

// written is a batch's bytes.
func written(b api.Batch) []byte {
	all := binary.AppendUvarint(nil, uint64(b.N))
	all = binary.AppendUvarint(all, uint64(len(b.Recs)))
	for _, rec := range b.Recs {
		all = binary.AppendUvarint(all, uint64(len(rec)))
		all = append(all, rec...)
	}
	return all
}

// batch is one of such texts.
func batch(n int, texts ...string) api.Batch {
	b := api.Batch{N: n}
	for _, one := range texts {
		b.Recs = append(b.Recs, []byte(one))
	}
	return b
}

// plain is a batch that tells its number, with a record of nothing behind.
func plain(n int) api.Batch {
	return batch(n, "of "+strconv.Itoa(n), "")
}

// plains are batches from one number up to another.
func plains(from, to int) []api.Batch {
	var all []api.Batch
	for n := from; n <= to; n++ {
		all = append(all, plain(n))
	}
	return all
}

// frames are the frames of plain batches of these numbers.
func frames(numbers ...int) []byte {
	var b []byte
	for _, n := range numbers {
		b = append(b, framed(written(plain(n)))...)
	}
	return b
}

// segment is the head of a segment, and the frames of plain batches of these numbers.
func segment(first int, numbers ...int) []byte {
	return slices.Concat(headed(first), frames(numbers...))
}

// name is a segment's.
func name(first int) string {
	return "w" + strconv.Itoa(first)
}

// sameBatches tells whether batches are the same, one by one.
func sameBatches(a, b []api.Batch) bool {
	return slices.EqualFunc(a, b, func(x, y api.Batch) bool {
		return x.N == y.N && slices.EqualFunc(x.Recs, y.Recs, bytes.Equal)
	})
}

// newDisk makes a disk.
func newDisk(t *testing.T, room int) *disk.Disk {
	t.Helper()
	d, e := disk.New(room)
	tells(t, "New", e, api.OK)
	return d
}

// tells fails the test unless an error is that one.
func tells(t *testing.T, what string, got, want api.Errno) {
	t.Helper()
	if got != want {
		t.Fatalf("%s: error %d, want %d", what, got, want)
	}
}

// shown is all that can be told of a disk with power, but for its fuse.
func shown(d *disk.Disk) string {
	var b strings.Builder
	for _, name := range d.List() {
		all, e := d.Read(name)
		fmt.Fprintf(&b, "%s, %d safe, error %d: %x\n", name, d.Synced(name), e, all)
	}
	return b.String()
}

// copied is a disk that has the same files, with the same marks.
func copied(t *testing.T, d *disk.Disk) *disk.Disk {
	t.Helper()
	c := newDisk(t, api.MaxDisk)
	for _, name := range d.List() {
		b, e := d.Read(name)
		tells(t, "Read", e, api.OK)
		tells(t, "Append", c.Append(name, b[:d.Synced(name)]), api.OK)
		if d.Synced(name) > 0 {
			tells(t, "Sync", c.Sync(name), api.OK)
		}
		tells(t, "Append", c.Append(name, b[d.Synced(name):]), api.OK)
	}
	if got, want := shown(c), shown(d); got != want {
		t.Fatalf("the test's copy of a disk is\n%s\nwant\n%s", got, want)
	}
	return c
}

// uvarint reads the varint at a place, and tells the place behind it, below 0 if there is none.
func uvarint(b []byte, at int) (uint64, int) {
	n, size := binary.Uvarint(b[at:])
	if size <= 0 || len(binary.AppendUvarint(nil, n)) != size {
		return 0, -1
	}
	return n, at + size
}

// frameAt is the body of the frame at a place, and the place behind it, below 0 if there is none.
func frameAt(b []byte, at int) ([]byte, int) {
	n, from := uvarint(b, at)
	if from < 0 || n < 1 || n > 1<<20 || from+int(n)+5 > len(b) {
		return nil, -1
	}
	body := b[from : from+int(n)]
	end := from + int(n) + 5
	if !bytes.Equal(framed(body), b[at:end]) {
		return nil, -1
	}
	return body, end
}

// batchOf is the batch of a body, if it is one's.
func batchOf(body []byte) (api.Batch, bool) {
	n, at := uvarint(body, 0)
	if at < 0 || n < 1 || n > most {
		return api.Batch{}, false
	}
	count, at := uvarint(body, at)
	if at < 0 || count < 1 || count > 1000 {
		return api.Batch{}, false
	}
	b := api.Batch{N: int(n)}
	for range count {
		size, from := uvarint(body, at)
		if from < 0 || size > uint64(len(body)-from) {
			return api.Batch{}, false
		}
		at = from + int(size)
		b.Recs = append(b.Recs, body[from:at])
	}
	return b, at == len(body)
}

// answer is what the words say of a disk: what Scan tells, and what Mend does.
type answer struct {
	batches []api.Batch
	names   []string
	deeds   []deed
}

// deed is one of Mend's: of a file, remove, cut (to so many bytes) or sync.
type deed struct {
	does, name string
	to         int
}

// do does the deed.
func (one deed) do(d *disk.Disk) api.Errno {
	switch one.does {
	case "remove":
		return d.Remove(one.name)
	case "cut":
		return d.Cut(one.name, one.to)
	}
	return d.Sync(one.name)
}

// segmentName is what a segment's name looks like, but for those that are too great.
var segmentName = regexp.MustCompile(`\Aw[1-9][0-9]*\z`)

// segmentsOf are the numbers of a disk's segments, rising.
func segmentsOf(d *disk.Disk) []int {
	var firsts []int
	for _, name := range d.List() {
		if n, err := strconv.Atoi(name[1:]); segmentName.MatchString(name) && err == nil && n <= most {
			firsts = append(firsts, n)
		}
	}
	slices.Sort(firsts)
	return firsts
}

// byWords is what the chapter's words say of a disk with power.
func byWords(d *disk.Disk) answer {
	var a answer
	firsts := segmentsOf(d)
	stay, next, whole, good := 0, 0, 0, true
	for i, first := range firsts {
		b, _ := d.Read(name(first))
		head, end := frameAt(b, 0)
		if i > 0 && (!good || first != next) || end < 0 || !bytes.Equal(head, binary.AppendUvarint([]byte{0}, uint64(first))) {
			break
		}
		stay, next = stay+1, first
		for at := end; at >= 0; {
			whole = at
			var body []byte
			if body, at = frameAt(b, at); at < 0 {
				break
			}
			one, ok := batchOf(body)
			if !ok || one.N != next {
				break
			}
			a.batches, next = append(a.batches, one), next+1
		}
		good = whole == len(b)
		a.names = append(a.names, name(first))
	}
	for _, first := range slices.Backward(firsts[stay:]) {
		a.deeds = append(a.deeds, deed{"remove", name(first), 0})
	}
	if stay > 0 && !good {
		a.deeds = append(a.deeds, deed{"cut", name(firsts[stay-1]), whole})
	}
	if stay > 0 {
		a.deeds = append(a.deeds, deed{"sync", name(firsts[stay-1]), 0})
	}
	return a
}
