package root_test

import (
	"bytes"
	"encoding/binary"
	"fmt"
	"hash/crc32"
	"slices"
	"strings"
	"testing"

	"millwheel/api"
	"millwheel/disk"
)

// What the tests hold root against: roots by the library's means, and disks as the chapter's words say, without layers 1 and 3.

const (
	mostSerial = 1 << 40
	mostBatch  = 1 << 59
)

// framed is a body's frame.
func framed(body []byte) []byte {
	b := binary.AppendUvarint(nil, uint64(len(body)))
	b = append(b, body...)
	b = binary.BigEndian.AppendUint32(b, crc32.ChecksumIEEE(body))
	return append(b, 165)
}

// body is what stands in the frame of a root of these numbers, right or not.
func body(serial, batch uint64, blob []byte) []byte {
	b := binary.AppendUvarint(nil, serial)
	b = binary.AppendUvarint(b, batch)
	b = binary.AppendUvarint(b, uint64(len(blob)))
	return append(b, blob...)
}

// rootOf is a root whose blob is a text.
func rootOf(serial, batch int, text string) api.Root {
	return api.Root{Serial: serial, Batch: batch, Blob: []byte(text)}
}

// written is a root's bytes, right or not.
func written(r api.Root) []byte {
	return framed(body(uint64(r.Serial), uint64(r.Batch), r.Blob))
}

// right tells whether a root is.
func right(r api.Root) bool {
	return r.Serial >= 1 && r.Serial <= mostSerial && r.Batch >= 0 && r.Batch <= mostBatch && len(r.Blob) <= 1<<19
}

// same tells whether roots are.
func same(a, b api.Root) bool {
	return a.Serial == b.Serial && a.Batch == b.Batch && bytes.Equal(a.Blob, b.Blob)
}

// brief is a root for a test's report: a blob may be long.
func brief(r api.Root) string {
	return fmt.Sprintf("{%d %d, %d bytes %.50x}", r.Serial, r.Batch, len(r.Blob), r.Blob)
}

// isNone tells whether a root is nothing at all.
func isNone(r api.Root) bool {
	return r.Serial == 0 && r.Batch == 0 && r.Blob == nil
}

// parsed is the right root whose bytes these are, if there is one: what can be read of them is written again, and held against them.
func parsed(b []byte) (api.Root, bool) {
	_, at := binary.Uvarint(b)
	if at <= 0 {
		return api.Root{}, false
	}
	serial, n := binary.Uvarint(b[at:])
	at += max(n, 0)
	batch, n := binary.Uvarint(b[at:])
	at += max(n, 0)
	size, n := binary.Uvarint(b[at:])
	at += max(n, 0)
	if serial > mostSerial || batch > mostBatch || size > 1<<19 || size > uint64(len(b)-at) {
		return api.Root{}, false
	}
	r := api.Root{Serial: int(serial), Batch: int(batch), Blob: b[at : at+int(size)]}
	return r, right(r) && bytes.Equal(written(r), b)
}

// rootByWords is the root of a disk with power.
func rootByWords(d *disk.Disk) (api.Root, bool) {
	zero, _ := d.Read("root0")
	one, _ := d.Read("root1")
	r0, ok0 := parsed(zero)
	r1, ok1 := parsed(one)
	if ok0 && (!ok1 || r0.Serial >= r1.Serial) {
		return r0, true
	}
	if ok1 {
		return r1, true
	}
	return api.Root{}, false
}

// target is the file that a root of that Serial goes to.
func target(serial int) string {
	if serial%2 == 0 {
		return "root0"
	}
	return "root1"
}

// deed is one of Write's.
type deed func(d *disk.Disk) api.Errno

// deedsByWords are those of a Write of that root onto a disk.
func deedsByWords(d *disk.Disk, r api.Root) []deed {
	var deeds []deed
	if slices.Contains(d.List(), "root.new") {
		deeds = append(deeds, func(d *disk.Disk) api.Errno { return d.Remove("root.new") })
	}
	return append(deeds,
		func(d *disk.Disk) api.Errno { return d.Append("root.new", written(r)) },
		func(d *disk.Disk) api.Errno { return d.Sync("root.new") },
		func(d *disk.Disk) api.Errno { return d.Rename("root.new", target(r.Serial)) },
	)
}

// file is one of a disk.
type file struct {
	name  string
	bytes []byte
}

// newDisk makes a disk.
func newDisk(t *testing.T, room int) *disk.Disk {
	t.Helper()
	d, e := disk.New(room)
	tells(t, "New", e, api.OK)
	return d
}

// diskOf makes a disk of files; of each so many bytes are safe, all of them at most.
func diskOf(t *testing.T, room, safe int, files ...file) *disk.Disk {
	t.Helper()
	d := newDisk(t, room)
	for _, f := range files {
		cut := min(safe, len(f.bytes))
		tells(t, "Append", d.Append(f.name, f.bytes[:cut]), api.OK)
		tells(t, "Sync", d.Sync(f.name), api.OK)
		tells(t, "Append", d.Append(f.name, f.bytes[cut:]), api.OK)
	}
	return d
}

// darken lets the power of a disk fail.
func darken(t *testing.T, d *disk.Disk) {
	t.Helper()
	d.Arm(0)
	tells(t, "Append", d.Append(append(d.List(), "x")[0], nil), api.ErrDown)
}

// tells fails the test unless an error is that one.
func tells(t *testing.T, what string, got, want api.Errno) {
	t.Helper()
	if got != want {
		t.Fatalf("%s: error %d, want %d", what, got, want)
	}
}

// shown is all that can be told of a disk with power, but for its fuse; of long files a sum.
func shown(d *disk.Disk) string {
	var b strings.Builder
	for _, name := range d.List() {
		all, e := d.Read(name)
		fmt.Fprintf(&b, "%s, %d of %d safe, error %d: %.100x, %d\n", name, d.Synced(name), len(all), e, all, crc32.ChecksumIEEE(all))
	}
	return b.String()
}

// marks tells what is safe of each file, of a dark disk too.
func marks(d *disk.Disk) string {
	var b strings.Builder
	for _, name := range d.List() {
		fmt.Fprintf(&b, "%s, %d of %d safe\n", name, d.Synced(name), d.Size(name))
	}
	return b.String()
}

// crash is a crash that keeps, and tears, so many bytes of each file.
func crash(d *disk.Disk, keep, tear int) {
	d.Crash(slices.Repeat([]int{keep}, api.MaxFiles), slices.Repeat([]int{tear}, api.MaxFiles))
}
