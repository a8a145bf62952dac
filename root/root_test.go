package root_test

import (
	"bytes"
	"fmt"
	"math"
	"math/rand"
	"slices"
	"strings"
	"testing"

	"millwheel/api"
	"millwheel/disk"
	"millwheel/root"
)

// P6.1: Bytes and Parse.

// rightRoots are roots of all kinds, and at the edges.
func rightRoots() []api.Root {
	serials := []int{1, 2, 127, 128, 300, 1<<32 - 1, 1 << 32, mostSerial - 1, mostSerial}
	batches := []int{0, 1, 127, 128, 1<<32 + 1, mostBatch - 1, mostBatch}
	blobs := []string{"", "\x00", "ab", "\xa5", "\x00\x00\x00\xa5", strings.Repeat("x", 127), strings.Repeat("\x00", 128)}
	var all []api.Root
	for _, serial := range serials {
		for _, batch := range batches {
			for _, blob := range blobs {
				all = append(all, rootOf(serial, batch, blob))
			}
		}
	}
	long := bytes.Repeat([]byte("millwheel\x00"), 1<<19)[:1<<19]
	return append(all,
		api.Root{Serial: 7},
		api.Root{Serial: 1, Batch: 0, Blob: long},
		api.Root{Serial: mostSerial, Batch: mostBatch, Blob: long},
		api.Root{Serial: 3, Batch: 4, Blob: long[1:]},
	)
}

// wrongRoots are roots that are not right, whatever their Serial.
func wrongRoots() []api.Root {
	long := make([]byte, 1<<19+1)
	return []api.Root{
		{Serial: 1, Batch: -1}, {Serial: 1, Batch: math.MinInt}, {Serial: 1, Batch: mostBatch + 1}, {Serial: 1, Batch: math.MaxInt},
		{Serial: 1, Blob: long}, {Serial: mostSerial, Batch: mostBatch, Blob: long}, {Serial: 1, Batch: -1, Blob: long}, {Serial: 1, Blob: make([]byte, 1<<20)}, {Serial: 1, Blob: make([]byte, 1<<20+1)},
	}
}

func TestBytesAndParse(t *testing.T) {
	for _, r := range rightRoots() {
		b, e := root.Bytes(r)
		if e != api.OK || !bytes.Equal(b, written(r)) {
			t.Fatalf("Bytes(%s) = %.100x, error %d; want %.100x", brief(r), b, e, written(r))
		}
		if got, e := root.Parse(b); e != api.OK || !same(got, r) {
			t.Fatalf("Parse(%.100x) = %s, error %d; want %s", b, brief(got), e, brief(r))
		}
	}
}

func TestBytesOfNoBlob(t *testing.T) {
	none, _ := root.Bytes(api.Root{Serial: 1, Batch: 2})
	empty, _ := root.Bytes(api.Root{Serial: 1, Batch: 2, Blob: []byte{}})
	if want := framed([]byte{1, 2, 0}); !bytes.Equal(none, want) || !bytes.Equal(empty, want) {
		t.Errorf("Bytes: %v, %v; want %v", none, empty, want)
	}
}

func TestBytesRefuses(t *testing.T) {
	all := wrongRoots()
	for _, serial := range []int{0, -1, math.MinInt, -mostSerial, mostSerial + 1, math.MaxInt} {
		all = append(all, rootOf(serial, 0, "ab"), rootOf(serial, mostBatch, ""), rootOf(serial, -1, "ab"))
	}
	for _, r := range all {
		if b, e := root.Bytes(r); b != nil || e != api.ErrArg {
			t.Errorf("Bytes(%s): %.100x, error %d; want error %d", brief(r), b, e, api.ErrArg)
		}
	}
}

// refusesToParse fails the test unless Parse tells ErrBytes, and nothing else.
func refusesToParse(t *testing.T, what string, b []byte) {
	t.Helper()
	if r, e := root.Parse(b); !isNone(r) || e != api.ErrBytes {
		t.Errorf("%s: Parse(%.100x): %s, error %d; want error %d", what, b, brief(r), e, api.ErrBytes)
	}
}

func TestParseRefusesOneByteOff(t *testing.T) {
	for _, r := range []api.Root{rootOf(1, 7, "ab"), rootOf(300, 0, ""), rootOf(mostSerial, mostBatch, strings.Repeat("\x00", 70))} {
		b := written(r)
		for n := range len(b) {
			refusesToParse(t, "cut off", b[:n])
			refusesToParse(t, "torn", slices.Concat(b[:n], make([]byte, len(b)-n)))
			refusesToParse(t, "begun late", b[n+1:])
			refusesToParse(t, "a byte less", slices.Concat(b[:n], b[n+1:]))
			for other := range 256 {
				changed := bytes.Clone(b)
				if changed[n] = byte(other); other != int(b[n]) {
					refusesToParse(t, "a byte changed", changed)
				}
			}
		}
		for other := range 256 {
			refusesToParse(t, "a byte behind", append(bytes.Clone(b), byte(other)))
			refusesToParse(t, "a byte ahead", append([]byte{byte(other)}, b...))
		}
		refusesToParse(t, "twice", slices.Concat(b, b))
		refusesToParse(t, "noughts behind", slices.Concat(b, make([]byte, 64)))
		refusesToParse(t, "without its frame", body(uint64(r.Serial), uint64(r.Batch), r.Blob))
		refusesToParse(t, "framed twice", framed(b))
	}
}

func TestParseRefusesBodies(t *testing.T) {
	ten := bytes.Repeat([]byte{255}, 9)
	bodies := map[string][]byte{
		"one nought":                   {0},
		"a Serial alone":               {1},
		"two numbers alone":            {1, 7},
		"noughts":                      make([]byte, 64),
		"a text":                       []byte("root"),
		"a byte behind":                {1, 7, 2, 97, 98, 99},
		"a nought behind":              {1, 7, 2, 97, 98, 0},
		"a byte behind no blob":        {1, 7, 0, 0},
		"a byte wanting":               {1, 7, 2, 97},
		"all bytes wanting":            {1, 7, 2},
		"a Serial cut off":             {129},
		"a Batch cut off":              {1, 135},
		"a length cut off":             {1, 7, 130},
		"a Serial with a seven more":   {129, 0, 7, 2, 97, 98},
		"a Batch with a seven more":    {1, 135, 0, 2, 97, 98},
		"a length with a seven more":   {1, 7, 130, 0, 97, 98},
		"a Batch of 0 with a seven":    {1, 128, 0, 0},
		"a Serial of eleven bytes":     slices.Concat(ten, []byte{255, 1, 7, 0}),
		"a Serial of more than 2^64":   slices.Concat(ten, []byte{2, 7, 0}),
		"a Batch of more than 2^64":    slices.Concat([]byte{1}, ten, []byte{2, 0}),
		"a Serial of 0":                body(0, 7, []byte("ab")),
		"a Serial of 0, all noughts":   body(0, 0, nil),
		"a Serial of 2^40+1":           body(mostSerial+1, 7, nil),
		"a Serial of 2^63":             body(1<<63, 7, nil),
		"a Serial of 2^63+1":           body(1<<63+1, 7, nil),
		"a Serial of 2^64-1":           body(1<<64-1, 7, nil),
		"a Batch of 2^59+1":            body(1, mostBatch+1, nil),
		"a Batch of 2^63":              body(1, 1<<63, nil),
		"a Batch of 2^64-1":            body(1, 1<<64-1, nil),
		"a blob of 2^19+1 bytes":       body(1, 7, make([]byte, 1<<19+1)),
		"a blob of 2^19+1, cut off":    body(1, 7, make([]byte, 1<<19+1))[:1<<19],
		"a blob as long as a frame is": body(1, 7, make([]byte, 1<<20-5)),
		"a length of 2^63":             slices.Concat([]byte{1, 7}, body(1<<63, 0, nil)),
		"a length of 2^64-1":           slices.Concat([]byte{1, 7}, body(1<<64-1, 0, nil)),
	}
	for what, one := range bodies {
		refusesToParse(t, what, framed(one))
	}
}

func TestParseRefusesFrames(t *testing.T) {
	good := body(1, 7, []byte("ab"))
	b := framed(good)
	refusesToParse(t, "none", nil)
	refusesToParse(t, "empty", []byte{})
	refusesToParse(t, "a frame of nothing", []byte{0, 0, 0, 0, 0, 165})
	refusesToParse(t, "a length with a seven more", slices.Concat([]byte{133, 0}, b[1:]))
	refusesToParse(t, "without an end", b[:len(b)-1])
	refusesToParse(t, "without a sum", slices.Concat(b[:6], []byte{165}))
	refusesToParse(t, "a long frame", framed(make([]byte, 1<<20)))
	refusesToParse(t, "a frame that is too long", framed(make([]byte, 1<<20+1)))
}

// Bytes that nobody wrote, held against the chapter's words.
func TestParseByWords(t *testing.T) {
	source := rand.New(rand.NewSource(61))
	hits := 0
	for range 60000 {
		numbers := []uint64{0, 1, 2, 5, 127, 128, mostSerial, mostSerial + 1, mostBatch, mostBatch + 1, 1 << 63, 1<<64 - 1}
		b := body(numbers[source.Intn(len(numbers))], numbers[source.Intn(len(numbers))], make([]byte, source.Intn(4)))
		if source.Intn(3) == 0 {
			b[source.Intn(len(b))] = byte(source.Intn(256))
		}
		if source.Intn(3) == 0 {
			b = append(b, byte(source.Intn(3)))
		}
		b = framed(b)
		if source.Intn(5) == 0 {
			b[source.Intn(len(b))] ^= 1 << source.Intn(8)
		}
		want, ok := parsed(b)
		got, e := root.Parse(b)
		if ok && (e != api.OK || !same(got, want)) || !ok && (e != api.ErrBytes || !isNone(got)) {
			t.Fatalf("Parse(%x) = %s, error %d; want %s, %v", b, brief(got), e, brief(want), ok)
		}
		if ok {
			hits++
		}
	}
	if hits < 1000 {
		t.Errorf("only %d of them were roots", hits)
	}
}

func TestBytesAndParseKeepNothing(t *testing.T) {
	room := []byte("abcdef")
	r := api.Root{Serial: 1, Batch: 7, Blob: room[:2]}
	b, _ := root.Bytes(r)
	if string(room) != "abcdef" {
		t.Errorf("Bytes has changed what was handed in: %s", room)
	}
	clear(room)
	if !bytes.Equal(b, written(rootOf(1, 7, "ab"))) {
		t.Errorf("Bytes shares memory: %v", b)
	}
	before := bytes.Clone(b)
	one, _ := root.Parse(b)
	two, _ := root.Parse(b)
	clear(one.Blob[:cap(one.Blob)])
	if !bytes.Equal(b, before) || string(two.Blob) != "ab" {
		t.Errorf("Parse shares memory: %v, %v", b, two)
	}
	clear(b)
	if string(two.Blob) != "ab" {
		t.Errorf("Parse shares memory with what was handed in: %v", two)
	}
}

// P6.2: Read.

// row is a disk, and its root.
type row struct {
	what  string
	files []file
	want  api.Root // of Serial 0: none
}

// rows are disks of all kinds that the chapter names.
func rows() []row {
	return slices.Concat(plainRows(), spoiltRows(), oddRows())
}

// plainRows are disks with roots that Write may have written, and with none.
func plainRows() []row {
	first, second, third := rootOf(1, 7, "ab"), rootOf(2, 9, ""), rootOf(3, 0, "third")
	long := api.Root{Serial: 4, Batch: mostBatch, Blob: bytes.Repeat([]byte("long"), 1<<17)}
	others := []file{{"a", written(third)}, {"root", written(third)}, {"root2", written(third)}, {"root00", written(third)}, {"root01", written(third)}, {"root-0", written(third)}, {"root0.old", written(third)}, {"root.0", written(third)}, {"0", written(third)}, {"oot0", written(third)}, {"w1", written(third)}}
	return []row{
		{"no files", nil, api.Root{}},
		{"root1 alone", []file{{"root1", written(first)}}, first},
		{"root0 alone", []file{{"root0", written(second)}}, second},
		{"both, root0 the newer", []file{{"root1", written(first)}, {"root0", written(second)}}, second},
		{"both, root1 the newer", []file{{"root1", written(third)}, {"root0", written(second)}}, third},
		{"a long one", []file{{"root1", written(third)}, {"root0", written(long)}}, long},
		{"other files", others, api.Root{}},
		{"other files beside a root", append(others, file{"root1", written(first)}), first},
		{"root.new alone", []file{{"root.new", written(third)}}, api.Root{}},
		{"root.new beside roots", []file{{"root.new", written(third)}, {"root1", written(first)}, {"root0", written(second)}}, second},
		{"root.new without bytes", []file{{"root.new", nil}, {"root1", written(first)}}, first},
		{"root.new torn", []file{{"root.new", append(written(second)[:5], 0, 0)}, {"root1", written(first)}}, first},
		{"the last Serial but one", []file{{"root1", written(rootOf(mostSerial-1, 7, "z"))}}, rootOf(mostSerial-1, 7, "z")},
		{"the last Serial", []file{{"root0", written(rootOf(mostSerial, 7, "z"))}, {"root1", written(rootOf(mostSerial-1, 7, "y"))}}, rootOf(mostSerial, 7, "z")},
	}
}

// spoiltRows are disks one of whose roots is none.
func spoiltRows() []row {
	first, second := rootOf(1, 7, "ab"), rootOf(2, 9, "cd")
	b := written(second)
	changed, ended := bytes.Clone(b), bytes.Clone(b)
	changed[2]++
	ended[len(ended)-1] = 0
	spoilt := map[string][]byte{
		"no bytes": nil, "a nought": {0}, "noughts": make([]byte, 64), "noughts behind": slices.Concat(b, make([]byte, 9)), "a nought behind": append(bytes.Clone(b), 0),
		"a byte behind": append(bytes.Clone(b), 165), "twice": slices.Concat(b, b), "a byte changed": changed, "another end": ended, "a byte ahead": append([]byte{0}, b...),
		"a body with a byte behind": framed(append(body(2, 9, []byte("cd")), 0)), "no root": framed([]byte("text")), "a Serial of 0": framed(body(0, 9, nil)), "a Serial of 2^40+1": framed(body(mostSerial+1, 9, nil)),
		"a Serial of 2^64-1": framed(body(1<<64-1, 9, nil)), "a Batch of 2^59+1": framed(body(2, mostBatch+1, nil)), "a Batch of 2^63": framed(body(2, 1<<63, nil)), "a blob of 2^19+1 bytes": framed(body(2, 9, make([]byte, 1<<19+1))),
	}
	for n := 1; n < len(b); n++ {
		spoilt[fmt.Sprint("cut at ", n)] = b[:n]
		spoilt[fmt.Sprint("torn at ", n)] = slices.Concat(b[:n], make([]byte, len(b)-n))
	}
	var all []row
	for what, bad := range spoilt {
		all = append(all,
			row{what + ", root0", []file{{"root0", bad}, {"root1", written(first)}}, first},
			row{what + ", root1", []file{{"root1", bad}, {"root0", written(second)}}, second},
			row{what + ", alone", []file{{"root0", bad}}, api.Root{}},
			row{what + ", both", []file{{"root1", bad}, {"root0", bad}}, api.Root{}},
		)
	}
	slices.SortFunc(all, func(a, b row) int { return strings.Compare(a.what, b.what) })
	return all
}

// oddRows are disks whose roots stand where Write would not put them.
func oddRows() []row {
	return []row{
		{"the same Serial twice", []file{{"root0", written(rootOf(5, 1, "zero"))}, {"root1", written(rootOf(5, 2, "one"))}}, rootOf(5, 1, "zero")},
		{"the same Serial twice, even", []file{{"root0", written(rootOf(6, 9, "zero"))}, {"root1", written(rootOf(6, 2, "one"))}}, rootOf(6, 9, "zero")},
		{"the same root twice", []file{{"root0", written(rootOf(6, 9, "x"))}, {"root1", written(rootOf(6, 9, "x"))}}, rootOf(6, 9, "x")},
		{"an odd Serial in root0", []file{{"root0", written(rootOf(5, 1, "zero"))}}, rootOf(5, 1, "zero")},
		{"an even Serial in root1", []file{{"root1", written(rootOf(6, 1, "one"))}}, rootOf(6, 1, "one")},
		{"both in the other's place", []file{{"root0", written(rootOf(7, 1, "zero"))}, {"root1", written(rootOf(8, 1, "one"))}}, rootOf(8, 1, "one")},
		{"both of odd Serials", []file{{"root0", written(rootOf(9, 1, "zero"))}, {"root1", written(rootOf(7, 1, "one"))}}, rootOf(9, 1, "zero")},
		{"the greater Serial, the smaller Batch", []file{{"root0", written(rootOf(2, mostBatch, "zz"))}, {"root1", written(rootOf(3, 0, ""))}}, rootOf(3, 0, "")},
		{"Serials by number, not by bytes", []file{{"root0", written(rootOf(256, 1, ""))}, {"root1", written(rootOf(255, 1, ""))}}, rootOf(256, 1, "")},
		{"far Serials", []file{{"root0", written(rootOf(1<<32+2, 1, ""))}, {"root1", written(rootOf(5, 1, ""))}}, rootOf(1<<32+2, 1, "")},
	}
}

// reads fails the test unless Read tells that root, none if its Serial is 0, and changes nothing.
func reads(t *testing.T, what string, d *disk.Disk, want api.Root) {
	t.Helper()
	before := shown(d)
	got, ok, e := root.Read(d)
	if e != api.OK || ok != (want.Serial > 0) || !same(got, want) || !ok && !isNone(got) {
		t.Fatalf("%s: Read: %s, %v, error %d; want %s", what, brief(got), ok, e, brief(want))
	}
	if shown(d) != before {
		t.Fatalf("%s: Read has changed the disk", what)
	}
}

// The words of the tests say of the rows what the rows say.
func TestByWords(t *testing.T) {
	for _, r := range rows() {
		if got, ok := rootByWords(diskOf(t, api.MaxDisk, 0, r.files...)); ok != (r.want.Serial > 0) || !same(got, r.want) {
			t.Errorf("%s: by words: %s, %v", r.what, brief(got), ok)
		}
	}
}

func TestRead(t *testing.T) {
	for _, r := range rows() {
		for _, safe := range []int{0, 5, api.MaxDisk} {
			reads(t, r.what, diskOf(t, api.MaxDisk, safe, r.files...), r.want)
		}
	}
}

func TestReadBurnsNoFuse(t *testing.T) {
	for _, r := range rows() {
		d := diskOf(t, api.MaxDisk, 0, r.files...)
		d.Arm(0)
		reads(t, r.what, d, r.want)
		tells(t, "the next deed", d.Append(append(d.List(), "x")[0], nil), api.ErrDown)
	}
}

// readsNot fails the test unless Read tells that error alone.
func readsNot(t *testing.T, what string, d *disk.Disk, want api.Errno) {
	t.Helper()
	if r, ok, e := root.Read(d); !isNone(r) || ok || e != want {
		t.Errorf("%s: Read: %s, %v, error %d; want error %d", what, brief(r), ok, e, want)
	}
}

// writesNot fails the test unless Write tells that error alone.
func writesNot(t *testing.T, what string, d *disk.Disk, r api.Root, want api.Errno) {
	t.Helper()
	if got, e := root.Write(d, r); !isNone(got) || e != want {
		t.Errorf("%s: Write(%s): %s, error %d; want error %d", what, brief(r), brief(got), e, want)
	}
}

func TestNoDisk(t *testing.T) {
	for what, d := range map[string]*disk.Disk{"nil": nil, "one that New did not make": {}} {
		readsNot(t, what, d, api.ErrNil)
		for _, r := range append(wrongRoots(), rootOf(1, 7, "ab"), api.Root{}) {
			writesNot(t, what, d, r, api.ErrNil)
		}
	}
}

func TestDarkDisk(t *testing.T) {
	for _, r := range append(plainRows(), oddRows()...) {
		d := diskOf(t, api.MaxDisk, api.MaxDisk, r.files...)
		before := shown(d)
		darken(t, d)
		readsNot(t, r.what, d, api.ErrDown)
		for _, one := range append(wrongRoots(), rootOf(1, 7, "ab"), api.Root{}) {
			writesNot(t, r.what, d, one, api.ErrDown)
		}
		d.Crash(nil, nil)
		if shown(d) != before {
			t.Errorf("%s: a dark disk has changed", r.what)
		}
		reads(t, r.what, d, r.want)
	}
}

func TestReadAnswersAreNew(t *testing.T) {
	d := diskOf(t, 1000, 0, file{"root0", written(rootOf(2, 9, "cd"))}, file{"root1", written(rootOf(1, 7, "ab"))})
	one, _, _ := root.Read(d)
	two, _, _ := root.Read(d)
	clear(one.Blob[:cap(one.Blob)])
	if string(two.Blob) != "cd" {
		t.Errorf("two answers share memory: %v", two)
	}
	reads(t, "behind a change of an answer", d, rootOf(2, 9, "cd"))
}

// P6.3: Write.

// nextByWords is a root with the Serial that it gets on a disk.
func nextByWords(d *disk.Disk, r api.Root) api.Root {
	old, _ := rootByWords(d)
	r.Serial = old.Serial + 1
	return r
}

// writes fails the test unless Write answers that root with the next Serial, and the disk has it, whole and safe, in its file; that root is answered.
func writes(t *testing.T, what string, d *disk.Disk, r api.Root) api.Root {
	t.Helper()
	want := nextByWords(d, r)
	got, e := root.Write(d, r)
	if e != api.OK || !same(got, want) {
		t.Fatalf("%s: Write(%s): %s, error %d; want %s", what, brief(r), brief(got), e, brief(want))
	}
	name := target(want.Serial)
	if b, e := d.Read(name); e != api.OK || !bytes.Equal(b, written(want)) || d.Synced(name) != len(b) {
		t.Fatalf("%s: Write(%s): %s is %.100x, %d safe, error %d", what, brief(r), name, b, d.Synced(name), e)
	}
	if slices.Contains(d.List(), "root.new") {
		t.Fatalf("%s: Write(%s) leaves root.new", what, brief(r))
	}
	reads(t, what, d, want)
	return want
}

func TestWriteInTurn(t *testing.T) {
	d := newDisk(t, 1000)
	for n := 1; n <= 300; n++ {
		other, _ := d.Read(target(n + 1))
		r := writes(t, "in turn", d, api.Root{Batch: 7 * n, Blob: []byte(fmt.Sprint("blob ", n))})
		if r.Serial != n {
			t.Fatalf("the Write %d got the Serial %d", n, r.Serial)
		}
		if b, _ := d.Read(target(n + 1)); !bytes.Equal(b, other) {
			t.Fatalf("the Write %d has touched %s", n, target(n+1))
		}
		if n > 1 && !slices.Equal(d.List(), []string{"root0", "root1"}) {
			t.Fatalf("the Write %d leaves %v", n, d.List())
		}
	}
}

func TestWriteTakesAnySerial(t *testing.T) {
	d := newDisk(t, 1000)
	for i, serial := range []int{0, 1, 2, -1, 99, mostSerial, mostSerial + 1, math.MinInt, math.MaxInt} {
		if r := writes(t, "any Serial", d, rootOf(serial, 3, "x")); r.Serial != i+1 {
			t.Errorf("the Write %d got the Serial %d", i+1, r.Serial)
		}
	}
}

func TestWriteTakesRightRoots(t *testing.T) {
	long := make([]byte, 1<<19)
	for _, r := range []api.Root{{}, {Batch: mostBatch}, {Blob: long}, {Batch: mostBatch, Blob: long}, {Batch: 1, Blob: []byte{}}} {
		d := newDisk(t, api.MaxDisk)
		writes(t, "the first", d, r)
		writes(t, "the second", d, r)
		writes(t, "the third", d, r)
	}
}

func TestWriteOntoAllKinds(t *testing.T) {
	for _, r := range rows() {
		if r.want.Serial == mostSerial {
			continue
		}
		d := diskOf(t, api.MaxDisk, 5, r.files...)
		first := writes(t, r.what, d, rootOf(0, 77, "new"))
		if first.Serial < mostSerial {
			writes(t, r.what, d, rootOf(0, 78, "newer"))
		}
		for _, f := range r.files {
			if slices.Contains([]string{"root0", "root1", "root.new"}, f.name) {
				continue
			}
			if b, e := d.Read(f.name); e != api.OK || !bytes.Equal(b, f.bytes) || d.Synced(f.name) != min(5, len(b)) {
				t.Errorf("%s: Write has changed %s", r.what, f.name)
			}
		}
	}
}

func TestWriteRefuses(t *testing.T) {
	for _, r := range plainRows() {
		d := diskOf(t, api.MaxDisk, 5, r.files...)
		before := shown(d)
		for _, wrong := range wrongRoots() {
			writesNot(t, r.what, d, wrong, api.ErrArg)
		}
		if shown(d) != before {
			t.Errorf("%s: a Write that was refused has changed the disk", r.what)
		}
	}
}

func TestWriteBehindTheLastSerial(t *testing.T) {
	d := diskOf(t, 1000, 0, file{"root0", written(rootOf(mostSerial-2, 1, "a"))}, file{"root.new", []byte("x")})
	writes(t, "the last but one", d, rootOf(0, 2, "b"))
	if r := writes(t, "the last", d, rootOf(0, 3, "c")); r.Serial != mostSerial {
		t.Fatalf("the last Serial is %d", r.Serial)
	}
	tells(t, "Append", d.Append("root.new", []byte("x")), api.OK)
	before := shown(d)
	for _, serial := range []int{0, 1, mostSerial, mostSerial + 1} {
		writesNot(t, "behind the last", d, rootOf(serial, 4, "d"), api.ErrArg)
	}
	if shown(d) != before {
		t.Errorf("a Write that was refused has changed the disk")
	}
	reads(t, "behind the last", d, rootOf(mostSerial, 3, "c"))
}

// ErrArg counts ahead of the disk's errors but Read's.
func TestErrArgAheadOfTheDisks(t *testing.T) {
	full := newDisk(t, 0)
	dying := diskOf(t, 1000, 0, file{"root.new", []byte("x")})
	dying.Arm(0)
	for _, wrong := range wrongRoots() {
		writesNot(t, "no room", full, wrong, api.ErrArg)
		writesNot(t, "a fuse of 0", dying, wrong, api.ErrArg)
	}
	if dying.Down() {
		t.Errorf("a Write that was refused has done a deed")
	}
	writesNot(t, "no room", full, rootOf(0, 1, "a"), api.ErrFull)
	writesNot(t, "a fuse of 0", dying, rootOf(0, 1, "a"), api.ErrDown)
}

func TestWriteNeedsRoom(t *testing.T) {
	first, second := rootOf(1, 1, "first"), rootOf(2, 2, "second")
	junk := []byte("left of a Write that was cut short")
	need := len(written(first)) + len(written(second))
	for _, files := range [][]file{{{"root1", written(first)}}, {{"root1", written(first)}, {"root.new", nil}}, {{"root1", written(first)}, {"root.new", junk[:need-len(written(first))-1]}}} {
		d := diskOf(t, need-1, 0, files...)
		before, _ := d.Read("root1")
		writesNot(t, "a byte too little", d, second, api.ErrFull)
		if b, _ := d.Read("root1"); !bytes.Equal(b, before) || !slices.Equal(d.List(), []string{"root1"}) {
			t.Errorf("a Write without room leaves %s", shown(d))
		}
		reads(t, "a byte too little", d, first)
		writes(t, "just enough", diskOf(t, need, 0, files...), second)
	}
	// The root that goes has its room till the new one is there.
	d := diskOf(t, need+len(written(first))-1, 0, file{"root1", written(first)}, file{"root0", written(second)})
	writesNot(t, "the third", d, first, api.ErrFull)
	reads(t, "the third", d, second)
	// What root.new had is room.
	writes(t, "as much as root.new had", diskOf(t, need, 0, file{"root1", written(first)}, file{"root.new", make([]byte, need-len(written(first)))}), second)
}

func TestWriteNeedsAFile(t *testing.T) {
	var others []file
	for n := range api.MaxFiles - 1 {
		others = append(others, file{fmt.Sprint("x", n), nil})
	}
	d := diskOf(t, 1000, 0, others...)
	writes(t, "the last file", d, rootOf(0, 1, "a"))
	before := shown(d)
	writesNot(t, "a file too many", d, rootOf(0, 2, "b"), api.ErrFull)
	if shown(d) != before {
		t.Errorf("a Write without a file has changed the disk")
	}
	writes(t, "root.new is a file", diskOf(t, 1000, 0, append(others, file{"root.new", []byte("x")})...), rootOf(0, 1, "a"))
}

func TestWriteKeepsNothing(t *testing.T) {
	room := []byte("abcdef")
	d := newDisk(t, 1000)
	got, e := root.Write(d, api.Root{Batch: 7, Blob: room[:2]})
	tells(t, "Write", e, api.OK)
	if string(room) != "abcdef" {
		t.Errorf("Write has changed what was handed in: %s", room)
	}
	clear(got.Blob[:cap(got.Blob)])
	if string(room) != "abcdef" {
		t.Errorf("Write's answer shares memory with what was handed in: %s", room)
	}
	clear(room)
	reads(t, "changed behind Write", d, rootOf(1, 7, "ab"))
}

// Examples of the chapter.
func TestExamples(t *testing.T) {
	if b, e := root.Bytes(rootOf(1, 7, "ab")); e != api.OK || !bytes.Equal(b, framed([]byte{1, 7, 2, 97, 98})) {
		t.Errorf("Bytes: %v, error %d", b, e)
	}
	d := newDisk(t, 1000)
	reads(t, "an empty disk", d, api.Root{})
	if r := writes(t, "Batch 7", d, rootOf(0, 7, "ab")); r.Serial != 1 || !slices.Equal(d.List(), []string{"root1"}) {
		t.Errorf("Write: %v, %v", r, d.List())
	}
	if r := writes(t, "Batch 9", d, api.Root{Batch: 9}); r.Serial != 2 || !slices.Equal(d.List(), []string{"root0", "root1"}) {
		t.Errorf("Write: %v, %v", r, d.List())
	}
	reads(t, "both", d, rootOf(2, 9, ""))
	tells(t, "Remove", d.Remove("root0"), api.OK)
	reads(t, "without root0", d, rootOf(1, 7, "ab"))
}
