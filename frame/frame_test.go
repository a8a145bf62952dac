package frame_test

import (
	"bytes"
	"encoding/binary"
	"hash/crc32"
	"math"
	"math/rand"
	"slices"
	"testing"

	"millwheel/api"
	"millwheel/disk"
	"millwheel/frame"
)

// framed is a body's frame as the chapter's words say it, by the library's means.
func framed(body []byte) []byte {
	b := binary.AppendUvarint(nil, uint64(len(body)))
	b = append(b, body...)
	b = binary.BigEndian.AppendUint32(b, crc32.ChecksumIEEE(body))
	return append(b, 165)
}

// gotByWords is what P3.2's words say of a place, word by word.
func gotByWords(b []byte, at int) ([]byte, int, api.Errno) {
	if at < 0 || at > len(b) {
		return nil, 0, api.ErrArg
	}
	end := slices.IndexFunc(b[at:], func(one byte) bool { return one < 128 })
	if end < 0 && len(b)-at < 10 {
		return nil, 0, api.ErrShort
	}
	if end < 0 || end > 9 || end > 0 && b[at+end] == 0 || end == 9 && b[at+end] > 1 {
		return nil, 0, api.ErrBytes
	}
	n, _ := binary.Uvarint(b[at:])
	if n == 0 || n > 1<<20 {
		return nil, 0, api.ErrBytes
	}
	rest := b[at+end+1:]
	if uint64(len(rest)) < n+5 {
		return nil, 0, api.ErrShort
	}
	if rest[n+4] != 165 {
		return nil, 0, api.ErrBytes
	}
	if binary.BigEndian.Uint32(rest[n:]) != crc32.ChecksumIEEE(rest[:n]) {
		return nil, 0, api.ErrSum
	}
	return rest[:n], at + end + 1 + int(n) + 5, api.OK
}

// bytesOf is so many bytes, all of them chance.
func bytesOf(source *rand.Rand, n int) []byte {
	b := make([]byte, n)
	source.Read(b)
	return b
}

// bodies are short and long ones, on both sides of where the length takes one byte more, with noughts at their ends and the end's byte within.
func bodies() [][]byte {
	source := rand.New(rand.NewSource(3))
	all := [][]byte{{0}, {165}, {0, 0, 0, 0, 0, 0}, {1, 0}, []byte("ab\x00\x00\x00"), {165, 165, 165}, []byte("a"), framed([]byte("within"))}
	for _, n := range []int{2, 126, 127, 128, 129, 256, 511, 512, 513, 1000, 1<<14 - 1, 1 << 14, 1<<14 + 1} {
		all = append(all, bytesOf(source, n), make([]byte, n))
	}
	return append(all, noughtEnded()...)
}

// noughtEnded are bodies whose sums end with one nought, and with two.
func noughtEnded() [][]byte {
	var all [][]byte
	for i, want := uint32(0), uint32(1<<8); want <= 1<<16; i++ {
		body := binary.BigEndian.AppendUint32(nil, i)
		if crc32.ChecksumIEEE(body)%want == 0 {
			all = append(all, body)
			want <<= 8
		}
	}
	return all
}

// put answers out and the body's frame behind it, which has to go.
func put(t *testing.T, out, body []byte) []byte {
	t.Helper()
	b, e := frame.Put(out, body)
	if e != api.OK {
		t.Fatalf("Put of %d bytes: error %d", len(body), e)
	}
	return b
}

// gets fails the test unless Get at a place tells just this.
func gets(t *testing.T, what string, b []byte, at int, body []byte, next int, want api.Errno) {
	t.Helper()
	got, behind, e := frame.Get(b, at)
	if !bytes.Equal(got, body) || behind != next || e != want {
		t.Errorf("%s: Get at %d of %d bytes: %d bytes, %d, error %d; want %d bytes, %d, error %d", what, at, len(b), len(got), behind, e, len(body), next, want)
	}
	if e != api.OK && got != nil {
		t.Errorf("%s: a list beside error %d", what, e)
	}
}

// refuses fails the test unless Get at a place tells nothing but an error.
func refuses(t *testing.T, what string, b []byte, at int, want api.Errno) {
	t.Helper()
	gets(t, what, b, at, nil, 0, want)
}

func TestPutIsTheFrame(t *testing.T) {
	for _, body := range bodies() {
		for _, out := range [][]byte{nil, {}, {7}, {0, 0}, []byte("ahead of it")} {
			got, want := put(t, out, body), append(slices.Clone(out), framed(body)...)
			if !bytes.Equal(got, want) {
				t.Errorf("Put of %d bytes behind %d: %d bytes, want %d", len(body), len(out), len(got), len(want))
			}
		}
	}
}

func TestPutRefuses(t *testing.T) {
	for _, out := range [][]byte{nil, {}, {1, 2}} {
		for _, none := range [][]byte{nil, {}, make([]byte, 0, 9)} {
			if b, e := frame.Put(out, none); b != nil || e != api.ErrArg {
				t.Errorf("Put of none: %v, error %d", b, e)
			}
		}
		for _, n := range []int{api.MaxFrame + 1, api.MaxFrame + 2, 2 * api.MaxFrame} {
			if b, e := frame.Put(out, make([]byte, n)); b != nil || e != api.ErrLong {
				t.Errorf("Put of %d bytes: %d bytes, error %d", n, len(b), e)
			}
		}
	}
}

func TestGreatestBody(t *testing.T) {
	source := rand.New(rand.NewSource(4))
	for _, n := range []int{api.MaxFrame - 1, api.MaxFrame} {
		body := bytesOf(source, n)
		b := put(t, []byte{9}, body)
		if !bytes.Equal(b, append([]byte{9}, framed(body)...)) {
			t.Errorf("Put of %d bytes is not their frame", n)
		}
		gets(t, "greatest", b, 1, body, len(b), api.OK)
		refuses(t, "greatest, without its last byte", b[:len(b)-1], 1, api.ErrShort)
	}
}

func TestPutLeavesWhatItIsHanded(t *testing.T) {
	for _, spare := range []int{0, 1, 7, 8, 100} {
		room := bytes.Repeat([]byte{0xEE}, 3+spare)
		out := room[:3]
		body := []byte("abc~~~~~~")
		b := put(t, out, body[:3])
		if !bytes.Equal(room, bytes.Repeat([]byte{0xEE}, 3+spare)) || string(body) != "abc~~~~~~" {
			t.Fatalf("Put has changed what it was handed: %v, %q", room, body)
		}
		want := slices.Clone(b)
		clear(room)
		clear(body)
		if !bytes.Equal(b, want) {
			t.Errorf("what Put answered has changed with what it was handed")
		}
	}
}

func TestPutTwiceBehindOneBeginning(t *testing.T) {
	out := append(make([]byte, 0, 100), 'o', 'u', 't')
	first, second := put(t, out, []byte("first")), put(t, out, []byte("second"))
	if !bytes.Equal(first, append([]byte("out"), framed([]byte("first"))...)) || !bytes.Equal(second, append([]byte("out"), framed([]byte("second"))...)) {
		t.Errorf("%v and %v share memory", first, second)
	}
}

func TestGetTellsTheBodyAndThePlace(t *testing.T) {
	for _, body := range bodies() {
		for _, ahead := range []int{0, 1, 5, 300} {
			for _, behind := range [][]byte{nil, {0}, {1}, {165}, bytes.Repeat([]byte{255}, 20)} {
				b := slices.Concat(bytes.Repeat([]byte{129}, ahead), framed(body), behind)
				gets(t, "whole", b, ahead, body, len(b)-len(behind), api.OK)
			}
		}
	}
}

func TestGetAtPlacesThatAreNone(t *testing.T) {
	for _, b := range [][]byte{nil, {}, {0}, {1}, framed([]byte("a")), slices.Concat(framed([]byte("a")), framed([]byte("b")))} {
		for _, at := range []int{-1, -7, math.MinInt, math.MinInt + 1, len(b) + 1, len(b) + 7, math.MaxInt - 5, math.MaxInt} {
			refuses(t, "no place", b, at, api.ErrArg)
		}
		refuses(t, "at the end", b, len(b), api.ErrShort)
	}
	// A place past the end is none, though the memory behind it has a frame.
	room := framed([]byte("a"))
	refuses(t, "in the spare room", room[:0], 1, api.ErrArg)
	refuses(t, "ahead of the spare room", room[:0], 0, api.ErrShort)
	refuses(t, "half in the spare room", room[:3], 0, api.ErrShort)
}

// wrongLengths are lengths that no frame has, whatever stands behind them.
func wrongLengths() map[string][]byte {
	long := func(n uint64) []byte { return binary.AppendUvarint(nil, n) }
	return map[string][]byte{
		"nought":                   {0},
		"one too many":             long(api.MaxFrame + 1),
		"twice too many":           long(2 * api.MaxFrame),
		"2^31":                     long(1 << 31),
		"2^32 and 1":               long(1<<32 + 1),
		"2^63 - 1":                 long(math.MaxInt64),
		"2^63":                     long(1 << 63),
		"2^64 - 4":                 long(math.MaxUint64 - 3),
		"2^64 - 1":                 long(math.MaxUint64),
		"nought, longer":           {128, 0},
		"1, longer":                {129, 0},
		"1, longer still":          {129, 128, 0},
		"127, longer":              {255, 0},
		"128, longer":              {128, 129, 0},
		"ten bytes, and too great": {255, 255, 255, 255, 255, 255, 255, 255, 255, 2},
		"eleven bytes":             {129, 128, 128, 128, 128, 128, 128, 128, 128, 128, 1},
	}
}

func TestGetOfLengthsThatMayNotBe(t *testing.T) {
	for what, length := range wrongLengths() {
		for _, behind := range [][]byte{nil, {165}, []byte("a\xe8\xb7\xbe\x43\xa5"), make([]byte, 200), bytes.Repeat([]byte{165}, api.MaxFrame+20)} {
			b := slices.Concat([]byte("ahead"), length, behind)
			refuses(t, what, b, 5, api.ErrBytes)
		}
	}
}

func TestGetOfALengthThatIsCut(t *testing.T) {
	for n := 1; n <= 9; n++ {
		b := bytes.Repeat([]byte{255}, n)
		refuses(t, "cut", b, 0, api.ErrShort)
		refuses(t, "cut", append([]byte{1}, b...), 1, api.ErrShort)
	}
	refuses(t, "ten bytes, and none the last", bytes.Repeat([]byte{255}, 10), 0, api.ErrBytes)
}

// An error of the length counts ahead of wanting bytes, those ahead of the last byte's, and that ahead of the sum's.
func TestOrderOfErrors(t *testing.T) {
	whole := framed([]byte("body"))
	last, sum := len(whole)-1, len(whole)-3
	refuses(t, "place ahead of length", []byte{0}, 2, api.ErrArg)
	refuses(t, "length ahead of wanting", []byte{0}, 0, api.ErrBytes)
	refuses(t, "too long ahead of wanting", binary.AppendUvarint(nil, api.MaxFrame+1), 0, api.ErrBytes)
	refuses(t, "longest that may be", binary.AppendUvarint(nil, api.MaxFrame), 0, api.ErrShort)

	b := slices.Clone(whole)
	b[sum] ^= 1
	refuses(t, "sum alone", b, 0, api.ErrSum)
	refuses(t, "wanting ahead of sum", b[:last], 0, api.ErrShort)
	b[last] = 0
	refuses(t, "last byte ahead of sum", b, 0, api.ErrBytes)
	refuses(t, "wanting ahead of last byte", b[:last], 0, api.ErrShort)
}

func TestGetOfAnotherLastByte(t *testing.T) {
	for _, body := range bodies() {
		b := framed(body)
		for other := range 256 {
			if b[len(b)-1] = byte(other); other != 165 {
				refuses(t, "last byte", b, 0, api.ErrBytes)
				refuses(t, "last byte, and more", append(slices.Clone(b), 165), 0, api.ErrBytes)
			}
		}
	}
}

func TestGetOfAnotherByteWithin(t *testing.T) {
	source := rand.New(rand.NewSource(5))
	for _, body := range bodies() {
		b := framed(body)
		from := len(b) - 5 - len(body)
		for range 40 {
			place := from + source.Intn(len(b)-1-from)
			was := b[place]
			b[place] ^= byte(1 + source.Intn(255))
			refuses(t, "another byte", b, 0, api.ErrSum)
			b[place] = was
		}
	}
}

func TestGetSeesEachBit(t *testing.T) {
	b := framed([]byte("any\x00body\x00"))
	for place := 1; place < len(b)-1; place++ {
		for bit := range 8 {
			b[place] ^= 1 << bit
			refuses(t, "another bit", b, 0, api.ErrSum)
			b[place] ^= 1 << bit
		}
	}
	gets(t, "put right", b, 0, []byte("any\x00body\x00"), len(b), api.OK)
}

func TestGetTakesTheSumHighestFirst(t *testing.T) {
	b := framed([]byte("a"))
	slices.Reverse(b[2:6])
	refuses(t, "sum the other way", b, 0, api.ErrSum)
}

func TestGetLeavesWhatItIsHanded(t *testing.T) {
	for _, body := range bodies() {
		b := slices.Concat(framed(body), framed([]byte("next")), []byte{0, 3})
		was := slices.Clone(b)
		for at := range min(len(b)+1, 50) {
			frame.Get(b[:len(b)-2], at)
		}
		if !bytes.Equal(b, was) {
			t.Fatal("Get has changed what it was handed")
		}
	}
}

func TestGetOwnMemory(t *testing.T) {
	body := []byte("some body")
	b := framed(body)
	first, _, _ := frame.Get(b, 0)
	second, _, _ := frame.Get(b, 0)
	clear(b)
	if !bytes.Equal(first, body) || !bytes.Equal(second, body) {
		t.Fatalf("%q and %q share memory with what they were got of", first, second)
	}
	clear(first)
	if !bytes.Equal(second, body) {
		t.Errorf("%q shares memory with another answer", second)
	}

	b = slices.Concat(framed(body), framed([]byte("next")))
	first, next, _ := frame.Get(b, 0)
	clear(append(first, "far more than there was room for"...))
	clear(first)
	gets(t, "the same again", b, 0, body, next, api.OK)
	gets(t, "the next one", b, next, []byte("next"), len(b), api.OK)
}

func TestGetByWords(t *testing.T) {
	agrees := func(b []byte, at int) {
		t.Helper()
		body, next, e := gotByWords(b, at)
		gets(t, "by words", b, at, body, next, e)
	}
	source := rand.New(rand.NewSource(6))
	for range 20000 {
		b := framed(bytesOf(source, 1+source.Intn(6)))
		for range source.Intn(3) {
			b[source.Intn(len(b))] = []byte{0, 1, 2, 127, 128, 129, 165, 255}[source.Intn(8)]
		}
		b = append(b, make([]byte, source.Intn(3))...)
		agrees(b[:source.Intn(len(b)+1)], 0)
		for at := -1; at <= len(b)+1; at++ {
			agrees(b, at)
		}
	}
}

// readAll gets frames one by one, up to the first error.
func readAll(b []byte) ([][]byte, int) {
	var all [][]byte
	at := 0
	for {
		body, next, e := frame.Get(b, at)
		if e != api.OK {
			return all, at
		}
		all, at = append(all, body), next
	}
}

// row puts frames one behind the other, and tells where each of them ends.
func row(t *testing.T, all [][]byte) ([]byte, []int) {
	t.Helper()
	var b []byte
	var ends []int
	for _, body := range all {
		b = put(t, b, body)
		ends = append(ends, len(b))
	}
	return b, ends
}

func TestFramesOneBehindTheOther(t *testing.T) {
	all := bodies()
	b, ends := row(t, all)
	at := 0
	for i, body := range all {
		gets(t, "one of a row", b, at, body, ends[i], api.OK)
		at = ends[i]
	}
	refuses(t, "behind all", b, at, api.ErrShort)
}

// wholeAhead fails the test unless just the frames that end ahead of a cut are got of what stands there.
func wholeAhead(t *testing.T, b []byte, cut int, all [][]byte, ends []int) {
	t.Helper()
	whole := 0
	for whole < len(ends) && ends[whole] <= cut {
		whole++
	}
	got, at := readAll(b)
	if !slices.EqualFunc(got, all[:whole], bytes.Equal) {
		t.Fatalf("cut at %d with %d noughts behind: %d frames, want %d", cut, len(b)-cut, len(got), whole)
	}
	if whole > 0 && at != ends[whole-1] {
		t.Fatalf("cut at %d: whole up to %d, want %d", cut, at, ends[whole-1])
	}
}

func TestRowCutAnywhere(t *testing.T) {
	source := rand.New(rand.NewSource(7))
	all := slices.Concat([][]byte{{0}, make([]byte, 5), []byte("ab\x00\x00"), bytesOf(source, 200), make([]byte, 300), framed([]byte{7}), make([]byte, 128), {165}}, noughtEnded())
	b, ends := row(t, all)
	for cut := range len(b) + 1 {
		for _, noughts := range []int{0, 1, 2, 3, 4, 5, 6, 7, 20, len(b) - cut, 600} {
			wholeAhead(t, append(slices.Clone(b[:cut]), make([]byte, noughts)...), cut, all, ends)
		}
	}
}

func TestFrameCutAtEachByte(t *testing.T) {
	for _, body := range [][]byte{{0}, []byte("a"), make([]byte, 130), bytes.Repeat([]byte{165}, 130)} {
		b := framed(body)
		for cut := range len(b) {
			refuses(t, "cut", b[:cut], 0, api.ErrShort)
			torn := append(slices.Clone(b[:cut]), make([]byte, len(b)-cut)...)
			refuses(t, "noughts behind the cut", torn, 0, api.ErrBytes)
		}
	}
}

// A long row, cut at places by chance: lengths of three bytes, many frames.
func TestLongRowCut(t *testing.T) {
	source := rand.New(rand.NewSource(8))
	var all [][]byte
	for range 12 {
		all = append(all, bytesOf(source, 1+source.Intn(1<<uint(1+source.Intn(16)))))
	}
	b, ends := row(t, all)
	for range 20 {
		cut := ends[source.Intn(len(ends))] - source.Intn(9)
		noughts := source.Intn(1 << 17)
		wholeAhead(t, append(slices.Clone(b[:cut]), make([]byte, noughts)...), cut, all, ends)
	}
}

// What a disk leaves of frames, whatever a crash keeps and tears, is frames that are whole.
func TestFramesOnADiskThatCrashes(t *testing.T) {
	source := rand.New(rand.NewSource(9))
	all := slices.Concat([][]byte{make([]byte, 300), bytesOf(source, 700), make([]byte, 9)}, noughtEnded())
	b, ends := row(t, all)
	for keep := range len(b) + 1 {
		for _, tear := range []int{0, 1, 5, 300} {
			d, _ := disk.New(1 << 14)
			d.Append("f", b)
			d.Crash([]int{keep}, []int{tear})
			left, e := d.Read("f")
			if e != api.OK {
				t.Fatalf("Read: error %d", e)
			}
			same := 0
			for same < len(left) && left[same] == b[same] {
				same++
			}
			wholeAhead(t, left, same, all, ends)
		}
	}
}

func TestExamples(t *testing.T) {
	b, e := frame.Put(nil, []byte("a"))
	if e != api.OK || !bytes.Equal(b, []byte{1, 97, 232, 183, 190, 67, 165}) {
		t.Fatalf("Put(none, a): %v, error %d", b, e)
	}
	gets(t, "a", b, 0, []byte("a"), 7, api.OK)
	refuses(t, "behind it", b, 7, api.ErrShort)
	b[6] = 0
	refuses(t, "last byte 0", b, 0, api.ErrBytes)
	b[6], b[1] = 165, 98
	refuses(t, "98 in the place of 97", b, 0, api.ErrSum)
	refuses(t, "of 0", []byte{0}, 0, api.ErrBytes)
}
