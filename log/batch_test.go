package log_test

import (
	"bytes"
	"encoding/binary"
	"hash/crc32"
	"math"
	"math/rand"
	"regexp"
	"slices"
	"strconv"
	"strings"
	"testing"

	"millwheel/api"
	"millwheel/disk"
	"millwheel/log"
)

// most is the greatest number of a batch, and of a segment.
const most = 1 << 60

// noNumbers are numbers that neither a batch nor a segment has.
func noNumbers() []int {
	return []int{0, -1, -7, math.MinInt, most + 1, most + 7, 1 << 61, math.MaxInt}
}

// numbers are some that they may have, on both sides of where a digit, or a byte, more is needed.
func numbers() []int {
	all := []int{1, 2, 7, 9, 10, 11, 99, 100, 1000, 1 << 59, most - 1, most}
	for shift := 7; shift < 60; shift += 7 {
		all = append(all, 1<<shift-1, 1<<shift, 1<<shift+1)
	}
	return all
}

// framed is a body's frame, by the library's means.
func framed(body []byte) []byte {
	b := binary.AppendUvarint(nil, uint64(len(body)))
	b = append(b, body...)
	b = binary.BigEndian.AppendUint32(b, crc32.ChecksumIEEE(body))
	return append(b, 165)
}

// headed is the frame of a segment's head, by the library's means.
func headed(first int) []byte {
	return framed(binary.AppendUvarint([]byte{0}, uint64(first)))
}

// written is the bytes of records under any number and count, by the library's means.
func written(n, count uint64, recs ...[]byte) []byte {
	b := binary.AppendUvarint(nil, n)
	b = binary.AppendUvarint(b, count)
	for _, rec := range recs {
		b = binary.AppendUvarint(b, uint64(len(rec)))
		b = append(b, rec...)
	}
	return b
}

// writtenRight is a batch's bytes, by the library's means.
func writtenRight(b api.Batch) []byte {
	return written(uint64(b.N), uint64(len(b.Recs)), b.Recs...)
}

// texts makes records of texts.
func texts(all ...string) [][]byte {
	var recs [][]byte
	for _, one := range all {
		recs = append(recs, []byte(one))
	}
	return recs
}

// sameBatch tells whether two batches are the same, none and an empty list being so.
func sameBatch(a, b api.Batch) bool {
	return a.N == b.N && slices.EqualFunc(a.Recs, b.Recs, bytes.Equal)
}

// batches are right ones, of all numbers, of few records and of many, short and long.
func batches() []api.Batch {
	source := rand.New(rand.NewSource(41))
	rows := [][][]byte{{nil}, {{}}, texts("a", ""), texts("", "", ""), texts("\x00"), texts("\xff\xa5", "w1", "\x80\x80"), make([][]byte, 127), make([][]byte, 128), make([][]byte, api.MaxBatch)}
	for _, n := range []int{126, 127, 128, 129, 1<<14 - 1, 1 << 14} {
		long := make([]byte, n)
		source.Read(long)
		rows = append(rows, [][]byte{long, nil, long})
	}
	var all []api.Batch
	for _, n := range numbers() {
		for _, recs := range rows {
			all = append(all, api.Batch{N: n, Recs: recs})
		}
	}
	return all
}

// P4.1: Name, First.

func TestNameIsWAndDigits(t *testing.T) {
	for _, n := range numbers() {
		if got := log.Name(n); got != "w"+strconv.Itoa(n) {
			t.Errorf("Name(%d) = %q", n, got)
		}
	}
	for _, n := range noNumbers() {
		if got := log.Name(n); got != "" {
			t.Errorf("Name(%d) = %q, want nothing", n, got)
		}
	}
	if got := log.Name(most); got != "w1152921504606846976" {
		t.Errorf("Name(2^60) = %q", got)
	}
}

func TestNamesAreFiles(t *testing.T) {
	d, _ := disk.New(10)
	if e := d.Append(log.Name(most), nil); e != api.OK {
		t.Errorf("no file may have the longest name: error %d", e)
	}
}

func TestFirstTellsTheNumber(t *testing.T) {
	for _, n := range numbers() {
		if got, ok := log.First("w" + strconv.Itoa(n)); got != n || !ok {
			t.Errorf("First(w%d) = %d, %v", n, got, ok)
		}
	}
}

func TestFirstRefuses(t *testing.T) {
	names := []string{
		"", "w", "ww", "W1", "1", "7w", "v1", "x1", "root", "a", "wx", "w1w", "ww1", "w1x", "wx1", "1w1",
		"w0", "w00", "w01", "w07", "w007", "w0000000000000000000000001", "w" + strings.Repeat("0", 1000) + "1",
		"w+1", "w-1", "w+", "w-", "w+0", "w-0", "w--1", "w++1", "w1+", "w1-",
		" w1", "w 1", "w1 ", "w1\n", "w\t1", "w1\x00", "w\x001", "\x00w1",
		"w1.0", "w1.", "w.1", "w1e3", "w0x1", "w0b1", "w0o7", "w1_000", "w_1", "w1,000", "wf", "wNaN", "wInf",
		"w\u0661", "w\u00b2", "w\uff11", "w\xb1", "\u24cc1",
		"w1152921504606846977", "w1152921504606846980", "w2305843009213693952", "w9223372036854775807", "w9223372036854775808",
		"w18446744073709551615", "w18446744073709551616", "w18446744073709551617", "w36893488147419103233", "w340282366920938463463374607431768211457",
		"w" + strings.Repeat("1", 60), "w" + strings.Repeat("9", 100000), "w-9223372036854775808", "w-1152921504606846976",
	}
	for _, name := range names {
		if n, ok := log.First(name); n != 0 || ok {
			t.Errorf("First(%.40q) = %d, %v", name, n, ok)
		}
	}
}

func TestFirstOfShortNames(t *testing.T) {
	right := regexp.MustCompile(`\Aw[1-9][0-9]*\z`)
	names := []string{""}
	for range 4 {
		for _, name := range slices.Clone(names) {
			for _, one := range "w019+-_ax. \x00" {
				names = append(names, name+string(one))
			}
		}
	}
	for _, name := range names {
		n, ok := log.First(name)
		if ok != right.MatchString(name) || ok && "w"+strconv.Itoa(n) != name || !ok && n != 0 {
			t.Fatalf("First(%q) = %d, %v", name, n, ok)
		}
	}
}

// P4.1: Head.

func TestHeadIsAFrame(t *testing.T) {
	for _, n := range numbers() {
		if got, e := log.Head(n); e != api.OK || !bytes.Equal(got, headed(n)) {
			t.Errorf("Head(%d) = %v, error %d, want %v", n, got, e, headed(n))
		}
	}
	for _, n := range noNumbers() {
		if got, e := log.Head(n); got != nil || e != api.ErrArg {
			t.Errorf("Head(%d) = %v, error %d", n, got, e)
		}
	}
}

func TestHeadIsNew(t *testing.T) {
	first, _ := log.Head(7)
	clear(first[:cap(first)])
	if second, _ := log.Head(7); !bytes.Equal(second, headed(7)) {
		t.Errorf("Head(7) = %v behind a change of another answer", second)
	}
}

func TestHeadIsNoBatch(t *testing.T) {
	for _, n := range numbers() {
		refused(t, "a head's body", binary.AppendUvarint([]byte{0}, uint64(n)))
	}
}

// P4.1: Bytes.

// puts fails the test unless a batch has bytes, and those that the words say.
func puts(t *testing.T, what string, b api.Batch) {
	t.Helper()
	if got, e := log.Bytes(b); e != api.OK || !bytes.Equal(got, writtenRight(b)) {
		t.Errorf("%s: Bytes of %d, of %d records: %d bytes, error %d; want %d bytes", what, b.N, len(b.Recs), len(got), e, len(writtenRight(b)))
	}
}

// putsNot fails the test unless Bytes tells that error alone.
func putsNot(t *testing.T, what string, b api.Batch, want api.Errno) {
	t.Helper()
	if got, e := log.Bytes(b); got != nil || e != want {
		t.Errorf("%s: Bytes of %d, of %d records: %d bytes, error %d; want error %d", what, b.N, len(b.Recs), len(got), e, want)
	}
}

func TestBytesOfBatches(t *testing.T) {
	for _, b := range batches() {
		puts(t, "right", b)
	}
}

func TestBytesRefusesNumbersAndCounts(t *testing.T) {
	one := texts("a")
	for _, n := range noNumbers() {
		putsNot(t, "number", api.Batch{N: n, Recs: one}, api.ErrArg)
	}
	for _, n := range []int{1, 7, most} {
		putsNot(t, "none", api.Batch{N: n}, api.ErrArg)
		putsNot(t, "none", api.Batch{N: n, Recs: [][]byte{}}, api.ErrArg)
		putsNot(t, "none, but spare room", api.Batch{N: n, Recs: one[:0]}, api.ErrArg)
		puts(t, "one", api.Batch{N: n, Recs: one})
		puts(t, "most", api.Batch{N: n, Recs: make([][]byte, api.MaxBatch)})
		putsNot(t, "one more", api.Batch{N: n, Recs: make([][]byte, api.MaxBatch+1)}, api.ErrArg)
		putsNot(t, "many more", api.Batch{N: n, Recs: make([][]byte, 100*api.MaxBatch)}, api.ErrArg)
	}
}

// greatest are batches whose bytes are so many, with all of it in one record, in the last one, and in all of them.
func greatest(t *testing.T, size int) []api.Batch {
	t.Helper()
	var all []api.Batch
	for _, n := range []int{1, 128, most} {
		for _, count := range []int{1, 2, 127, 128, api.MaxBatch} {
			even := make([][]byte, count)
			for i := range even {
				even[i] = bytes.Repeat([]byte{byte(i)}, (size-9000)/count)
			}
			for _, recs := range [][][]byte{make([][]byte, count), even} {
				b := api.Batch{N: n, Recs: recs}
				last := &recs[count-1]
				*last = append(*last, make([]byte, size-len(writtenRight(b)))...)
				for len(writtenRight(b)) > size { // its length has become longer
					*last = (*last)[1:]
				}
				if len(writtenRight(b)) != size {
					t.Fatalf("the test's batch has %d bytes, not %d", len(writtenRight(b)), size)
				}
				all = append(all, b)
			}
		}
	}
	return all
}

func TestBytesOfTheGreatestBatch(t *testing.T) {
	for _, b := range greatest(t, api.MaxFrame) {
		puts(t, "greatest", b)
	}
	for _, b := range greatest(t, api.MaxFrame+1) {
		putsNot(t, "one more", b, api.ErrLong)
	}
	long := make([]byte, 1<<24)
	putsNot(t, "far more", api.Batch{N: 1, Recs: [][]byte{long}}, api.ErrLong)
	many := slices.Repeat([][]byte{long}, api.MaxBatch) // 2^34 bytes, if they were written
	putsNot(t, "far more, in many", api.Batch{N: 1, Recs: many}, api.ErrLong)
}

func TestBytesNumberAheadOfLength(t *testing.T) {
	long := make([]byte, 2*api.MaxFrame)
	for _, n := range noNumbers() {
		putsNot(t, "number and length", api.Batch{N: n, Recs: [][]byte{long}}, api.ErrArg)
	}
	putsNot(t, "count and length", api.Batch{N: 1, Recs: slices.Repeat([][]byte{long}, api.MaxBatch+1)}, api.ErrArg)
}

func TestBytesLeavesWhatItIsHanded(t *testing.T) {
	room := []byte("abcdef~~~~~~")
	recs := append(make([][]byte, 0, 9), room[0:3], room[3:6], room[6:6])
	b := api.Batch{N: 300, Recs: recs}
	got, _ := log.Bytes(b)
	again, _ := log.Bytes(b)
	want := writtenRight(b)
	if string(room) != "abcdef~~~~~~" || len(recs[:9][3]) != 0 {
		t.Fatalf("Bytes has changed what it was handed: %q", room)
	}
	clear(room)
	clear(again[:cap(again)])
	if !bytes.Equal(got, want) {
		t.Errorf("Bytes' answer has changed with what it was handed, or with another answer: %v", got)
	}
}

// P4.1: Parse.

// parsed fails the test unless a body is that batch.
func parsed(t *testing.T, what string, body []byte, want api.Batch) {
	t.Helper()
	if got, e := log.Parse(body); e != api.OK || !sameBatch(got, want) {
		t.Errorf("%s: Parse of %d bytes: batch %d of %d records, error %d; want batch %d of %d", what, len(body), got.N, len(got.Recs), e, want.N, len(want.Recs))
	}
}

// refused fails the test unless a body is no batch.
func refused(t *testing.T, what string, body []byte) {
	t.Helper()
	if got, e := log.Parse(body); got.N != 0 || got.Recs != nil || e != api.ErrBytes {
		t.Errorf("%s: Parse of %d bytes: batch %d of %d records, error %d", what, len(body), got.N, len(got.Recs), e)
	}
}

func TestParseOfBatches(t *testing.T) {
	for _, b := range batches() {
		parsed(t, "right", writtenRight(b), b)
	}
	for _, b := range greatest(t, api.MaxFrame) {
		parsed(t, "greatest", writtenRight(b), b)
	}
	for _, b := range greatest(t, api.MaxFrame+1) {
		refused(t, "one byte more", writtenRight(b))
	}
}

func TestParseOfBytesThatAreCut(t *testing.T) {
	rows := [][][]byte{{nil}, texts("a", ""), texts("", "bc"), make([][]byte, 130), {make([]byte, 200), []byte("x")}, texts("\x01\x01\x00", "\x00")}
	for _, n := range []int{1, 127, 128, 300, most} {
		for _, recs := range rows {
			whole := writtenRight(api.Batch{N: n, Recs: recs})
			for cut := range len(whole) {
				refused(t, "cut", whole[:cut])
			}
			parsed(t, "whole", whole, api.Batch{N: n, Recs: recs})
		}
	}
	refused(t, "none", nil)
}

func TestParseOfBytesWithMoreBehind(t *testing.T) {
	for _, recs := range [][][]byte{{nil}, texts("a", ""), make([][]byte, api.MaxBatch)} {
		for _, behind := range [][]byte{{0}, {1}, {255}, {0, 0}, {1, 97}, []byte("more")} {
			refused(t, "more behind", append(writtenRight(api.Batch{N: 7, Recs: recs}), behind...))
		}
	}
}

func TestParseOfNumbersThatMayNotBe(t *testing.T) {
	for _, n := range []uint64{0, most + 1, 1 << 61, 1<<63 - 1, 1 << 63, 1<<63 + 1, 1<<63 + 7, math.MaxUint64} {
		refused(t, "number", written(n, 1, []byte("a")))
	}
}

func TestParseOfCountsThatAreOthers(t *testing.T) {
	refused(t, "none", written(1, 0))
	refused(t, "none, and one behind", written(1, 0, nil))
	for _, n := range []uint64{1, 3, 4, api.MaxBatch} {
		refused(t, "another count", written(1, n, []byte("a"), []byte("b")))
	}
	refused(t, "1001", written(1, api.MaxBatch+1, make([][]byte, api.MaxBatch+1)...))
	refused(t, "1001, and one less", written(1, api.MaxBatch+1, make([][]byte, api.MaxBatch)...))
	for _, n := range []uint64{1 << 20, 1 << 31, 1 << 32, 1<<32 + 1, 1 << 62, 1<<63 + 1, math.MaxUint64, math.MaxUint64 - 998} {
		refused(t, "count", written(1, n, nil))
	}
}

func TestParseOfRecordsLongerThanTheBody(t *testing.T) {
	for _, n := range []uint64{3, 100, api.MaxFrame, api.MaxFrame + 1, 1 << 31, 1 << 32, 1<<63 - 1, 1 << 63, math.MaxUint64, math.MaxUint64 - 3} {
		refused(t, "record", append(binary.AppendUvarint([]byte{1, 1}, n), "ab"...))
		refused(t, "second record", append(binary.AppendUvarint([]byte{1, 2, 0}, n), "ab"...))
	}
	parsed(t, "as long", []byte{1, 1, 2, 'a', 'b'}, api.Batch{N: 1, Recs: texts("ab")})
}

// A number that is written longer than it need be is none: of a batch, of records, of a record's bytes.
func TestParseOfNumbersWrittenLonger(t *testing.T) {
	longer := [][]byte{{129, 0}, {129, 128, 0}, {129, 128, 128, 128, 128, 128, 128, 128, 128, 0}, {129, 128, 128, 128, 128, 128, 128, 128, 128, 128, 0}}
	for _, one := range longer {
		refused(t, "number", slices.Concat(one, []byte{1, 1, 'a'}))
		refused(t, "count", slices.Concat([]byte{1}, one, []byte{1, 'a'}))
		refused(t, "length", slices.Concat([]byte{1, 1}, one, []byte{'a'}))
		refused(t, "length of the second", slices.Concat([]byte{1, 2, 0}, one, []byte{'a'}))
	}
	refused(t, "length of nothing", []byte{1, 1, 128, 0})
	refused(t, "number beyond 64 bits", append([]byte{255, 255, 255, 255, 255, 255, 255, 255, 255, 2}, 1, 0))
	parsed(t, "shortest", []byte{1, 1, 1, 'a'}, api.Batch{N: 1, Recs: texts("a")})
}

// Whatever short bodies there are: those are batches that are some batch's bytes.
func TestParseOfShortBodies(t *testing.T) {
	some := []byte{0, 1, 2, 3, 97, 127, 128, 129, 255}
	rows := [][]byte{{}}
	for from := 0; len(rows[len(rows)-1]) < 6; from++ {
		for _, one := range some {
			rows = append(rows, append(slices.Clone(rows[from]), one))
		}
	}
	right := 0
	for _, body := range rows {
		b, e := log.Parse(body)
		if e == api.OK {
			right++
		}
		if e == api.OK && !bytes.Equal(writtenRight(b), body) || e != api.OK && (e != api.ErrBytes || b.N != 0 || b.Recs != nil) {
			t.Fatalf("Parse(%v) = %v, error %d", body, b, e)
		}
	}
	if want := rightBodies(some, 6); right != want {
		t.Errorf("%d bodies are batches, want %d", right, want)
	}
}

// rightBodies counts the batches whose bytes are of these alone, and fewer than so many.
func rightBodies(some []byte, below int) int {
	var heads, counts [][]byte
	for _, one := range some {
		if one < 128 && one > 0 {
			heads, counts = append(heads, []byte{one}), append(counts, []byte{one})
		}
	}
	for length := 2; length < below; length++ {
		for _, n := range numbersOf(some, length) {
			heads = append(heads, n)
			if v, _ := binary.Uvarint(n); v <= api.MaxBatch {
				counts = append(counts, n)
			}
		}
	}
	total := 0
	for _, h := range heads {
		for _, c := range counts {
			v, _ := binary.Uvarint(c)
			for room := 0; room < below-len(h)-len(c); room++ {
				total += rowsOf(some, int(v), room)
			}
		}
	}
	return total
}

// numbersOf are the numbers of so many bytes, of these alone.
func numbersOf(some []byte, length int) [][]byte {
	all := [][]byte{{}}
	for i := range length {
		var next [][]byte
		for _, begun := range all {
			for _, one := range some {
				if last := i == length-1; last && one > 0 && one < 128 || !last && one >= 128 {
					next = append(next, append(slices.Clone(begun), one))
				}
			}
		}
		all = next
	}
	return all
}

// rowsOf counts the rows of so many records of these bytes that take just so much room (of records that are short).
func rowsOf(some []byte, count, room int) int {
	if count == 0 {
		if room == 0 {
			return 1
		}
		return 0
	}
	total, ways := 0, 1
	for length := 0; length+1 <= room; length++ {
		if slices.Contains(some, byte(length)) {
			total += ways * rowsOf(some, count-1, room-1-length)
		}
		ways *= len(some)
	}
	return total
}

func TestParseLeavesWhatItIsHanded(t *testing.T) {
	want := api.Batch{N: 7, Recs: texts("first", "", "second")}
	body := writtenRight(want)
	was := slices.Clone(body)
	first, _ := log.Parse(body)
	second, _ := log.Parse(body)
	if !bytes.Equal(body, was) {
		t.Fatal("Parse has changed what it was handed")
	}
	for _, rec := range first.Recs {
		clear(rec[:cap(rec)])
		_ = append(rec, "far more than there was room for"...)
	}
	clear(first.Recs[:cap(first.Recs)])
	if !sameBatch(second, want) || !bytes.Equal(body, was) {
		t.Errorf("answers share memory: %v, %v", second, body)
	}
	clear(body)
	if !sameBatch(second, want) {
		t.Errorf("an answer shares memory with what was handed in: %v", second)
	}

	third, _ := log.Parse(was)
	for i := range third.Recs {
		_ = append(third.Recs[i], "!!!!!!!!"...)
	}
	if !sameBatch(third, want) {
		t.Errorf("records of one batch share memory: %v", third)
	}
}
