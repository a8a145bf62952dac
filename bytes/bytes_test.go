package bytes_test

import (
	stdbytes "bytes"
	"hash/crc32"
	"math"
	"math/big"
	"math/rand"
	"slices"
	"testing"

	"millwheel/api"
	"millwheel/bytes"
)

// edges are the numbers without a sign on both sides of where one byte more is needed, and both ends.
func edges() []uint64 {
	all := []uint64{0, 1, 2, 300, 1<<32 - 1, 1 << 32, 1<<63 - 1, 1 << 63, math.MaxUint64 - 1, math.MaxUint64}
	for sevens := 1; sevens <= 9; sevens++ {
		all = append(all, 1<<(7*sevens)-1, 1<<(7*sevens), 1<<(7*sevens)+1)
	}
	return all
}

// signedEdges are the same for numbers with a sign.
func signedEdges() []int64 {
	all := []int64{math.MinInt64, math.MinInt64 + 1, math.MaxInt64 - 1, math.MaxInt64}
	for _, n := range edges() {
		all = append(all, int64(n>>1), -int64(n>>1), -int64(n>>1)-1)
	}
	return all
}

// writtenByDivision writes a number the way the chapter tells it, by dividing a big number.
func writtenByDivision(n *big.Int) []byte {
	var out []byte
	rest, base := new(big.Int).Set(n), big.NewInt(128)
	for {
		seven := new(big.Int)
		rest.DivMod(rest, base, seven)
		if rest.Sign() == 0 {
			return append(out, byte(seven.Int64()))
		}
		out = append(out, byte(seven.Int64())+128)
	}
}

// taken is the number without a sign that one with it takes: 0, -1, 1, -2, 2 take 0, 1, 2, 3, 4.
func taken(n int64) *big.Int {
	twice := new(big.Int).Mul(big.NewInt(n), big.NewInt(2))
	if n < 0 {
		return twice.Sub(twice.Neg(twice), big.NewInt(1))
	}
	return twice
}

// readByWords reads a number as P1.2's words say, word by word.
func readByWords(b []byte, at int) (*big.Int, int, api.Errno) {
	if at < 0 || at > len(b) {
		return nil, 0, api.ErrArg
	}
	rest := b[at:]
	end := slices.IndexFunc(rest, func(one byte) bool { return one < 128 })
	if len(rest) < 10 && end < 0 {
		return nil, 0, api.ErrShort
	}
	if end > 0 && end < 10 && rest[end] == 0 {
		return nil, 0, api.ErrBytes
	}
	if end < 0 || end > 9 || end == 9 && rest[9] > 1 {
		return nil, 0, api.ErrBytes
	}
	n := new(big.Int)
	for i := end; i >= 0; i-- {
		n.Mul(n, big.NewInt(128)).Add(n, big.NewInt(int64(rest[i]&127)))
	}
	return n, at + end + 1, api.OK
}

// roomy is text with spare room behind it, all 0xEE.
func roomy(text string) []byte {
	all := stdbytes.Repeat([]byte{0xEE}, len(text)+64)
	copy(all, text)
	return all[:len(text)]
}

// untouched fails unless b, made by roomy, still is text, its spare room as it was.
func untouched(t *testing.T, b []byte, text string) {
	t.Helper()
	if !slices.Equal(b[:cap(b)], roomy(text)[:cap(b)]) {
		t.Errorf("what was handed in was changed: %v", b[:cap(b)])
	}
}

// P1.1: the chapter's examples, and both ends.
func TestWriteNumbers(t *testing.T) {
	for _, x := range []struct {
		n    uint64
		want string
	}{
		{0, "\x00"}, {1, "\x01"}, {127, "\x7f"}, {128, "\x80\x01"}, {300, "\xac\x02"}, {16383, "\xff\x7f"}, {16384, "\x80\x80\x01"},
		{1<<63 - 1, "\xff\xff\xff\xff\xff\xff\xff\xff\x7f"},
		{1 << 63, "\x80\x80\x80\x80\x80\x80\x80\x80\x80\x01"},
		{math.MaxUint64, "\xff\xff\xff\xff\xff\xff\xff\xff\xff\x01"},
	} {
		if got := bytes.Uint(nil, x.n); string(got) != x.want {
			t.Errorf("Uint %d: %v", x.n, got)
		}
	}
	for _, x := range []struct {
		n    int64
		want string
	}{
		{0, "\x00"}, {-1, "\x01"}, {1, "\x02"}, {-2, "\x03"}, {63, "\x7e"}, {-64, "\x7f"}, {64, "\x80\x01"}, {-65, "\x81\x01"},
		{math.MaxInt64, "\xfe\xff\xff\xff\xff\xff\xff\xff\xff\x01"},
		{math.MinInt64, "\xff\xff\xff\xff\xff\xff\xff\xff\xff\x01"},
	} {
		if got := bytes.Int(nil, x.n); string(got) != x.want {
			t.Errorf("Int %d: %v", x.n, got)
		}
	}
}

// P1.1: at every edge, and between them, what is written is what division tells.
func TestWriteByDivision(t *testing.T) {
	source := rand.New(rand.NewSource(1))
	unsigned, signed := edges(), signedEdges()
	for range 3000 {
		n := source.Uint64() >> source.Intn(64)
		unsigned, signed = append(unsigned, n), append(signed, int64(n), -int64(n))
	}
	for _, n := range unsigned {
		want := writtenByDivision(new(big.Int).SetUint64(n))
		if got := bytes.Uint([]byte("ab"), n); string(got) != "ab"+string(want) {
			t.Errorf("Uint %d: %v, want %v", n, got, want)
		}
	}
	for _, n := range signed {
		want := writtenByDivision(taken(n))
		if got := bytes.Int([]byte("ab"), n); string(got) != "ab"+string(want) {
			t.Errorf("Int %d: %v, want %v", n, got, want)
		}
	}
}

// P1.1: strings of all lengths around where their length needs one byte more, of any bytes.
func TestWriteStrings(t *testing.T) {
	if got := bytes.Blob(nil, []byte("ab")); string(got) != "\x02ab" {
		t.Errorf("ab: %v", got)
	}
	if got := bytes.Blob(nil, nil); string(got) != "\x00" {
		t.Errorf("none: %v", got)
	}
	if got := bytes.Blob([]byte("x"), []byte{}); string(got) != "x\x00" {
		t.Errorf("empty: %v", got)
	}
	for _, n := range []int{1, 126, 127, 128, 129, 16383, 16384} {
		text := make([]byte, n)
		for i := range text {
			text[i] = byte(i * 7)
		}
		want := "pre" + string(writtenByDivision(big.NewInt(int64(n)))) + string(text)
		if got := bytes.Blob([]byte("pre"), text); string(got) != want {
			t.Errorf("%d bytes: %d written", n, len(got))
		}
	}
}

// P1.1 and R3: what is handed in stays as it was, its spare room too, and the answer is new memory.
func TestWriteLeavesOut(t *testing.T) {
	writers := map[string]func(out []byte) []byte{
		"Uint": func(out []byte) []byte { return bytes.Uint(out, 1<<40) },
		"Int":  func(out []byte) []byte { return bytes.Int(out, -1<<40) },
		"Blob": func(out []byte) []byte { return bytes.Blob(out, []byte("string")) },
		"Seal": bytes.Seal,
	}
	for name, write := range writers {
		for _, text := range []string{"", "a", "some text"} {
			out := roomy(text)
			first := write(out)
			untouched(t, out, text)
			second := write(out)
			want := string(first)
			for i := range second {
				second[i] = 0
			}
			if untouched(t, out, text); string(first) != want || string(first[:len(text)]) != text {
				t.Errorf("%s behind %q: answers share memory", name, text)
			}
		}
	}
	all := roomy("0123456789")
	if got := bytes.Blob(all[:4], all[4:8]); string(got) != "0123\x044567" {
		t.Errorf("a string in the spare room of out: %q", got)
	}
	untouched(t, all, "0123456789")
}

// P1.2: what was written is read again, at any place, and nothing behind it counts.
func TestReadWhatWasWritten(t *testing.T) {
	for _, ahead := range []string{"", "\x80", "\xff\xff\xff"} {
		for _, behind := range []string{"", "\x00", "\xff", "\xff\xff\xff\xff\xff\xff\xff\xff\xff\xff\xff"} {
			for _, n := range edges() {
				b := bytes.Uint([]byte(ahead), n)
				got, next, e := bytes.GetUint(append(slices.Clone(b), behind...), len(ahead))
				if got != n || next != len(b) || e != api.OK {
					t.Errorf("GetUint %d: %d %d %d", n, got, next, e)
				}
			}
			for _, n := range signedEdges() {
				b := bytes.Int([]byte(ahead), n)
				got, next, e := bytes.GetInt(append(slices.Clone(b), behind...), len(ahead))
				if got != n || next != len(b) || e != api.OK {
					t.Errorf("GetInt %d: %d %d %d", n, got, next, e)
				}
			}
			for _, n := range []int{0, 1, 127, 128, 300} {
				text := string(stdbytes.Repeat([]byte{'s'}, n))
				b := bytes.Blob([]byte(ahead), []byte(text))
				got, next, e := bytes.GetBlob(append(slices.Clone(b), behind...), len(ahead), n)
				if string(got) != text || next != len(b) || e != api.OK {
					t.Errorf("GetBlob of %d bytes: %d %d %d", n, len(got), next, e)
				}
			}
		}
	}
}

// readAgrees fails unless GetUint, GetInt and GetBlob of b at a place say what P1.2's words say.
func readAgrees(t *testing.T, b []byte, at int) {
	t.Helper()
	want, wantNext, wantErr := readByWords(b, at)
	n, next, e := bytes.GetUint(b, at)
	signed, signedNext, signedErr := bytes.GetInt(b, at)
	if e != wantErr || next != wantNext || signedErr != wantErr || signedNext != wantNext {
		t.Fatalf("%v at %d: %d %d and %d %d, want %d %d", b, at, next, e, signedNext, signedErr, wantNext, wantErr)
	}
	if wantErr != api.OK {
		text, textNext, textErr := bytes.GetBlob(b, at, math.MaxInt)
		if n != 0 || signed != 0 || len(text) != 0 || textNext != 0 || textErr != wantErr {
			t.Fatalf("%v at %d: %d, %d, %v %d %d beside an error", b, at, n, signed, text, textNext, textErr)
		}
		return
	}
	if want.Cmp(new(big.Int).SetUint64(n)) != 0 || want.Cmp(taken(signed)) != 0 {
		t.Fatalf("%v at %d: %d and %d, want %d", b, at, n, signed, want)
	}
}

// P1.2: all rows of up to three of the bytes that differ in what they do, behind begins that reach the tenth byte.
func TestReadByWords(t *testing.T) {
	var rows [][]byte
	kinds := []byte{0, 1, 2, 3, 63, 64, 126, 127, 128, 129, 130, 192, 254, 255}
	for _, one := range kinds {
		rows = append(rows, []byte{one})
		for _, two := range kinds {
			rows = append(rows, []byte{one, two})
			for _, three := range kinds {
				rows = append(rows, []byte{one, two, three})
			}
		}
	}
	for begin := range 13 {
		for _, filler := range []byte{128, 255} {
			ahead := stdbytes.Repeat([]byte{filler}, begin)
			readAgrees(t, ahead, 0)
			for _, row := range rows {
				b := slices.Concat(ahead, row)
				readAgrees(t, b, 0)
				readAgrees(t, b, len(b)-1)
			}
		}
	}
}

// P1.2: bytes by chance.
func TestReadByChance(t *testing.T) {
	source := rand.New(rand.NewSource(2))
	for range 20000 {
		b := make([]byte, source.Intn(14))
		source.Read(b)
		for i := range b {
			if source.Intn(3) > 0 {
				b[i] |= 128
			}
		}
		readAgrees(t, b, source.Intn(len(b)+3)-1)
	}
}

// P1.2: what is no number, told one by one.
func TestReadNoNumber(t *testing.T) {
	nine := "\xff\xff\xff\xff\xff\xff\xff\xff\xff"
	for _, x := range []struct {
		b    string
		want api.Errno
	}{
		{"", api.ErrShort}, {"\x80", api.ErrShort}, {nine, api.ErrShort}, {nine[1:], api.ErrShort},
		{"\x80\x00", api.ErrBytes}, {"\xff\x00", api.ErrBytes}, {"\x80\x80\x00\x01", api.ErrBytes},
		{nine + "\x00", api.ErrBytes}, {nine + "\x02", api.ErrBytes}, {nine + "\x7f", api.ErrBytes},
		{nine + "\x80", api.ErrBytes}, {nine + "\x81", api.ErrBytes}, {nine + "\xff", api.ErrBytes},
		{nine + "\x80\x00", api.ErrBytes}, {nine + "\x81\x01", api.ErrBytes},
		{nine + "\x01", api.OK}, {"\x00", api.OK}, {"\x00\x80", api.OK}, {"\x01" + nine + "\xff", api.OK},
	} {
		_, _, unsigned := bytes.GetUint([]byte(x.b), 0)
		_, _, signed := bytes.GetInt([]byte(x.b), 0)
		if unsigned != x.want || signed != x.want {
			t.Errorf("%q: %d and %d, want %d", x.b, unsigned, signed, x.want)
		}
	}
}

// P1.2: a place below 0 or past the end is ErrArg, the end itself is not; ErrArg counts ahead of all others.
func TestReadPlaces(t *testing.T) {
	for _, b := range [][]byte{nil, {}, {5}, {128, 0}, {128}, {1, 2, 3}} {
		for _, at := range []int{math.MinInt, -1, len(b) + 1, len(b) + 2, math.MaxInt} {
			readAgrees(t, b, at)
			for _, most := range []int{-1, 0, 9} {
				if text, next, e := bytes.GetBlob(b, at, most); len(text) != 0 || next != 0 || e != api.ErrArg {
					t.Errorf("GetBlob %v at %d: %v %d %d", b, at, text, next, e)
				}
			}
		}
		if n, next, e := bytes.GetUint(b, len(b)); n != 0 || next != 0 || e != api.ErrShort {
			t.Errorf("GetUint %v at its end: %d %d %d", b, n, next, e)
		}
		if n, next, e := bytes.GetInt(b, len(b)); n != 0 || next != 0 || e != api.ErrShort {
			t.Errorf("GetInt %v at its end: %d %d %d", b, n, next, e)
		}
		if text, next, e := bytes.GetBlob(b, len(b), 9); len(text) != 0 || next != 0 || e != api.ErrShort {
			t.Errorf("GetBlob %v at its end: %v %d %d", b, text, next, e)
		}
	}
}

// P1.2: how long a string may be, and what is wanting of it; ErrLong counts ahead of ErrShort.
func TestReadStrings(t *testing.T) {
	longest := string(bytes.Uint(nil, math.MaxUint64))
	half := string(bytes.Uint(nil, 1<<63))
	for _, x := range []struct {
		b    string
		at   int
		most int
		want string
		next int
		e    api.Errno
	}{
		{"\x02ab", 0, 2, "ab", 3, api.OK},
		{"\x02ab", 0, math.MaxInt, "ab", 3, api.OK},
		{"x\x02abc", 1, 2, "ab", 4, api.OK},
		{"\x00", 0, 0, "", 1, api.OK},
		{"\x00\x05", 0, 0, "", 1, api.OK},
		{"\x02ab", 0, 1, "", 0, api.ErrLong},
		{"\x02ab", 0, 0, "", 0, api.ErrLong},
		{"\x02a", 0, 1, "", 0, api.ErrLong},
		{"\x02", 0, 1, "", 0, api.ErrLong},
		{"\x02a", 0, 2, "", 0, api.ErrShort},
		{"\x02", 0, 2, "", 0, api.ErrShort},
		{"\x01", 0, math.MaxInt, "", 0, api.ErrShort},
		{"\x80", 0, -1, "", 0, api.ErrShort},
		{"\x80\x00", 0, -1, "", 0, api.ErrBytes},
		{"\x82\x00ab", 0, 2, "", 0, api.ErrBytes},
		{"\x00", 0, -1, "", 0, api.ErrLong},
		{"\x02ab", 0, math.MinInt, "", 0, api.ErrLong},
		{longest + "ab", 0, math.MaxInt, "", 0, api.ErrLong},
		{half + "ab", 0, math.MaxInt, "", 0, api.ErrLong},
		{longest, 0, -1, "", 0, api.ErrLong},
		{half, 0, math.MinInt, "", 0, api.ErrLong},
		{string(bytes.Uint(nil, math.MaxInt)) + "ab", 0, math.MaxInt, "", 0, api.ErrShort},
		{string(bytes.Uint(nil, math.MaxInt-5)) + "ab", 0, math.MaxInt, "", 0, api.ErrShort},
	} {
		got, next, e := bytes.GetBlob([]byte(x.b), x.at, x.most)
		if string(got) != x.want || next != x.next || e != x.e {
			t.Errorf("%q at %d, at most %d: %q %d %d", x.b, x.at, x.most, got, next, e)
		}
	}
}

// P1.2 and R3: a string that was read has memory of its own, and reading changes nothing.
func TestReadOwnMemory(t *testing.T) {
	const text = "\x03abc\x00"
	b := roomy(text)
	first, _, _ := bytes.GetBlob(b, 0, 3)
	second, _, _ := bytes.GetBlob(b, 0, 3)
	copy(first, "xyz")
	_ = append(first, '!')
	empty, _, _ := bytes.GetBlob(b, 4, 3)
	_ = append(empty, '!')
	untouched(t, b, text)
	if string(second) != "abc" {
		t.Errorf("two answers share memory: %q", second)
	}
	b[1] = 'z'
	if string(second) != "abc" {
		t.Errorf("an answer shares memory with what was read: %q", second)
	}
}

// P1.3: the chapter's examples, and other known checks.
func TestCrc(t *testing.T) {
	for _, x := range []struct {
		b    string
		want uint32
	}{
		{"", 0}, {"123456789", 3421780262}, {"\x00", 0xD202EF8D}, {"a", 0xE8B7BE43}, {"\x00\x00\x00\x00", 0x2144DF1C}, {"\xff\xff\xff\xff", 0xFFFFFFFF},
	} {
		if got := bytes.Crc([]byte(x.b)); got != x.want {
			t.Errorf("%q: %d, want %d", x.b, got, x.want)
		}
	}
	if bytes.Crc(nil) != 0 {
		t.Error("the check of none is not 0")
	}
	source := rand.New(rand.NewSource(3))
	for n := range 600 {
		text := make([]byte, n)
		source.Read(text)
		b := roomy(string(text))
		if got, want := bytes.Crc(b), crc32.ChecksumIEEE(text); got != want {
			t.Errorf("%d bytes: %d, want %d", n, got, want)
		}
		untouched(t, b, string(text))
	}
}

// P1.3: sealed are bytes with their check behind, highest byte first; unsealed, they are as they were.
func TestSeal(t *testing.T) {
	for _, x := range []struct{ b, want string }{
		{"", "\x00\x00\x00\x00"}, {"123456789", "123456789\xcb\xf4\x39\x26"}, {"a", "a\xe8\xb7\xbe\x43"},
	} {
		got := bytes.Seal([]byte(x.b))
		if string(got) != x.want {
			t.Errorf("%q: %q", x.b, got)
		}
		if back, e := bytes.Unseal(got); string(back) != x.b || e != api.OK {
			t.Errorf("%q: %q %d", x.b, back, e)
		}
		twice, e := bytes.Unseal(bytes.Seal(got))
		if string(twice) != x.want || e != api.OK {
			t.Errorf("%q, sealed twice: %q %d", x.b, twice, e)
		}
	}
}

// P1.3: what was never sealed: too short, or with another check.
func TestUnsealWrong(t *testing.T) {
	for _, x := range []struct {
		b    string
		want api.Errno
	}{
		{"", api.ErrShort}, {"\x00", api.ErrShort}, {"\x00\x00", api.ErrShort}, {"\x00\x00\x00", api.ErrShort},
		{"\x00\x00\x00\x00", api.OK},
		{"\x00\x00\x00\x01", api.ErrSum}, {"\x01\x00\x00\x00", api.ErrSum}, {"\xff\xff\xff\xff", api.ErrSum},
		{"\x00\x00\x00\x00\x00", api.ErrSum}, {"123456789", api.ErrSum},
		{"a\x43\xbe\xb7\xe8", api.ErrSum}, {"a\xe8\xb7\xbe\x43\x00", api.ErrSum}, {"\xe8\xb7\xbe\x43", api.ErrSum}, {"\xe8\xb7\xbe\x43a", api.ErrSum},
	} {
		got, e := bytes.Unseal([]byte(x.b))
		if e != x.want || len(got) != 0 {
			t.Errorf("%q: %v %d, want %d", x.b, got, e, x.want)
		}
	}
	if got, e := bytes.Unseal(nil); len(got) != 0 || e != api.ErrShort {
		t.Errorf("none: %v %d", got, e)
	}
}

// P1.3: each bit of what is sealed counts, and each byte that is cut off.
func TestUnsealChanged(t *testing.T) {
	sealed := bytes.Seal([]byte("what is sealed, and changed"))
	for i := range len(sealed) * 8 {
		changed := slices.Clone(sealed)
		changed[i/8] ^= 1 << (i % 8)
		if got, e := bytes.Unseal(changed); e != api.ErrSum || len(got) != 0 {
			t.Errorf("bit %d: %v %d", i, got, e)
		}
	}
	for n := range len(sealed) {
		want := api.ErrSum
		if n < 4 {
			want = api.ErrShort
		}
		if got, e := bytes.Unseal(sealed[:n]); e != want || len(got) != 0 {
			t.Errorf("cut off at %d: %v %d", n, got, e)
		}
	}
}

// P1.3 and R3: what was sealed comes back in memory of its own.
func TestUnsealOwnMemory(t *testing.T) {
	text := string(bytes.Seal([]byte("abc")))
	b := roomy(text)
	first, _ := bytes.Unseal(b)
	second, _ := bytes.Unseal(b)
	copy(first, "xyz")
	_ = append(first, '!')
	untouched(t, b, text)
	if string(second) != "abc" {
		t.Errorf("two answers share memory: %q", second)
	}
	none := roomy("\x00\x00\x00\x00")
	empty, _ := bytes.Unseal(none)
	_ = append(empty, '!')
	untouched(t, none, "\x00\x00\x00\x00")
}

// entry is something of a row: how it is read, and whether it was read as it was written.
type entry struct {
	end  int
	read func(b []byte, at int) (int, api.Errno, bool)
}

// rowOfEntries writes a row of numbers and strings, by chance and at the edges.
func rowOfEntries(source *rand.Rand) ([]byte, []entry) {
	var row []byte
	var all []entry
	for _, n := range edges() {
		row = bytes.Uint(row, n)
		all = append(all, entry{len(row), func(b []byte, at int) (int, api.Errno, bool) {
			got, next, e := bytes.GetUint(b, at)
			return next, e, got == n
		}})
		signed := int64(source.Uint64() >> source.Intn(64))
		row = bytes.Int(row, -signed)
		all = append(all, entry{len(row), func(b []byte, at int) (int, api.Errno, bool) {
			got, next, e := bytes.GetInt(b, at)
			return next, e, got == -signed
		}})
		text := make([]byte, source.Intn(140))
		source.Read(text)
		row = bytes.Blob(row, text)
		all = append(all, entry{len(row), func(b []byte, at int) (int, api.Errno, bool) {
			got, next, e := bytes.GetBlob(b, at, 140)
			return next, e, slices.Equal(got, text)
		}})
	}
	return row, all
}

// P1.4: a row that is cut off anywhere is read up to the entry that was cut, and that one is ErrShort.
func TestRowCutAnywhere(t *testing.T) {
	row, all := rowOfEntries(rand.New(rand.NewSource(4)))
	for cut := range len(row) + 1 {
		at := 0
		for i, one := range all {
			next, e, same := one.read(row[:cut], at)
			if one.end > cut {
				if e != api.ErrShort || next != 0 {
					t.Errorf("cut at %d: entry %d: %d %d", cut, i, next, e)
				}
				break
			}
			if e != api.OK || next != one.end || !same {
				t.Errorf("cut at %d: entry %d: %d %d %v", cut, i, next, e, same)
			}
			at = next
		}
	}
}

// P1.4: a number with a sign that is nearer to 0 is never longer.
func TestNearerIsNeverLonger(t *testing.T) {
	all := signedEdges()
	for n := int64(-9000); n <= 9000; n++ {
		all = append(all, n)
	}
	distance := func(n int64) uint64 {
		if n < 0 {
			return -uint64(n)
		}
		return uint64(n)
	}
	longest := map[uint64]int{}
	shortest := map[uint64]int{}
	for _, n := range all {
		far, size := distance(n), len(bytes.Int(nil, n))
		longest[far] = max(longest[far], size)
		if old, ok := shortest[far]; !ok || size < old {
			shortest[far] = size
		}
	}
	var far []uint64
	for one := range longest {
		far = append(far, one)
	}
	slices.Sort(far)
	nearer := 0
	for _, one := range far {
		if shortest[one] < nearer {
			t.Errorf("%d away from 0: %d bytes, one that is nearer: %d", one, shortest[one], nearer)
		}
		nearer = max(nearer, longest[one])
	}
}

// P1.4: behind two begins the checks of the whole differ by the same, whatever comes behind, as long as it is as much.
func TestCrcBehindTwoBegins(t *testing.T) {
	source := rand.New(rand.NewSource(5))
	for _, begins := range [][2]string{{"a", "b"}, {"", "x"}, {"\x00", "\x00\x00"}, {"same", "same"}, {"one begin", "and another one"}} {
		for n := range 40 {
			nought := make([]byte, n)
			differ := func(behind []byte) uint32 {
				return bytes.Crc(slices.Concat([]byte(begins[0]), behind)) ^ bytes.Crc(slices.Concat([]byte(begins[1]), behind))
			}
			want := differ(nought)
			for range 5 {
				behind := make([]byte, n)
				source.Read(behind)
				if got := differ(behind); got != want {
					t.Errorf("%q, %d bytes behind: %d, want %d", begins, n, got, want)
				}
			}
		}
	}
}

// P1.4: a change within 32 bits running (the lowest bit of a byte first, as the check takes them) is seen.
func TestCrcSeesChange(t *testing.T) {
	source := rand.New(rand.NewSource(6))
	text := []byte("a text of some thirty-two bytes!")
	for first := range len(text) * 8 {
		changes := []uint32{1, 1<<32 - 1, 1<<31 | 1, 0xEDB88320 | 1, 0xDB710641}
		for range 20 {
			changes = append(changes, source.Uint32()|1)
		}
		for _, change := range changes {
			changed := slices.Clone(text)
			for bit := first; bit < min(first+32, len(text)*8); bit++ {
				changed[bit/8] ^= byte(change>>(bit-first)&1) << (bit % 8)
			}
			if bytes.Crc(changed) == bytes.Crc(text) {
				t.Errorf("a change %032b from bit %d on is not seen", change, first)
			}
			sealed := slices.Concat(changed, bytes.Seal(text)[len(text):])
			if got, e := bytes.Unseal(sealed); e != api.ErrSum || len(got) != 0 {
				t.Errorf("a change %032b from bit %d on: %v %d", change, first, got, e)
			}
		}
	}
}
