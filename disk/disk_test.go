package disk_test

import (
	"maps"
	"math"
	"math/rand"
	"slices"
	"strings"
	"testing"

	"millwheel/api"
	"millwheel/disk"
)

// made answers a new disk for so many bytes.
func made(t *testing.T, most int) *disk.Disk {
	t.Helper()
	d, e := disk.New(most)
	if e != api.OK || d == nil {
		t.Fatalf("New(%d): %v, %d", most, d, e)
	}
	return d
}

// tells fails the test unless a call told that error.
func tells(t *testing.T, what string, got, want api.Errno) {
	t.Helper()
	if got != want {
		t.Errorf("%s: error %d, want %d", what, got, want)
	}
}

// fill appends a text to a file, which has to go.
func fill(t *testing.T, d *disk.Disk, name, text string) {
	t.Helper()
	tells(t, "Append to "+name, d.Append(name, []byte(text)), api.OK)
}

// one is a file: its bytes, and how many of them are safe.
type one struct {
	text string
	safe int
}

// files is what a disk has.
type files map[string]one

// has fails the test unless a disk with power has just these files.
func has(t *testing.T, d *disk.Disk, want files) {
	t.Helper()
	if got := d.List(); !slices.Equal(got, slices.Sorted(maps.Keys(want))) {
		t.Fatalf("files %q, want %v", got, want)
	}
	used := 0
	for name, f := range want {
		used += len(f.text)
		b, e := d.Read(name)
		if e != api.OK || string(b) != f.text || d.Size(name) != len(f.text) || d.Synced(name) != f.safe {
			t.Errorf("%s: %q (error %d), size %d, synced %d, want %q, %d safe", name, b, e, d.Size(name), d.Synced(name), f.text, f.safe)
		}
	}
	if d.Used() != used {
		t.Errorf("used %d, want %d", d.Used(), used)
	}
}

// deeds are of all five kinds; each goes on the disk of forDeeds.
func deeds() map[string]func(*disk.Disk) api.Errno {
	return map[string]func(*disk.Disk) api.Errno{
		"Append": func(d *disk.Disk) api.Errno { return d.Append("a", []byte("!")) },
		"Begin":  func(d *disk.Disk) api.Errno { return d.Append("c", nil) },
		"Sync":   func(d *disk.Disk) api.Errno { return d.Sync("a") },
		"Rename": func(d *disk.Disk) api.Errno { return d.Rename("a", "b") },
		"Itself": func(d *disk.Disk) api.Errno { return d.Rename("a", "a") },
		"Remove": func(d *disk.Disk) api.Errno { return d.Remove("a") },
		"Cut":    func(d *disk.Disk) api.Errno { return d.Cut("a", 1) },
	}
}

// deedsLeave tells what each of the deeds leaves on that disk.
func deedsLeave() map[string]files {
	a, b := one{"xyz", 2}, one{"w", 0}
	return map[string]files{
		"Append": {"a": {"xyz!", 2}, "b": b},
		"Begin":  {"a": a, "b": b, "c": {"", 0}},
		"Sync":   {"a": {"xyz", 3}, "b": b},
		"Rename": {"b": a},
		"Itself": {"a": a, "b": b},
		"Remove": {"b": b},
		"Cut":    {"a": {"x", 1}, "b": b},
	}
}

// forDeeds answers a disk with the files a, two of its three bytes safe, and b, nothing safe.
func forDeeds(t *testing.T) *disk.Disk {
	t.Helper()
	d := made(t, 100)
	fill(t, d, "b", "w")
	fill(t, d, "a", "xy")
	tells(t, "Sync", d.Sync("a"), api.OK)
	fill(t, d, "a", "z")
	has(t, d, files{"a": {"xyz", 2}, "b": {"w", 0}})
	return d
}

// P2.1: New.

func TestNewTakesWhatADiskMayHold(t *testing.T) {
	for _, most := range []int{0, 1, 1000, api.MaxDisk - 1, api.MaxDisk} {
		d := made(t, most)
		has(t, d, files{})
		if d.Down() {
			t.Errorf("New(%d) is dark", most)
		}
	}
	for _, most := range []int{-1, api.MaxDisk + 1, math.MinInt, math.MaxInt} {
		if d, e := disk.New(most); d != nil || e != api.ErrArg {
			t.Errorf("New(%d): %v, %d", most, d, e)
		}
	}
}

func TestNewDiskHasNoFuse(t *testing.T) {
	d := made(t, 10)
	for range 1000 {
		fill(t, d, "a", "")
	}
}

func TestDisksAreApart(t *testing.T) {
	d, other := made(t, 10), made(t, 10)
	fill(t, d, "a", "x")
	other.Arm(0)
	tells(t, "Append to the other", other.Append("a", nil), api.ErrDown)
	has(t, d, files{"a": {"x", 0}})
	if d.Down() || other.List() != nil {
		t.Error("disks share something")
	}
}

// P2.1: Append.

func TestAppendPutsBehind(t *testing.T) {
	d := made(t, 100)
	fill(t, d, "a", "")
	has(t, d, files{"a": {"", 0}})
	fill(t, d, "a", "xy")
	fill(t, d, "b", "\x00\xff")
	fill(t, d, "a", "")
	fill(t, d, "a", "z")
	has(t, d, files{"a": {"xyz", 0}, "b": {"\x00\xff", 0}})
}

func TestAppendKeepsTheMark(t *testing.T) {
	d := made(t, 100)
	fill(t, d, "a", "xyz")
	tells(t, "Sync", d.Sync("a"), api.OK)
	fill(t, d, "a", "uv")
	has(t, d, files{"a": {"xyzuv", 3}})
}

func TestNamesOfOneByte(t *testing.T) {
	const may = "abcdefghijklmnopqrstuvwxyz0123456789.-"
	for c := range 256 {
		d := made(t, 10)
		fill(t, d, "from", "x")
		name, want := string([]byte{byte(c)}), api.ErrFile
		if strings.IndexByte(may, byte(c)) >= 0 {
			want = api.OK
		}
		tells(t, "Append to "+name, d.Append(name, nil), want)
		tells(t, "Append to m"+name+"m", d.Append("m"+name+"m", nil), want)
		tells(t, "Rename to "+name, d.Rename("from", name), want)
	}
}

func TestNamesThatMayBeAndMayNot(t *testing.T) {
	long := strings.Repeat("n", api.MaxName)
	for name, want := range map[string]api.Errno{
		"":                    api.ErrFile,
		"a":                   api.OK,
		".":                   api.OK,
		"..":                  api.OK,
		"-":                   api.OK,
		"root.new":            api.OK,
		"w1234567890":         api.OK,
		long:                  api.OK,
		long + "n":            api.ErrFile,
		long[:59] + "N":       api.ErrFile,
		long[:59] + "/":       api.ErrFile,
		"A":                   api.ErrFile,
		"a b":                 api.ErrFile,
		"a\x00":               api.ErrFile,
		"a_b":                 api.ErrFile,
		"é":                   api.ErrFile,
		"\xff":                api.ErrFile,
		"\xc3":                api.ErrFile,
		"a\n":                 api.ErrFile,
		strings.ToUpper(long): api.ErrFile,
	} {
		d := made(t, 10)
		tells(t, "Append to "+name, d.Append(name, []byte("x")), want)
		wanted := files{}
		if want == api.OK {
			wanted[name] = one{"x", 0}
		}
		has(t, d, wanted)
	}
}

func TestFullByBytes(t *testing.T) {
	d := made(t, 5)
	fill(t, d, "a", "xyz")
	tells(t, "Append past the end", d.Append("b", []byte("uvw")), api.ErrFull)
	tells(t, "Append past the end of a file that is there", d.Append("a", []byte("uvw")), api.ErrFull)
	has(t, d, files{"a": {"xyz", 0}})
	fill(t, d, "b", "uv")
	tells(t, "Append to a full disk", d.Append("a", []byte("!")), api.ErrFull)
	fill(t, d, "c", "")
	fill(t, d, "a", "")
	has(t, d, files{"a": {"xyz", 0}, "b": {"uv", 0}, "c": {"", 0}})
	tells(t, "Append of a wrong name to a full disk", d.Append("A", []byte("!")), api.ErrFile)
}

func TestDiskOfNoBytes(t *testing.T) {
	d := made(t, 0)
	fill(t, d, "a", "")
	tells(t, "Append", d.Append("a", []byte("x")), api.ErrFull)
	tells(t, "Append", d.Append("b", []byte("x")), api.ErrFull)
	has(t, d, files{"a": {"", 0}})
}

func TestRoomComesBack(t *testing.T) {
	back := map[string]func(*disk.Disk){
		"Remove": func(d *disk.Disk) { d.Remove("a") },
		"Cut":    func(d *disk.Disk) { d.Cut("a", 1) },
		"Rename": func(d *disk.Disk) { d.Rename("b", "a") },
		"Crash":  func(d *disk.Disk) { d.Crash(nil, nil) },
	}
	for how, freed := range map[string]int{"Remove": 3, "Cut": 2, "Rename": 3, "Crash": 5} {
		d := made(t, 5)
		fill(t, d, "a", "xyz")
		fill(t, d, "b", "uv")
		back[how](d)
		if d.Used() != 5-freed {
			t.Errorf("%s: used %d, want %d", how, d.Used(), 5-freed)
		}
		tells(t, how+": too much", d.Append("b", make([]byte, freed+1)), api.ErrFull)
		tells(t, how+": what is free", d.Append("b", make([]byte, freed)), api.OK)
	}
}

// fileName answers the i-th of many names.
func fileName(i int) string {
	return "f" + strings.Repeat("x", i/26) + string(rune('a'+i%26))
}

func TestFullByFiles(t *testing.T) {
	d := made(t, 1000)
	for i := range api.MaxFiles {
		fill(t, d, fileName(i), "x")
	}
	tells(t, "one file more", d.Append("g", nil), api.ErrFull)
	if len(d.List()) != api.MaxFiles || d.Size("g") != 0 {
		t.Errorf("%d files", len(d.List()))
	}
	fill(t, d, fileName(7), "y")
	tells(t, "Rename to a new name", d.Rename(fileName(3), "g"), api.OK)
	tells(t, "one file more", d.Append(fileName(3), nil), api.ErrFull)
	tells(t, "Rename onto another", d.Rename("g", fileName(7)), api.OK)
	fill(t, d, fileName(3), "")
	tells(t, "one file more", d.Append("g", nil), api.ErrFull)
	tells(t, "Remove", d.Remove(fileName(3)), api.OK)
	fill(t, d, "g", "")
}

func TestDiskIsFilledToTheBrim(t *testing.T) {
	d := made(t, api.MaxDisk)
	b := slices.Repeat([]byte{7}, api.Sector)
	for range api.MaxDisk / api.Sector {
		if e := d.Append("a", b); e != api.OK {
			t.Fatal(e)
		}
	}
	tells(t, "one byte more", d.Append("b", []byte{1}), api.ErrFull)
	got, e := d.Read("a")
	if e != api.OK || !slices.Equal(got, slices.Repeat([]byte{7}, api.MaxDisk)) || d.Used() != api.MaxDisk {
		t.Errorf("%d bytes, used %d, error %d", len(got), d.Used(), e)
	}
}

func TestMoreThanAnyDiskHolds(t *testing.T) {
	d := made(t, api.MaxDisk)
	tells(t, "Append", d.Append("a", make([]byte, api.MaxDisk+1)), api.ErrFull)
	tells(t, "Append", d.Append("a", make([]byte, api.MaxDisk)), api.OK)
}

// P2.1: Sync, Rename, Remove, Cut.

func TestSyncMakesAllSafe(t *testing.T) {
	d := made(t, 100)
	fill(t, d, "a", "xyz")
	fill(t, d, "b", "w")
	tells(t, "Sync", d.Sync("a"), api.OK)
	tells(t, "Sync again", d.Sync("a"), api.OK)
	has(t, d, files{"a": {"xyz", 3}, "b": {"w", 0}})
	fill(t, d, "c", "")
	tells(t, "Sync of a file without bytes", d.Sync("c"), api.OK)
	for _, name := range []string{"d", "", "A", "aa"} {
		tells(t, "Sync of "+name, d.Sync(name), api.ErrFile)
	}
}

func TestRename(t *testing.T) {
	d := forDeeds(t)
	tells(t, "Rename to a new name", d.Rename("a", "c"), api.OK)
	has(t, d, files{"b": {"w", 0}, "c": {"xyz", 2}})
	tells(t, "Rename to the first place", d.Rename("c", "0"), api.OK)
	has(t, d, files{"0": {"xyz", 2}, "b": {"w", 0}})
	tells(t, "Rename onto itself", d.Rename("0", "0"), api.OK)
	has(t, d, files{"0": {"xyz", 2}, "b": {"w", 0}})
	tells(t, "Rename onto another", d.Rename("b", "0"), api.OK)
	has(t, d, files{"0": {"w", 0}})
	fill(t, d, "b", "new")
	has(t, d, files{"0": {"w", 0}, "b": {"new", 0}})
	tells(t, "Rename onto one behind it", d.Rename("0", "b"), api.OK)
	has(t, d, files{"b": {"w", 0}})
}

func TestRenameThatMayNotBe(t *testing.T) {
	for _, names := range [][2]string{{"c", "d"}, {"c", "c"}, {"", "c"}, {"A", "c"}, {"a", ""}, {"a", "A"}, {"a", "b/"}, {"a", strings.Repeat("n", 61)}, {"c", ""}} {
		d := forDeeds(t)
		tells(t, "Rename of "+names[0]+" to "+names[1], d.Rename(names[0], names[1]), api.ErrFile)
		has(t, d, files{"a": {"xyz", 2}, "b": {"w", 0}})
	}
}

func TestRemove(t *testing.T) {
	d := forDeeds(t)
	for _, name := range []string{"c", "", "A"} {
		tells(t, "Remove of "+name, d.Remove(name), api.ErrFile)
	}
	tells(t, "Remove", d.Remove("a"), api.OK)
	has(t, d, files{"b": {"w", 0}})
	tells(t, "Remove again", d.Remove("a"), api.ErrFile)
	fill(t, d, "a", "new")
	has(t, d, files{"a": {"new", 0}, "b": {"w", 0}})
}

func TestCut(t *testing.T) {
	for n, want := range []one{{"", 0}, {"x", 1}, {"xy", 2}, {"xyz", 3}} {
		d := forDeeds(t)
		tells(t, "Cut", d.Cut("a", n), api.OK)
		has(t, d, files{"a": want, "b": {"w", 0}})
		fill(t, d, "a", "!")
		has(t, d, files{"a": {want.text + "!", n}, "b": {"w", 0}})
	}
	d := forDeeds(t)
	for _, n := range []int{-1, 4, math.MinInt, math.MaxInt} {
		tells(t, "Cut", d.Cut("a", n), api.ErrArg)
	}
	for _, name := range []string{"c", "", "A"} {
		tells(t, "Cut of "+name, d.Cut(name, 0), api.ErrFile)
		tells(t, "Cut of "+name, d.Cut(name, -1), api.ErrFile)
	}
	has(t, d, files{"a": {"xyz", 2}, "b": {"w", 0}})
}

// P2.2: what is there.

func TestReadTellsOfNoOtherFile(t *testing.T) {
	d := forDeeds(t)
	for _, name := range []string{"c", "", "A", "aa", strings.Repeat("n", 61)} {
		if b, e := d.Read(name); b != nil || e != api.ErrFile {
			t.Errorf("Read of %q: %q, %d", name, b, e)
		}
		if d.Size(name) != 0 || d.Synced(name) != 0 {
			t.Errorf("%q: size %d, synced %d", name, d.Size(name), d.Synced(name))
		}
	}
}

func TestListRises(t *testing.T) {
	d := made(t, 100)
	names := []string{"b", "a.", "z", "a", "-", "aa", "0", ".", "a0", "9", "a-", "ab"}
	for _, name := range names {
		fill(t, d, name, name)
	}
	want := []string{"-", ".", "0", "9", "a", "a-", "a.", "a0", "aa", "ab", "b", "z"}
	if got := d.List(); !slices.Equal(got, want) {
		t.Errorf("%q", got)
	}
	for _, name := range names {
		if b, e := d.Read(name); e != api.OK || string(b) != name {
			t.Errorf("%s: %q, %d", name, b, e)
		}
	}
}

func TestWhatIsThereBurnsNothing(t *testing.T) {
	d := forDeeds(t)
	d.Arm(0)
	has(t, d, files{"a": {"xyz", 2}, "b": {"w", 0}})
	if d.Down() {
		t.Error("dark by being looked at")
	}
}

func TestWhatIsThereOnADarkDisk(t *testing.T) {
	d := forDeeds(t)
	d.Arm(0)
	tells(t, "Sync", d.Sync("b"), api.ErrDown)
	if !slices.Equal(d.List(), []string{"a", "b"}) || d.Size("a") != 3 || d.Synced("a") != 2 || d.Used() != 4 {
		t.Errorf("%q, %d, %d, %d", d.List(), d.Size("a"), d.Synced("a"), d.Used())
	}
	if b, e := d.Read("a"); b != nil || e != api.ErrDown {
		t.Errorf("%q, %d", b, e)
	}
}

// R3: memory.

func TestHandedInIsNotKept(t *testing.T) {
	d := made(t, 100)
	b := []byte("xyz")
	tells(t, "Append", d.Append("a", b), api.OK)
	tells(t, "Append of the same", d.Append("b", b), api.OK)
	copy(b, "!!!")
	has(t, d, files{"a": {"xyz", 0}, "b": {"xyz", 0}})
	fill(t, d, "a", "uv")
	if string(b) != "!!!" {
		t.Errorf("%q", b)
	}
}

func TestSpareRoomHandedInIsLeftAlone(t *testing.T) {
	d := made(t, 1000)
	whole := []byte("xyz and more")
	tells(t, "Append", d.Append("a", whole[:3]), api.OK)
	fill(t, d, "a", "????")
	if string(whole) != "xyz and more" {
		t.Errorf("%q", whole)
	}
}

func TestHandedOutIsNew(t *testing.T) {
	d := made(t, 1000)
	fill(t, d, "a", "xyz")
	fill(t, d, "b", "")
	first, _ := d.Read("a")
	second, _ := d.Read("a")
	spare := first[:cap(first)]
	for i := range spare {
		spare[i] = '!'
	}
	if string(second) != "xyz" {
		t.Errorf("%q", second)
	}
	fill(t, d, "a", "uv")
	has(t, d, files{"a": {"xyzuv", 0}, "b": {"", 0}})
	names := d.List()
	slices.Reverse(names)
	_ = append(names[:0], "q")
	has(t, d, files{"a": {"xyzuv", 0}, "b": {"", 0}})
}

func TestEmptyReadIsNew(t *testing.T) {
	d := made(t, 1000)
	fill(t, d, "a", "xyzuvw")
	d.Crash(nil, nil)
	b, _ := d.Read("a")
	fill(t, d, "a", "xyz")
	for i := range b[:cap(b)] {
		b[:cap(b)][i] = '!'
	}
	has(t, d, files{"a": {"xyz", 0}})
}

func TestCrashLeavesItsListsAlone(t *testing.T) {
	d := forDeeds(t)
	keeps, torn := []int{-5, 9, 7, 1}, []int{-7, -1, 3}
	d.Crash(keeps[:2], torn[:1])
	if !slices.Equal(keeps, []int{-5, 9, 7, 1}) || !slices.Equal(torn, []int{-7, -1, 3}) {
		t.Errorf("%v, %v", keeps, torn)
	}
}

// Cutting a file off, and going on, touches no bytes of another one, nor those of one that was moved.
func TestFilesShareNoMemory(t *testing.T) {
	d := made(t, 1000)
	fill(t, d, "a", "xyzuvw")
	tells(t, "Cut", d.Cut("a", 2), api.OK)
	tells(t, "Rename", d.Rename("a", "b"), api.OK)
	fill(t, d, "a", "1234")
	fill(t, d, "b", "5678")
	has(t, d, files{"a": {"1234", 0}, "b": {"xy5678", 2}})
}

// P2.3: the power.

func TestFuseBurnsByDeeds(t *testing.T) {
	for what, deed := range deeds() {
		d := forDeeds(t)
		d.Arm(1)
		tells(t, what, deed(d), api.OK)
		has(t, d, deedsLeave()[what])
		tells(t, "Append behind "+what, d.Append("a", nil), api.ErrDown)
	}
}

func TestDeedThatMakesDarkIsNotDone(t *testing.T) {
	for what, deed := range deeds() {
		d := forDeeds(t)
		d.Arm(0)
		tells(t, what, deed(d), api.ErrDown)
		if !d.Down() {
			t.Errorf("%s: not dark", what)
		}
		if !slices.Equal(d.List(), []string{"a", "b"}) || d.Used() != 4 || d.Synced("a") != 2 || d.Synced("b") != 0 {
			t.Errorf("%s: %q, used %d, synced %d and %d", what, d.List(), d.Used(), d.Synced("a"), d.Synced("b"))
		}
		d.Crash([]int{9, 9}, nil)
		has(t, d, files{"a": {"xyz", 3}, "b": {"w", 1}})
	}
}

func TestFuseOfMany(t *testing.T) {
	for n := range 20 {
		d := made(t, 100)
		d.Arm(n)
		for range n {
			fill(t, d, "a", "x")
		}
		tells(t, "Append behind the fuse", d.Append("a", []byte("x")), api.ErrDown)
		if d.Size("a") != n || !d.Down() {
			t.Errorf("fuse %d: %d bytes, %v", n, d.Size("a"), d.Down())
		}
	}
}

func TestArmBelowNoughtIsNought(t *testing.T) {
	for _, n := range []int{-1, -2, math.MinInt} {
		d := forDeeds(t)
		d.Arm(n)
		if d.Down() {
			t.Errorf("Arm(%d) makes dark", n)
		}
		tells(t, "Sync", d.Sync("a"), api.ErrDown)
	}
}

func TestArmAgain(t *testing.T) {
	d := forDeeds(t)
	d.Arm(0)
	d.Arm(2)
	tells(t, "Sync", d.Sync("a"), api.OK)
	d.Arm(1)
	tells(t, "Sync", d.Sync("a"), api.OK)
	tells(t, "Sync", d.Sync("a"), api.ErrDown)
	d = forDeeds(t)
	d.Arm(math.MaxInt)
	tells(t, "Sync", d.Sync("a"), api.OK)
}

func TestRefusedDeedsBurnNothing(t *testing.T) {
	d := made(t, 4)
	fill(t, d, "a", "xyz")
	d.Arm(1)
	tells(t, "Append", d.Append("A", nil), api.ErrFile)
	tells(t, "Append", d.Append("a", []byte("uv")), api.ErrFull)
	tells(t, "Sync", d.Sync("b"), api.ErrFile)
	tells(t, "Rename", d.Rename("b", "a"), api.ErrFile)
	tells(t, "Rename", d.Rename("a", "A"), api.ErrFile)
	tells(t, "Remove", d.Remove("b"), api.ErrFile)
	tells(t, "Cut", d.Cut("b", 0), api.ErrFile)
	tells(t, "Cut", d.Cut("a", 4), api.ErrArg)
	_, e := d.Read("b")
	tells(t, "Read", e, api.ErrFile)
	has(t, d, files{"a": {"xyz", 0}})
	fill(t, d, "a", "u")
	tells(t, "refused by a disk whose fuse is burnt", d.Sync("b"), api.ErrFile)
	tells(t, "Append", d.Append("a", []byte("v")), api.ErrFull)
	tells(t, "Cut", d.Cut("a", -1), api.ErrArg)
	if d.Down() {
		t.Error("dark by what was refused")
	}
	tells(t, "Sync", d.Sync("a"), api.ErrDown)
}

func TestDarkDisk(t *testing.T) {
	d := forDeeds(t)
	d.Arm(0)
	tells(t, "Sync", d.Sync("a"), api.ErrDown)
	for range 2 {
		for what, deed := range deeds() {
			tells(t, what, deed(d), api.ErrDown)
		}
		// ErrDown counts ahead of whatever else is wrong.
		tells(t, "Append", d.Append("A", make([]byte, 200)), api.ErrDown)
		tells(t, "Append", d.Append("a", make([]byte, 200)), api.ErrDown)
		tells(t, "Sync", d.Sync("c"), api.ErrDown)
		tells(t, "Rename", d.Rename("c", "A"), api.ErrDown)
		tells(t, "Remove", d.Remove("c"), api.ErrDown)
		tells(t, "Cut", d.Cut("c", -1), api.ErrDown)
		_, e := d.Read("c")
		tells(t, "Read", e, api.ErrDown)
		d.Arm(5)
		if !d.Down() {
			t.Error("not dark any more")
		}
	}
	d.Crash(nil, nil)
	if d.Down() {
		t.Error("dark behind a crash")
	}
	// Arm of a dark disk has done nothing: there is no fuse.
	for range 20 {
		tells(t, "Sync", d.Sync("a"), api.OK)
	}
}

func TestCrashTakesTheFuse(t *testing.T) {
	for _, fuse := range []int{0, 1, 5} {
		d := forDeeds(t)
		d.Arm(fuse)
		d.Crash(nil, nil)
		for range 20 {
			tells(t, "Append", d.Append("a", []byte("x")), api.OK)
		}
	}
}

// left answers what a crash leaves of a file of so many bytes, so many of them safe: the words of the chapter, byte by byte.
func left(b []byte, safe, keep, tear int) []byte {
	var out []byte
	for i, c := range b {
		if i >= safe && keep <= 0 {
			break
		}
		if i >= safe {
			keep--
		}
		out = append(out, c)
	}
	for tear > 0 && len(out)%api.Sector != 0 && len(out) < len(b) {
		out = append(out, 0)
		tear--
	}
	return out
}

func TestCrashLeavesWhatTheWordsSay(t *testing.T) {
	numbers := []int{math.MinInt, -1, 0, 1, 2, 3, 4, 5, 9, 63, 64, 65, 128, math.MaxInt}
	for _, size := range []int{0, 1, 5, 63, 64, 65, 69, 127, 128, 129, 200} {
		for _, safe := range []int{0, 1, 3, 60, 63, 64, 65, 128, 200} {
			for _, keep := range numbers {
				for _, tear := range numbers {
					crashOnce(t, size, min(safe, size), keep, tear)
				}
			}
		}
	}
}

func crashOnce(t *testing.T, size, safe, keep, tear int) {
	t.Helper()
	d := made(t, 1000)
	b := []byte(strings.Repeat("x", size))
	for i := range b {
		b[i] = byte(i%250 + 1)
	}
	d.Append("f", b[:safe])
	d.Sync("f")
	d.Append("f", b[safe:])
	d.Crash([]int{keep}, []int{tear})
	want := left(b, safe, keep, tear)
	got, e := d.Read("f")
	if e != api.OK || !slices.Equal(got, want) || d.Synced("f") != len(want) {
		t.Fatalf("%d bytes, %d safe, keeps %d, tears %d: %v (error %d, synced %d), want %v", size, safe, keep, tear, got, e, d.Synced("f"), want)
	}
}

func TestTornAtASectorsEdge(t *testing.T) {
	text := strings.Repeat("s", 200)
	for _, c := range []struct{ safe, keep, tear, kept, noughts int }{
		{64, 0, 9, 64, 0},   // no sector was begun
		{60, 4, 9, 64, 0},   // the one that was begun is full
		{0, 0, 9, 0, 0},     // nothing was begun
		{0, 128, 9, 128, 0}, // two are full
		{63, 0, 9, 63, 1},
		{64, 1, 99, 65, 63},
		{0, 1, 62, 1, 62},
		{0, 1, 63, 1, 63},
		{0, 1, 64, 1, 63},
		{190, 0, 99, 190, 2},
		{192, 1, 99, 193, 7}, // no further than the file went
		{199, 0, 99, 199, 1},
		{200, 0, 99, 200, 0},
	} {
		d := made(t, 1000)
		fill(t, d, "a", text[:c.safe])
		tells(t, "Sync", d.Sync("a"), api.OK)
		fill(t, d, "a", text[c.safe:])
		d.Crash([]int{c.keep}, []int{c.tear})
		has(t, d, files{"a": {text[:c.kept] + strings.Repeat("\x00", c.noughts), c.kept + c.noughts}})
	}
}

func TestCrashGoesByRisingNames(t *testing.T) {
	whole := func() *disk.Disk {
		d := made(t, 100)
		for _, name := range []string{"c", "a", "d", "b"} {
			fill(t, d, name, "xyz")
		}
		return d
	}
	d := whole()
	d.Crash([]int{1, -1, 2}, []int{0, 9})
	has(t, d, files{"a": {"x", 1}, "b": {"", 0}, "c": {"xy", 2}, "d": {"", 0}})
	d = whole()
	d.Crash([]int{1, 1, 1}, []int{-9, 1, 2, 9, 9, 9})
	has(t, d, files{"a": {"x", 1}, "b": {"x\x00", 2}, "c": {"x\x00\x00", 3}, "d": {"", 0}})
	d = whole()
	d.Crash([]int{9, 9, 9, 9, 9}, []int{9, 9, 9, 9, 9})
	has(t, d, files{"a": {"xyz", 3}, "b": {"xyz", 3}, "c": {"xyz", 3}, "d": {"xyz", 3}})
	d = whole()
	tells(t, "Rename", d.Rename("b", "e"), api.OK)
	d.Crash([]int{0, 1, 2, 3}, nil)
	has(t, d, files{"a": {"", 0}, "c": {"x", 1}, "d": {"xy", 2}, "e": {"xyz", 3}})
}

func TestCrashTwiceIsOnce(t *testing.T) {
	d := forDeeds(t)
	d.Crash([]int{0, 1}, []int{1})
	d.Crash([]int{1, 0}, []int{9, 9})
	has(t, d, files{"a": {"xy\x00", 3}, "b": {"w", 1}})
}

func TestCrashOfNoFiles(t *testing.T) {
	d := made(t, 10)
	d.Crash([]int{1, 2}, []int{3})
	has(t, d, files{})
}

// R5: no disk, and one that New did not make.

func TestNoDisk(t *testing.T) {
	for what, d := range map[string]*disk.Disk{"nil": nil, "unmade": new(disk.Disk)} {
		for deed, do := range deeds() {
			tells(t, what+" "+deed, do(d), api.ErrNil)
		}
		tells(t, what+" Append", d.Append("A", make([]byte, 1000)), api.ErrNil)
		tells(t, what+" Rename", d.Rename("A", ""), api.ErrNil)
		tells(t, what+" Cut", d.Cut("A", -1), api.ErrNil)
		if b, e := d.Read("a"); b != nil || e != api.ErrNil {
			t.Errorf("%s: Read: %q, %d", what, b, e)
		}
		d.Arm(0)
		d.Arm(-1)
		d.Crash(nil, nil)
		d.Crash([]int{1}, []int{1})
		if d.List() != nil || d.Size("a") != 0 || d.Synced("a") != 0 || d.Used() != 0 || d.Down() {
			t.Errorf("%s: %q, %d, %d, %d, %v", what, d.List(), d.Size("a"), d.Synced("a"), d.Used(), d.Down())
		}
		tells(t, what+" Sync", d.Sync("a"), api.ErrNil)
	}
}

// A copy of a disk is the same disk: nothing that is done to one of them makes the other one fall.
func TestCopyOfADisk(t *testing.T) {
	d := made(t, 100)
	other := *d
	fill(t, d, "a", "x")
	fill(t, &other, "b", "y")
	tells(t, "Remove", d.Remove("a"), api.OK)
	for _, one := range []*disk.Disk{d, &other} {
		has(t, one, files{"b": {"y", 0}})
	}
}

// P2.4: what follows, of a disk that is told by the words of the chapter beside the one that is asked.

type modelFile struct {
	b    []byte
	safe int
}

// model is a disk, told as plainly as may be.
type model struct {
	most  int
	files map[string]modelFile
	fuse  int
	armed bool
	dark  bool
}

func (m *model) used() int {
	n := 0
	for _, f := range m.files {
		n += len(f.b)
	}
	return n
}

func right(name string) bool {
	return len(name) >= 1 && len(name) <= 60 && strings.Trim(name, "abcdefghijklmnopqrstuvwxyz0123456789.-") == ""
}

// deed answers refused, or ErrDown and dark, or has what is told done.
func (m *model) deed(refused api.Errno, what func()) api.Errno {
	switch {
	case m.dark:
		return api.ErrDown
	case refused != api.OK:
		return refused
	case m.armed && m.fuse == 0:
		m.armed, m.dark = false, true
		return api.ErrDown
	}
	m.fuse--
	what()
	return api.OK
}

func (m *model) Append(name string, b []byte) api.Errno {
	f, there := m.files[name]
	var refused api.Errno
	switch {
	case !right(name):
		refused = api.ErrFile
	case m.used()+len(b) > m.most || !there && len(m.files) >= 200:
		refused = api.ErrFull
	}
	return m.deed(refused, func() { m.files[name] = modelFile{slices.Concat(f.b, b), f.safe} })
}

func (m *model) no(name string) api.Errno {
	if _, there := m.files[name]; !there {
		return api.ErrFile
	}
	return api.OK
}

func (m *model) Sync(name string) api.Errno {
	return m.deed(m.no(name), func() { m.files[name] = modelFile{m.files[name].b, len(m.files[name].b)} })
}

func (m *model) Rename(from, to string) api.Errno {
	refused := m.no(from)
	if !right(to) {
		refused = api.ErrFile
	}
	return m.deed(refused, func() {
		f := m.files[from]
		delete(m.files, from)
		m.files[to] = f
	})
}

func (m *model) Remove(name string) api.Errno {
	return m.deed(m.no(name), func() { delete(m.files, name) })
}

func (m *model) Cut(name string, n int) api.Errno {
	refused := m.no(name)
	if refused == api.OK && (n < 0 || n > len(m.files[name].b)) {
		refused = api.ErrArg
	}
	return m.deed(refused, func() { m.files[name] = modelFile{slices.Clone(m.files[name].b[:n]), n} })
}

func (m *model) Arm(n int) {
	if !m.dark {
		m.fuse, m.armed = max(n, 0), true
	}
}

func (m *model) Crash(keeps, torn []int) {
	for i, name := range slices.Sorted(maps.Keys(m.files)) {
		keep, tear := 0, 0
		if i < len(keeps) {
			keep = keeps[i]
		}
		if i < len(torn) {
			tear = torn[i]
		}
		b := left(m.files[name].b, m.files[name].safe, keep, tear)
		m.files[name] = modelFile{b, len(b)}
	}
	m.dark, m.armed = false, false
}

// same fails the test unless the disk has what the model has.
func (m *model) same(t *testing.T, d *disk.Disk) {
	t.Helper()
	if d.Down() != m.dark || d.Used() != m.used() || !slices.Equal(d.List(), slices.Sorted(maps.Keys(m.files))) {
		t.Fatalf("dark %v, used %d, files %q; want %v, %d, %v", d.Down(), d.Used(), d.List(), m.dark, m.used(), m.files)
	}
	for name, f := range m.files {
		if d.Size(name) != len(f.b) || d.Synced(name) != f.safe {
			t.Fatalf("%s: %d bytes, %d synced; want %d, %d", name, d.Size(name), d.Synced(name), len(f.b), f.safe)
		}
		b, e := d.Read(name)
		if m.dark && (e != api.ErrDown || b != nil) || !m.dark && (e != api.OK || !slices.Equal(b, f.b)) {
			t.Fatalf("%s: %v, error %d; want %v", name, b, e, f.b)
		}
	}
}

// player is what a disk and its model are both asked.
type player interface {
	Append(name string, b []byte) api.Errno
	Sync(name string) api.Errno
	Rename(from, to string) api.Errno
	Remove(name string) api.Errno
	Cut(name string, n int) api.Errno
	Arm(n int)
	Crash(keeps, torn []int)
}

func someNumbers(r *rand.Rand) []int {
	out := make([]int, r.Intn(6))
	for i := range out {
		out[i] = r.Intn(150) - 10
	}
	return out
}

// someCall answers a call by chance, to be done to both.
func someCall(r *rand.Rand) func(player) api.Errno {
	names := []string{"a", "b", "c", "d", "e-1", "e.2", "", "A"}
	name, to, n := names[r.Intn(len(names))], names[r.Intn(len(names))], r.Intn(130)-5
	b := make([]byte, max(0, r.Intn(100)-5))
	r.Read(b)
	keeps, torn := someNumbers(r), someNumbers(r)
	switch r.Intn(16) {
	case 0, 1, 2, 3, 4, 5:
		return func(p player) api.Errno { return p.Append(name, b) }
	case 6, 7:
		return func(p player) api.Errno { return p.Sync(name) }
	case 8, 9:
		return func(p player) api.Errno { return p.Rename(name, to) }
	case 10:
		return func(p player) api.Errno { return p.Remove(name) }
	case 11, 12:
		return func(p player) api.Errno { return p.Cut(name, n) }
	case 13:
		return func(p player) api.Errno { p.Arm(n % 12); return api.OK }
	}
	return func(p player) api.Errno { p.Crash(keeps, torn); return api.OK }
}

func TestDiskAndItsModel(t *testing.T) {
	for seed := range int64(300) {
		r := rand.New(rand.NewSource(seed))
		most := []int{0, 60, 300, 1000, api.MaxDisk}[r.Intn(5)]
		d, m := made(t, most), &model{most: most, files: map[string]modelFile{}}
		for range 200 {
			call := someCall(r)
			if got, want := call(d), call(m); got != want {
				t.Fatalf("seed %d: error %d, want %d", seed, got, want)
			}
			m.same(t, d)
		}
	}
}

// story is deeds of many kinds, one behind the other; each goes.
func story() []func(player) api.Errno {
	many := []byte(strings.Repeat("m", 70))
	return []func(player) api.Errno{
		func(p player) api.Errno { return p.Append("a", []byte("xyz")) },
		func(p player) api.Errno { return p.Sync("a") },
		func(p player) api.Errno { return p.Append("a", many) },
		func(p player) api.Errno { return p.Append("b", many) },
		func(p player) api.Errno { return p.Cut("a", 66) },
		func(p player) api.Errno { return p.Append("a", []byte("uvw")) },
		func(p player) api.Errno { return p.Rename("b", "c") },
		func(p player) api.Errno { return p.Append("b", []byte("new")) },
		func(p player) api.Errno { return p.Rename("a", "b") },
		func(p player) api.Errno { return p.Remove("c") },
		func(p player) api.Errno { return p.Append("b", many) },
	}
}

// Wherever the power fails, and whatever is kept and torn: the deeds ahead were done wholly, the one that made the disk dark not at all, safe bytes stand, and others where they stood, or noughts.
func TestWhateverACrashKeepsAndTears(t *testing.T) {
	numbers := []int{-1, 0, 1, 2, 61, 62, 63, 64, 65, 500}
	for fuse := range len(story()) {
		for _, keep := range numbers {
			for _, tear := range numbers {
				d, m := made(t, 1000), &model{most: 1000, files: map[string]modelFile{}}
				d.Arm(fuse)
				for i, deed := range story() {
					want := api.OK
					if i >= fuse {
						want = api.ErrDown
					} else {
						tells(t, "deed of the model", deed(m), api.OK)
					}
					tells(t, "deed", deed(d), want)
				}
				was := m.files
				d.Crash([]int{keep, keep, keep}, []int{tear, tear, tear})
				standsWhereItStood(t, d, was)
			}
		}
	}
}

func standsWhereItStood(t *testing.T, d *disk.Disk, was map[string]modelFile) {
	t.Helper()
	if !slices.Equal(d.List(), slices.Sorted(maps.Keys(was))) {
		t.Fatalf("files %q, want %v", d.List(), was)
	}
	for name, f := range was {
		b, e := d.Read(name)
		if e != api.OK || len(b) < f.safe || len(b) > len(f.b) || !slices.Equal(b[:f.safe], f.b[:f.safe]) || d.Synced(name) != len(b) {
			t.Fatalf("%s: %q, error %d, of %q, %d safe", name, b, e, f.b, f.safe)
		}
		for i, c := range b {
			if c != f.b[i] && c != 0 {
				t.Fatalf("%s: byte %d is %d, was %d", name, i, c, f.b[i])
			}
		}
	}
}

// What is done to one file, or left of it, hangs on no other one.
func TestFilesHaveNothingToDoWithEachOther(t *testing.T) {
	for what, deed := range deeds() {
		d := forDeeds(t)
		fill(t, d, "z", "apart")
		tells(t, "Cut", d.Cut("z", 5), api.OK)
		fill(t, d, "z", "!")
		tells(t, what, deed(d), api.OK)
		if b, e := d.Read("z"); e != api.OK || string(b) != "apart!" || d.Synced("z") != 5 {
			t.Errorf("%s: %q, %d, %d", what, b, e, d.Synced("z"))
		}
	}
}

// The examples of the chapter.
func TestExamples(t *testing.T) {
	d := made(t, 1000)
	fill(t, d, "a", "xyz")
	tells(t, "Sync", d.Sync("a"), api.OK)
	fill(t, d, "a", "uv")
	fill(t, d, "b", "w")
	has(t, d, files{"a": {"xyzuv", 3}, "b": {"w", 0}})
	d.Crash([]int{1}, nil)
	has(t, d, files{"a": {"xyzu", 4}, "b": {"", 0}})
	tells(t, "Rename", d.Rename("a", "b"), api.OK)
	has(t, d, files{"b": {"xyzu", 4}})
	d.Arm(1)
	tells(t, "Sync", d.Sync("b"), api.OK)
	tells(t, "Remove", d.Remove("b"), api.ErrDown)
	_, e := d.Read("b")
	tells(t, "Read", e, api.ErrDown)
	d.Crash(nil, []int{9})
	has(t, d, files{"b": {"xyzu", 4}})
	tells(t, "Remove", d.Remove("b"), api.OK)
	fill(t, d, "c", strings.Repeat("s", 60))
	tells(t, "Sync", d.Sync("c"), api.OK)
	fill(t, d, "c", "123456789")
	d.Crash([]int{2}, []int{9})
	has(t, d, files{"c": {strings.Repeat("s", 60) + "12\x00\x00", 64}})
	tells(t, "Append", d.Append("A", nil), api.ErrFile)
}
