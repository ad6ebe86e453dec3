package disk

import (
	"bytes"
	"math"
	"reflect"
	"slices"
	"strconv"
	"strings"
	"testing"

	"buttress/api"
)

// draws are numbers that look like chance, the same in every run.
type draws uint64

func (d *draws) next() uint64 {
	*d = *d*6364136223846793005 + 1442695040888963407
	x := uint64(*d)
	x ^= x >> 33
	x *= 0xff51afd7ed558ccd
	return x ^ x>>29
}

// below is a number from 0 below n.
func (d *draws) below(n int) int {
	return int(d.next() >> 1 % uint64(n))
}

// fill is a list of so many bytes.
func (d *draws) fill(many int) []byte {
	list := make([]byte, many)
	for i := range list {
		list[i] = byte(d.next())
	}
	return list
}

// of is a sector that is x all over.
func of(x byte) []byte {
	return bytes.Repeat([]byte{x}, 64)
}

// is fails the test unless an answer is that number.
func is(t *testing.T, what string, got api.Errno, want api.Errno) {
	t.Helper()
	if got != want {
		t.Errorf("%s: %d, want %d", what, got, want)
	}
}

// does fails the test unless all answers are OK.
func does(t *testing.T, answers ...api.Errno) {
	t.Helper()
	for i, e := range answers {
		if e != api.OK {
			t.Fatalf("call %d: %d", i, e)
		}
	}
}

// holds fails the test unless the disk's files are those: a row each of a name, then the first bytes of its sectors.
func holds(t *testing.T, what string, d *Disk, want ...string) {
	t.Helper()
	var got []string
	for _, f := range d.Files() {
		row := f.Name
		for at := 0; at < len(f.Data); at += 64 {
			row += " " + strconv.Itoa(int(f.Data[at]))
			if !bytes.Equal(f.Data[at:at+64], of(f.Data[at])) {
				t.Errorf("%s: %s has a sector of two kinds", what, f.Name)
			}
		}
		got = append(got, row)
	}
	if !slices.Equal(got, want) {
		t.Errorf("%s: %q, want %q", what, got, want)
	}
}

// sameFiles says whether two lists of files are the same; nil and empty bytes are.
func sameFiles(a, b []api.File) bool {
	return slices.EqualFunc(a, b, func(x, y api.File) bool {
		return x.Name == y.Name && bytes.Equal(x.Data, y.Data)
	})
}

// P7.1

func TestNewHasNoFiles(t *testing.T) {
	d := New()
	if d == nil || d.Dead() || len(d.Names()) != 0 || len(d.Files()) != 0 {
		t.Fatal(d)
	}
	_, e := d.Size("a")
	is(t, "Size", e, api.ErrFile)
}

func TestTwoDisksKnowNothingOfOneAnother(t *testing.T) {
	a, b := New(), New()
	does(t, a.Write("a", 0, of(1)))
	a.Arm(0)
	a.Remove("a")
	if !a.Dead() || b.Dead() || len(b.Names()) != 0 {
		t.Error(a.Dead(), b.Dead(), b.Names())
	}
}

func TestWriteThenRead(t *testing.T) {
	var chance draws
	d := New()
	data := chance.fill(64)
	does(t, d.Write("a", 0, data), d.Write("a", 2, of(7)), d.Write("b", 1, of(8)))
	x, e := d.Read("a", 0)
	if !bytes.Equal(x, data) || e != api.OK {
		t.Error(x, e)
	}
	x, e = d.Read("a", 1)
	if !bytes.Equal(x, of(0)) || e != api.OK {
		t.Error("never written:", x, e)
	}
	does(t, d.Write("a", 0, of(9)))
	holds(t, "written again", d, "a 9 0 7", "b 0 8")
	n, e := d.Size("a")
	if n != 3 || e != api.OK {
		t.Error(n, e)
	}
}

func TestWriteIsOneSectorAlone(t *testing.T) {
	d := New()
	for at := range 10 {
		does(t, d.Write("a", at, of(byte(at))))
	}
	does(t, d.Sync("a"), d.Write("a", 4, of(44)))
	holds(t, "one sector", d, "a 0 1 2 3 44 5 6 7 8 9")
}

func TestNames(t *testing.T) {
	may := []string{"a", "\x00", "\xff", "a/b", " ", strings.Repeat("x", 64), strings.Repeat("é", 32), strings.Repeat("\xff", 64)}
	for _, name := range may {
		d := New()
		is(t, "Write of "+name, d.Write(name, 0, of(1)), api.OK)
		if !slices.Equal(d.Names(), []string{name}) {
			t.Errorf("%q, want %q", d.Names(), name)
		}
		does(t, d.Rename(name, "other"))
		is(t, "Rename to "+name, d.Rename("other", name), api.OK)
	}
	for _, name := range []string{"", strings.Repeat("x", 65), strings.Repeat("é", 33), strings.Repeat("\x00", 300)} {
		d := New()
		is(t, "Write of "+name, d.Write(name, 0, of(1)), api.ErrArg)
		_, e := d.Read(name, 0)
		is(t, "Read of "+name, e, api.ErrFile)
		_, e = d.Size(name)
		is(t, "Size of "+name, e, api.ErrFile)
		is(t, "Sync of "+name, d.Sync(name), api.ErrFile)
		is(t, "Remove of "+name, d.Remove(name), api.ErrFile)
		is(t, "Rename from "+name, d.Rename(name, "a"), api.ErrFile)
		does(t, d.Write("a", 0, of(1)))
		is(t, "Rename to "+name, d.Rename("a", name), api.ErrArg)
		holds(t, "refused", d, "a 1")
	}
}

func TestWriteOfWhatMayNotBe(t *testing.T) {
	d := New()
	for _, sector := range []int{-1, 65536, 65537, math.MinInt, math.MaxInt, 1 << 32} {
		is(t, "sector "+strconv.Itoa(sector), d.Write("a", sector, of(1)), api.ErrArg)
	}
	for _, many := range []int{0, 1, 63, 65, 128} {
		is(t, "bytes "+strconv.Itoa(many), d.Write("a", 0, make([]byte, many)), api.ErrArg)
		is(t, "bytes with room behind them", d.Write("a", 0, make([]byte, many, 64+many)), api.ErrArg)
	}
	is(t, "nil", d.Write("a", 0, nil), api.ErrArg)
	holds(t, "refused", d)
	d.Crash([]byte{1, 255})
	holds(t, "refused, then a crash", d)
	does(t, d.Write("a", 0, of(1)))
	is(t, "of a file that is there", d.Write("a", -1, of(2)), api.ErrArg)
	holds(t, "of a file that is there", d, "a 1")
}

func TestWriteAtBothEnds(t *testing.T) {
	d := New()
	does(t, d.Write("a", 65535, of(1)), d.Write("a", 0, of(2)))
	n, e := d.Size("a")
	if n != 65536 || e != api.OK {
		t.Error(n, e)
	}
	x, e := d.Read("a", 65535)
	if !bytes.Equal(x, of(1)) || e != api.OK {
		t.Error(x, e)
	}
	f := d.Files()
	if len(f) != 1 || len(f[0].Data) != 65536*64 || f[0].Data[0] != 2 || f[0].Data[64] != 0 || f[0].Data[65536*64-1] != 1 {
		t.Error("Files")
	}
}

func TestWriteOfTooManyFiles(t *testing.T) {
	d := New()
	for i := range 256 {
		does(t, d.Write(strconv.Itoa(i), 0, of(byte(i))))
	}
	is(t, "one more", d.Write("more", 0, of(1)), api.ErrFull)
	is(t, "one more, and no sector", d.Write("more", -1, of(1)), api.ErrArg)
	is(t, "one that is there", d.Write("255", 1, of(1)), api.OK)
	is(t, "another name", d.Rename("0", "zero"), api.OK)
	is(t, "the one that had that name", d.Write("0", 0, of(1)), api.ErrFull)
	if len(d.Names()) != 256 {
		t.Error(len(d.Names()))
	}
	does(t, d.Remove("7"))
	is(t, "in the place of one that is gone", d.Write("more", 0, of(1)), api.OK)
	does(t, d.Rename("8", "9"))
	is(t, "in the place of one that is renamed upon", d.Write("one more", 0, of(1)), api.OK)
	is(t, "yet another", d.Write("yet another", 0, of(1)), api.ErrFull)
}

func TestLongFilesOfOneSectorTakeNoRoom(t *testing.T) {
	d := New()
	for i := range 256 {
		does(t, d.Write(strconv.Itoa(i), 65535, of(byte(i))))
		does(t, d.Sync(strconv.Itoa(i)))
	}
	d.Crash(nil)
	x, e := d.Read("200", 65535)
	if !bytes.Equal(x, of(200)) || e != api.OK {
		t.Error(x, e)
	}
}

func TestReadOfWhatIsNotThere(t *testing.T) {
	d := New()
	does(t, d.Write("a", 2, of(1)))
	for _, sector := range []int{-1, 3, 4, 65535, 65536, math.MinInt, math.MaxInt} {
		x, e := d.Read("a", sector)
		if len(x) != 0 || e != api.ErrArg {
			t.Error(sector, x, e)
		}
		x, e = d.Read("b", sector)
		if len(x) != 0 || e != api.ErrFile {
			t.Error(sector, x, e)
		}
	}
}

func TestRename(t *testing.T) {
	d := New()
	does(t, d.Write("a", 0, of(1)), d.Write("b", 0, of(2)), d.Write("b", 1, of(3)))
	does(t, d.Rename("a", "c"))
	holds(t, "to a new name", d, "b 2 3", "c 1")
	does(t, d.Rename("c", "b"))
	holds(t, "to the name of another", d, "b 1")
	does(t, d.Rename("b", "b"))
	holds(t, "to its own name", d, "b 1")
	is(t, "of none", d.Rename("a", "b"), api.ErrFile)
	is(t, "of none to its own name", d.Rename("a", "a"), api.ErrFile)
	is(t, "of none to no name", d.Rename("a", ""), api.ErrFile)
	is(t, "to no name", d.Rename("b", ""), api.ErrArg)
	holds(t, "refused", d, "b 1")
	does(t, d.Write("c", 0, of(4)), d.Write("b", 1, of(5)))
	holds(t, "the old name is another file's", d, "b 1 5", "c 4")
}

func TestRemove(t *testing.T) {
	d := New()
	does(t, d.Write("a", 0, of(1)), d.Write("a", 1, of(2)), d.Write("b", 0, of(3)), d.Remove("a"))
	holds(t, "removed", d, "b 3")
	is(t, "again", d.Remove("a"), api.ErrFile)
	does(t, d.Write("a", 0, of(4)))
	holds(t, "a new one has nothing of the old one", d, "a 4", "b 3")
}

func TestNamesRiseByBytes(t *testing.T) {
	d := New()
	names := []string{"b", "é", "a", "B", "ab", "\xff", "a\x00", "z", "\x00", "10", "9", "_"}
	for _, name := range names {
		does(t, d.Write(name, 0, of(name[0])))
	}
	want := slices.Clone(names)
	slices.SortFunc(want, func(a, b string) int { return bytes.Compare([]byte(a), []byte(b)) })
	if !slices.Equal(d.Names(), want) {
		t.Errorf("%q, want %q", d.Names(), want)
	}
	for i, f := range d.Files() {
		if f.Name != want[i] || !bytes.Equal(f.Data, of(want[i][0])) {
			t.Errorf("%d: %q", i, f)
		}
	}
}

func TestMemoryIsTheCallersOwn(t *testing.T) {
	d := New()
	data := of(1)
	does(t, d.Write("a", 0, data))
	clear(data)
	x, _ := d.Read("a", 0)
	clear(x)
	f := d.Files()
	clear(f[0].Data)
	n := d.Names()
	n[0] = "other"
	holds(t, "changed by the caller", d, "a 1")
	does(t, d.Sync("a"))
	x, _ = d.Read("a", 0)
	clear(x)
	clear(d.Files()[0].Data)
	holds(t, "safe, changed by the caller", d, "a 1")
	data = of(2)
	keep := []byte{1, 255, 0}
	does(t, d.Write("a", 0, data))
	clear(data)
	d.Crash(keep)
	holds(t, "kept", d, "a 2")
	if !bytes.Equal(keep, []byte{1, 255, 0}) {
		t.Error(keep)
	}
	data = of(3)
	does(t, d.Write("a", 1, data))
	if !bytes.Equal(data, of(3)) {
		t.Error("what is handed in is changed")
	}
	x, _ = d.Read("a", 0)
	_ = append(x, of(9)...)
	holds(t, "behind what is answered", d, "a 2 3")
}

func TestDisksThatNewDidNotGive(t *testing.T) {
	for _, d := range []*Disk{nil, {}, new(Disk)} {
		for range 2 {
			is(t, "Write", d.Write("a", 0, of(1)), api.ErrNil)
			is(t, "Write of what may not be", d.Write("", -1, nil), api.ErrNil)
			x, e := d.Read("a", 0)
			is(t, "Read", e, api.ErrNil)
			n, e := d.Size("a")
			is(t, "Size", e, api.ErrNil)
			is(t, "Sync", d.Sync("a"), api.ErrNil)
			is(t, "Rename", d.Rename("a", ""), api.ErrNil)
			is(t, "Remove", d.Remove("a"), api.ErrNil)
			if len(x) != 0 || n != 0 || len(d.Names()) != 0 || len(d.Files()) != 0 || d.Dead() {
				t.Error(x, n, d.Names(), d.Files(), d.Dead())
			}
			d.Crash([]byte{1, 1})
			d.Wipe()
			d.Arm(0)
		}
		if d != nil && !reflect.DeepEqual(*d, Disk{}) {
			t.Error("it is changed")
		}
	}
}

// P7.2

func TestExamples(t *testing.T) {
	d := New()
	does(t, d.Write("a", 0, of(1)), d.Sync("a"), d.Write("a", 0, of(2)))
	d.Crash([]byte{0})
	holds(t, "nothing is kept", d, "a 1")
	does(t, d.Write("a", 0, of(2)))
	d.Crash([]byte{0, 1})
	holds(t, "a step is kept", d, "a 2")
	d = New()
	does(t, d.Write("a", 0, of(1)))
	d.Crash(nil)
	holds(t, "the file was never made", d)
	does(t, d.Write("a", 0, of(1)))
	d.Crash([]byte{1})
	holds(t, "its sector was never written", d, "a")
	n, e := d.Size("a")
	if n != 0 || e != api.OK {
		t.Error(n, e)
	}
	_, e = d.Read("a", 0)
	is(t, "Read", e, api.ErrArg)
}

func TestCrashOfStepsOfNames(t *testing.T) {
	for keep := range 256 {
		d := New()
		does(t, d.Write("old", 0, of(1)), d.Sync("old"))
		does(t, d.Rename("old", "new"), d.Write("a", 0, of(2)), d.Remove("new"), d.Rename("a", "b"))
		d.Crash([]byte{byte(keep), 1})
		want := [][]string{{"old 1"}, {"new 1"}, {"a 2", "new 1"}, {"a 2"}, {"b 2"}}
		holds(t, "first byte "+strconv.Itoa(keep), d, want[keep%5]...)
	}
}

func TestCrashOfMoreStepsOfNamesThanAByteTells(t *testing.T) {
	d := New()
	does(t, d.Write("a", 0, of(1)), d.Sync("a"))
	for i := range 300 {
		does(t, d.Rename(strings.Repeat("a", 1+i%3), strings.Repeat("a", 1+(i+1)%3)))
	}
	d.Crash([]byte{255})
	holds(t, "255 of 300", d, "a 1")
	for i := range 255 {
		does(t, d.Rename(strings.Repeat("a", 1+i%3), strings.Repeat("a", 1+(i+1)%3)))
	}
	d.Crash([]byte{254})
	holds(t, "254 of 255", d, "aaa 1")
}

func TestRenameToItsOwnNameIsNoStep(t *testing.T) {
	d := New()
	does(t, d.Write("a", 0, of(1)), d.Rename("a", "a"), d.Rename("a", "a"))
	d.Crash([]byte{2})
	holds(t, "2 of 1", d)
}

func TestCrashOfStepsOfFiles(t *testing.T) {
	for keep := range 1 << 9 {
		d := New()
		does(t, d.Write("a", 0, of(90)), d.Write("b", 0, of(91)), d.Sync("a"), d.Sync("b"))
		want := map[string][]int{"a": {90, 0, 0}, "b": {91, 0, 0}}
		long := map[string]int{"a": 1, "b": 1}
		for i := range 9 {
			name, at := "a", i*5%3
			if i%4 > 1 {
				name = "b"
			}
			does(t, d.Write(name, at, of(byte(i+1))))
			if keep>>i&1 == 1 {
				want[name][at] = i + 1
				long[name] = max(long[name], at+1)
			}
		}
		d.Crash([]byte{0, byte(keep), byte(keep >> 8)})
		var rows []string
		for _, name := range []string{"a", "b"} {
			row := name
			for _, x := range want[name][:long[name]] {
				row += " " + strconv.Itoa(x)
			}
			rows = append(rows, row)
		}
		holds(t, "bits "+strconv.Itoa(keep), d, rows...)
	}
}

func TestBytesThatKeepHasNot(t *testing.T) {
	d := New()
	fill := func() {
		for at := range 10 {
			does(t, d.Write("a", at, of(byte(at+1))))
		}
	}
	fill()
	d.Crash([]byte{1, 0b10000001})
	holds(t, "one byte", d, "a 1 0 0 0 0 0 0 8")
	d.Wipe()
	fill()
	d.Crash([]byte{1, 0, 0b11111101, 255, 255})
	holds(t, "more bytes than steps", d, "a 0 0 0 0 0 0 0 0 9")
	d.Wipe()
	fill()
	d.Crash([]byte{1, 0, 0b10}[:2:3])
	holds(t, "room behind keep's end", d, "a")
}

func TestAnElderStepStaysWithoutALaterOne(t *testing.T) {
	for keep, want := range []string{"a 9", "a 1", "a 2", "a 2", "a 3", "a 3", "a 3", "a 3"} {
		d := New()
		does(t, d.Write("a", 0, of(9)), d.Sync("a"))
		does(t, d.Write("a", 0, of(1)), d.Write("a", 0, of(2)), d.Write("a", 0, of(3)))
		d.Crash([]byte{0, byte(keep)})
		holds(t, "bits "+strconv.Itoa(keep), d, want)
	}
}

func TestAWriteOfTheSameBytesIsAStep(t *testing.T) {
	d := New()
	does(t, d.Write("a", 0, of(1)), d.Sync("a"), d.Write("a", 0, of(1)), d.Write("a", 1, of(2)), d.Write("a", 2, of(3)))
	d.Crash([]byte{0, 0b10})
	holds(t, "the second step", d, "a 1 2")
}

func TestSync(t *testing.T) {
	d := New()
	does(t, d.Write("a", 0, of(1)), d.Write("b", 0, of(2)), d.Write("a", 2, of(3)), d.Sync("a"))
	holds(t, "nothing is changed", d, "a 1 0 3", "b 2")
	d.Crash(nil)
	holds(t, "all names, and its own sectors", d, "a 1 0 3", "b")
	does(t, d.Write("b", 0, of(4)), d.Write("a", 0, of(5)), d.Write("b", 1, of(6)), d.Sync("a"))
	d.Crash([]byte{0, 0b10})
	holds(t, "what it makes safe is not counted", d, "a 5 0 3", "b 0 6")
	is(t, "of none", d.Sync("c"), api.ErrFile)
	does(t, d.Remove("a"), d.Rename("b", "c"), d.Sync("c"))
	d.Crash(nil)
	holds(t, "Rename and Remove", d, "c 0 6")
}

func TestSyncIsOfStepsSoFar(t *testing.T) {
	d := New()
	does(t, d.Write("a", 0, of(1)), d.Sync("a"), d.Write("a", 0, of(2)), d.Write("a", 1, of(3)), d.Write("b", 0, of(4)))
	d.Crash(nil)
	holds(t, "later steps", d, "a 1")
}

func TestSyncOfAnEmptyFileMakesNamesSafe(t *testing.T) {
	d := New()
	does(t, d.Write("a", 0, of(1)))
	d.Crash([]byte{1})
	does(t, d.Write("b", 0, of(1)), d.Sync("a"))
	d.Crash(nil)
	holds(t, "names", d, "a", "b")
}

func TestSyncTwice(t *testing.T) {
	d := New()
	does(t, d.Write("a", 0, of(1)), d.Sync("a"), d.Sync("a"), d.Write("a", 0, of(2)), d.Sync("a"))
	d.Crash(nil)
	holds(t, "the later one", d, "a 2")
}

func TestStepsAreTheFilesWhateverItsName(t *testing.T) {
	d := New()
	does(t, d.Write("a", 0, of(1)), d.Rename("a", "b"), d.Sync("b"))
	d.Crash(nil)
	holds(t, "written ahead of Rename", d, "b 1")
	does(t, d.Write("b", 0, of(2)), d.Rename("b", "c"))
	d.Crash([]byte{0, 1})
	holds(t, "Rename never was", d, "b 2")
	does(t, d.Rename("b", "c"), d.Write("c", 0, of(3)))
	d.Crash([]byte{0, 1})
	holds(t, "written behind a Rename that never was", d, "b 3")
	does(t, d.Rename("b", "c"), d.Write("b", 0, of(4)), d.Sync("b"), d.Write("c", 0, of(5)))
	d.Crash(nil)
	holds(t, "another file has the name", d, "b 4", "c 3")
}

func TestAFileThatWasRemovedComesBack(t *testing.T) {
	d := New()
	does(t, d.Write("a", 0, of(1)), d.Sync("a"), d.Write("a", 1, of(2)), d.Remove("a"), d.Write("a", 0, of(3)))
	d.Crash([]byte{0, 0b11})
	holds(t, "with its own steps alone", d, "a 1 2")
	does(t, d.Write("b", 0, of(4)), d.Write("b", 1, of(5)), d.Rename("b", "a"))
	d.Crash([]byte{1, 0b11})
	holds(t, "one that was renamed upon", d, "a 1 2", "b 4 5")
}

func TestStepsOfFilesThatAreGoneAreCounted(t *testing.T) {
	d := New()
	does(t, d.Write("a", 0, of(1)), d.Write("b", 0, of(2)), d.Sync("b"))
	does(t, d.Remove("a"), d.Sync("b"), d.Write("b", 0, of(3)))
	d.Crash([]byte{0, 1})
	holds(t, "a step of a file that is gone for good", d, "b 2")
	does(t, d.Write("a", 0, of(1)), d.Write("b", 0, of(4)))
	d.Crash([]byte{0, 0b10})
	holds(t, "a step of a file that was never made", d, "b 4")
}

func TestAFileThatWasMadeAgainIsAnother(t *testing.T) {
	d := New()
	does(t, d.Write("a", 0, of(1)), d.Sync("a"), d.Remove("a"), d.Write("a", 1, of(2)))
	d.Crash([]byte{2, 1})
	holds(t, "both steps", d, "a 0 2")
	does(t, d.Remove("a"), d.Write("a", 0, of(3)))
	d.Crash([]byte{2})
	holds(t, "without its sector", d, "a")
}

func TestWhatIsThereBehindACrashIsSafe(t *testing.T) {
	d := New()
	does(t, d.Write("a", 0, of(1)), d.Write("b", 0, of(2)), d.Write("b", 1, of(3)))
	d.Crash([]byte{2, 0b101})
	holds(t, "a crash", d, "a 1", "b 0 3")
	d.Crash(nil)
	holds(t, "another one", d, "a 1", "b 0 3")
	does(t, d.Write("b", 0, of(4)))
	holds(t, "written upon", d, "a 1", "b 4 3")
	d.Crash([]byte{255, 0b10})
	holds(t, "a third one", d, "a 1", "b 0 3")
}

func TestWipe(t *testing.T) {
	d := New()
	does(t, d.Write("a", 0, of(1)), d.Sync("a"), d.Write("a", 1, of(2)), d.Rename("a", "b"))
	d.Wipe()
	holds(t, "wiped", d)
	d.Crash([]byte{1, 255})
	holds(t, "wiped, and a crash", d)
	does(t, d.Write("a", 1, of(3)))
	holds(t, "written again", d, "a 0 3")
	d.Crash([]byte{1})
	holds(t, "of which a crash keeps a name", d, "a")
}

// P7.3

// stopped fails the test unless the disk answers nothing any more.
func stopped(t *testing.T, d *Disk) {
	t.Helper()
	is(t, "Write", d.Write("a", 0, of(9)), api.ErrDead)
	is(t, "Write of what may not be", d.Write("", -1, nil), api.ErrDead)
	x, e := d.Read("a", 0)
	is(t, "Read", e, api.ErrDead)
	_, e = d.Read("no such file", -1)
	is(t, "Read of none", e, api.ErrDead)
	n, e := d.Size("a")
	is(t, "Size", e, api.ErrDead)
	_, e = d.Size("no such file")
	is(t, "Size of none", e, api.ErrDead)
	is(t, "Sync", d.Sync("a"), api.ErrDead)
	is(t, "Sync of none", d.Sync("no such file"), api.ErrDead)
	is(t, "Rename", d.Rename("a", "b"), api.ErrDead)
	is(t, "Rename of none", d.Rename("no such file", ""), api.ErrDead)
	is(t, "Remove", d.Remove("a"), api.ErrDead)
	is(t, "Remove of none", d.Remove("no such file"), api.ErrDead)
	if len(x) != 0 || n != 0 || len(d.Names()) != 0 || len(d.Files()) != 0 || !d.Dead() {
		t.Error(x, n, d.Names(), d.Files(), d.Dead())
	}
}

func TestEachCallThatStops(t *testing.T) {
	calls := map[string]func(*Disk) api.Errno{
		"Write":               func(d *Disk) api.Errno { return d.Write("a", 0, of(9)) },
		"Write of a new file": func(d *Disk) api.Errno { return d.Write("c", 0, of(9)) },
		"Sync":                func(d *Disk) api.Errno { return d.Sync("a") },
		"Rename":              func(d *Disk) api.Errno { return d.Rename("a", "b") },
		"Rename to its own":   func(d *Disk) api.Errno { return d.Rename("a", "a") },
		"Remove":              func(d *Disk) api.Errno { return d.Remove("a") },
	}
	for what, call := range calls {
		d := New()
		does(t, d.Write("a", 0, of(1)), d.Sync("a"), d.Write("a", 0, of(2)), d.Write("b", 0, of(3)))
		d.Arm(0)
		if d.Dead() {
			t.Error("armed, and dead at once")
		}
		is(t, what, call(d), api.ErrDead)
		stopped(t, d)
		d.Crash([]byte{1, 0b11})
		if d.Dead() {
			t.Error("dead behind a crash")
		}
		holds(t, what+" did nothing", d, "a 2", "b 3")
		does(t, call(d))
	}
}

func TestASyncThatStopsMakesNothingSafe(t *testing.T) {
	d := New()
	does(t, d.Write("a", 0, of(1)))
	d.Arm(0)
	is(t, "Sync", d.Sync("a"), api.ErrDead)
	d.Crash(nil)
	holds(t, "nothing is safe", d)
}

func TestArmCountsCalls(t *testing.T) {
	for n := range 6 {
		d := New()
		d.Arm(n)
		calls := []func() api.Errno{
			func() api.Errno { return d.Write("a", 0, of(1)) },
			func() api.Errno { return d.Sync("a") },
			func() api.Errno { return d.Rename("a", "a") },
			func() api.Errno { return d.Rename("a", "b") },
			func() api.Errno { return d.Write("b", 1, of(2)) },
			func() api.Errno { return d.Remove("b") },
		}
		for i, call := range calls {
			want := api.OK
			if i >= n {
				want = api.ErrDead
			}
			is(t, strconv.Itoa(n)+" calls, the one with number "+strconv.Itoa(i), call(), want)
			if d.Dead() != (i >= n) {
				t.Error(n, i, d.Dead())
			}
		}
	}
}

func TestArmDoesNotCountWhatIsRefusedOrAsks(t *testing.T) {
	for n := range 3 {
		d := New()
		for i := range 256 {
			does(t, d.Write(strconv.Itoa(i), 0, of(1)))
		}
		d.Arm(n)
		ask := func() {
			is(t, "Write", d.Write("0", -1, of(1)), api.ErrArg)
			is(t, "Write of a file too many", d.Write("a", 0, of(1)), api.ErrFull)
			is(t, "Sync", d.Sync("a"), api.ErrFile)
			is(t, "Rename", d.Rename("a", "b"), api.ErrFile)
			is(t, "Rename to no name", d.Rename("0", ""), api.ErrArg)
			is(t, "Remove", d.Remove("a"), api.ErrFile)
			_, e := d.Read("0", 0)
			is(t, "Read", e, api.OK)
			_, e = d.Size("0")
			is(t, "Size", e, api.OK)
			if len(d.Names()) != 256 || len(d.Files()) != 256 || d.Dead() {
				t.Error(len(d.Names()), len(d.Files()), d.Dead())
			}
		}
		for range n {
			ask()
			does(t, d.Sync("0"))
		}
		ask()
		is(t, "the next one", d.Sync("0"), api.ErrDead)
	}
}

func TestArmAnew(t *testing.T) {
	d := New()
	d.Arm(0)
	d.Arm(2)
	does(t, d.Write("a", 0, of(1)))
	d.Arm(1)
	does(t, d.Write("a", 0, of(2)))
	for _, n := range []int{-1, -2, math.MinInt} {
		d.Arm(0)
		d.Arm(n)
		for range 10 {
			does(t, d.Sync("a"))
		}
	}
	d.Arm(math.MaxInt)
	does(t, d.Sync("a"), d.Sync("a"))
	d.Arm(0)
	is(t, "Sync", d.Sync("a"), api.ErrDead)
	for _, n := range []int{-1, 0, 5} {
		d.Arm(n)
		stopped(t, d)
	}
	d.Crash(nil)
	for range 10 {
		does(t, d.Sync("a"))
	}
}

func TestCrashAndWipeTakeArmBack(t *testing.T) {
	for what, call := range map[string]func(*Disk){
		"Crash": func(d *Disk) { d.Crash([]byte{1, 1}) },
		"Wipe":  func(d *Disk) { d.Wipe() },
	} {
		d := New()
		d.Arm(3)
		call(d)
		for range 10 {
			is(t, what, d.Write("a", 0, of(1)), api.OK)
		}
		d.Arm(0)
		d.Sync("a")
		stopped(t, d)
		call(d)
		if d.Dead() {
			t.Error(what, "leaves it dead")
		}
		for range 10 {
			is(t, what, d.Write("a", 0, of(1)), api.OK)
		}
	}
}

// P7.4: disks by the document's words

// happened is a step, of names (a file leaves the name from and has the name to) or of a file.
type happened struct {
	ofNames bool
	from    string
	to      string
	file    int
	sector  int
	data    []byte
	safe    bool
}

// story is a disk as all the steps that there were, from which all that it has is made anew.
type story struct {
	steps []happened
	files int
	left  int
	dead  bool
}

// state is the files' numbers by their names, and their bytes by their numbers.
func (s *story) state() (map[string]int, map[int][]byte) {
	names, data := map[string]int{}, map[int][]byte{}
	for _, x := range s.steps {
		if x.ofNames {
			delete(names, x.from)
			if x.to != "" {
				names[x.to] = x.file
			}
			continue
		}
		for len(data[x.file]) < 64*(x.sector+1) {
			data[x.file] = append(data[x.file], 0)
		}
		copy(data[x.file][64*x.sector:], x.data)
	}
	return names, data
}

func (s *story) list() []api.File {
	if s.dead {
		return nil
	}
	var list []api.File
	names, data := s.state()
	for name, file := range names {
		list = append(list, api.File{Name: name, Data: data[file]})
	}
	slices.SortFunc(list, func(a, b api.File) int { return strings.Compare(a.Name, b.Name) })
	return list
}

// call counts a call that is not refused otherwise.
func (s *story) call() bool {
	if s.left == 0 {
		s.dead = true
	}
	s.left--
	return !s.dead
}

func (s *story) write(name string, sector int, data []byte) api.Errno {
	names, _ := s.state()
	file, there := names[name]
	switch {
	case s.dead:
		return api.ErrDead
	case name == "" || sector < 0 || sector > 65535 || len(data) != 64:
		return api.ErrArg
	case !there && len(names) == 256:
		return api.ErrFull
	case !s.call():
		return api.ErrDead
	}
	if !there {
		s.files++
		file = s.files
		s.steps = append(s.steps, happened{ofNames: true, to: name, file: file})
	}
	s.steps = append(s.steps, happened{file: file, sector: sector, data: bytes.Clone(data)})
	return api.OK
}

func (s *story) sync(name string) api.Errno {
	names, _ := s.state()
	file, there := names[name]
	switch {
	case s.dead:
		return api.ErrDead
	case !there:
		return api.ErrFile
	case !s.call():
		return api.ErrDead
	}
	for i, x := range s.steps {
		s.steps[i].safe = x.safe || x.ofNames || x.file == file
	}
	return api.OK
}

// rename gives a file another name; without one (ahead of that none is refused), it is removed.
func (s *story) rename(from, to string, remove bool) api.Errno {
	names, _ := s.state()
	file, there := names[from]
	switch {
	case s.dead:
		return api.ErrDead
	case !there:
		return api.ErrFile
	case !remove && to == "":
		return api.ErrArg
	case !s.call():
		return api.ErrDead
	}
	if remove || from != to {
		s.steps = append(s.steps, happened{ofNames: true, from: from, to: to, file: file})
	}
	return api.OK
}

// waiting is how many steps of names, and of files, are not safe.
func (s *story) waiting() (names int, files int) {
	for _, x := range s.steps {
		switch {
		case x.safe:
		case x.ofNames:
			names++
		default:
			files++
		}
	}
	return names, files
}

func (s *story) crash(keep []byte) {
	many, _ := s.waiting()
	first := 0
	if len(keep) > 0 {
		first = int(keep[0]) % (many + 1)
	}
	var stay []happened
	name, number := 0, 0
	for _, x := range s.steps {
		ok := x.safe
		switch {
		case x.safe:
		case x.ofNames:
			ok = name < first
			name++
		default:
			at := 1 + number/8
			ok = len(keep) > at && keep[at]&(1<<(number%8)) != 0
			number++
		}
		if ok {
			x.safe = true
			stay = append(stay, x)
		}
	}
	*s = story{steps: stay, files: s.files, left: -1}
}

// pair is a disk and its story.
type pair struct {
	disk  *Disk
	story story
}

// step lets the same happen to both by chance, and answers what happened and whether both answered the same.
func (p *pair) step(chance *draws) (string, bool) {
	names := []string{"a", "b", "c", "d", ""}
	name, other := names[chance.below(5)], names[chance.below(5)]
	sector, data := chance.below(5)-chance.below(20)/19, chance.fill(64)
	what := name + " " + other + " " + strconv.Itoa(sector)
	switch n := chance.below(40); {
	case n < 18:
		return "Write " + what, p.disk.Write(name, sector, data) == p.story.write(name, sector, data)
	case n < 22:
		return "Sync " + what, p.disk.Sync(name) == p.story.sync(name)
	case n < 28:
		return "Rename " + what, p.disk.Rename(name, other) == p.story.rename(name, other, false)
	case n < 32:
		return "Remove " + what, p.disk.Remove(name) == p.story.rename(name, "", true)
	case n < 35:
		keep := chance.fill(chance.below(6))
		p.disk.Crash(keep)
		p.story.crash(keep)
		return "Crash " + string(keep), true
	case n < 36:
		p.disk.Wipe()
		p.story = story{left: -1}
		return "Wipe", true
	case n < 37:
		n := chance.below(20) - 2
		p.disk.Arm(n)
		if !p.story.dead {
			p.story.left = n
		}
		return "Arm " + strconv.Itoa(n), true
	case n < 39:
		return "reading by calls", p.reads(name)
	}
	return "Dead", p.disk.Dead() == p.story.dead
}

// reads says whether Size and Read of a file answer what its story tells.
func (p *pair) reads(name string) bool {
	names, all := p.story.state()
	file, there := names[name]
	want := api.OK
	switch {
	case p.story.dead:
		want = api.ErrDead
	case !there:
		want = api.ErrFile
	}
	n, e := p.disk.Size(name)
	if e != want || want == api.OK && n != len(all[file])/64 || want != api.OK && n != 0 {
		return false
	}
	for at := range n {
		x, e := p.disk.Read(name, at)
		if e != api.OK || !bytes.Equal(x, all[file][64*at:64*at+64]) {
			return false
		}
	}
	if want == api.OK {
		want = api.ErrArg
	}
	_, e = p.disk.Read(name, n)
	return e == want
}

func TestDisksAreWhatTheirStepsMadeThem(t *testing.T) {
	for seed := range 600 {
		chance := draws(seed)
		p := pair{disk: New(), story: story{left: -1}}
		for i := range 120 {
			what, ok := p.step(&chance)
			if !ok || !sameFiles(p.disk.Files(), p.story.list()) {
				t.Fatalf("seed %d, step %d, %q: %v, want %v", seed, i, what, p.disk.Files(), p.story.list())
			}
		}
	}
}

func TestACrashThatKeepsAllIsAsIfThereWasNone(t *testing.T) {
	for seed := range 500 {
		chance := draws(seed)
		p := pair{disk: New(), story: story{left: -1}}
		for range chance.below(100) {
			p.step(&chance)
		}
		names, files := p.story.waiting()
		p.story.dead = false
		want := p.story.list()
		keep := append([]byte{byte(names)}, bytes.Repeat([]byte{255}, 1+files/8)...)
		for range 2 {
			p.disk.Crash(keep)
			if !sameFiles(p.disk.Files(), want) {
				t.Fatalf("seed %d: %v, want %v", seed, p.disk.Files(), want)
			}
		}
	}
}

func TestWhatIsSafeStays(t *testing.T) {
	for seed := range 500 {
		chance := draws(seed)
		d := New()
		for at := range 5 {
			does(t, d.Write("a", at, of(1)))
		}
		does(t, d.Sync("a"))
		for range 1 + chance.below(40) {
			does(t, d.Write("a", chance.below(10), of(byte(2+chance.below(9)))))
		}
		before := d.Files()[0].Data
		d.Crash(chance.fill(chance.below(8)))
		after := d.Files()[0].Data
		if len(after) < 5*64 || len(after) > len(before) {
			t.Fatal(seed, len(before), len(after))
		}
		for at := 0; at < len(after); at += 64 {
			if x := after[at]; !bytes.Equal(after[at:at+64], of(x)) || x > 10 || at < 5*64 && x == 0 {
				t.Fatal(seed, at, after[at:at+64])
			}
		}
	}
}

func TestManySteps(t *testing.T) {
	d := New()
	for at := range 65536 {
		does(t, d.Write("a", at, of(byte(at))))
	}
	for i := range 5000 {
		does(t, d.Write("b", i%7, of(byte(i))), d.Sync("b"))
	}
	d.Crash(append([]byte{0}, bytes.Repeat([]byte{0b01010101}, 8192)...))
	n, e := d.Size("a")
	if n != 65535 || e != api.OK {
		t.Error(n, e)
	}
	for at := range n {
		x, e := d.Read("a", at)
		if want := byte(at) * byte(1-at%2); x[0] != want || e != api.OK {
			t.Fatal(at, x, e)
		}
	}
}
