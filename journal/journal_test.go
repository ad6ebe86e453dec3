package journal

import (
	"bytes"
	"reflect"
	"slices"
	"strconv"
	"strings"
	"testing"

	"buttress/api"
	"buttress/disk"
	"buttress/octet"
	"buttress/wire"
)

// draws are numbers that look like chance, the same in every run.
type draws uint64

func (d *draws) next() uint64 {
	*d = *d*6364136223846793005 + 1442695040888963407
	x := uint64(*d)
	x ^= x >> 33
	x *= 0xff51afd7ed558ccd
	return x ^ x>>29
}

// below is a number from 0 below n.
func (d *draws) below(n int) int {
	return int(d.next() >> 1 % uint64(n))
}

// fill is a list of so many bytes.
func (d *draws) fill(many int) []byte {
	list := make([]byte, many)
	for i := range list {
		list[i] = byte(d.next())
	}
	return list
}

// bits are bytes for a crash: it keeps of each kind none, all, or what comes.
func (d *draws) bits() []byte {
	keep := d.fill(1 + d.below(40))
	switch d.below(5) {
	case 0:
		return nil
	case 1:
		return bytes.Repeat([]byte{255}, len(keep))
	case 2:
		return append([]byte{255}, make([]byte, len(keep))...)
	case 3:
		for i := range keep {
			keep[i] |= byte(d.next())
		}
	}
	return keep
}

// is fails the test unless an answer is that number.
func is(t *testing.T, what string, got api.Errno, want api.Errno) {
	t.Helper()
	if got != want {
		t.Fatalf("%s: %d, want %d", what, got, want)
	}
}

// does fails the test unless all answers are OK.
func does(t *testing.T, answers ...api.Errno) {
	t.Helper()
	for i, e := range answers {
		if e != api.OK {
			t.Fatalf("call %d: %d", i, e)
		}
	}
}

// open opens a journal that nothing refuses.
func open(t *testing.T, d *disk.Disk, name string) *Journal {
	t.Helper()
	j, e := Open(d, name)
	if e != api.OK || j == nil {
		t.Fatalf("Open of %s: %v, %d", name, j, e)
	}
	return j
}

// same says whether two lists have the same elements.
func same(a, b [][]byte) bool {
	return slices.EqualFunc(a, b, bytes.Equal)
}

// has fails the test unless a journal has that base and those records.
func has(t *testing.T, what string, j *Journal, base []byte, records ...[]byte) {
	t.Helper()
	if !bytes.Equal(j.Base(), base) {
		t.Fatalf("%s: base %.40q, want %.40q", what, j.Base(), base)
	}
	if !same(j.Records(), records) {
		t.Fatalf("%s: %d records, want %d: %.40q, want %.40q", what, len(j.Records()), len(records), j.Records(), records)
	}
}

// texts are lists of the bytes of texts.
func texts(list ...string) [][]byte {
	var all [][]byte
	for _, x := range list {
		all = append(all, []byte(x))
	}
	return all
}

// crowd makes so many files of others.
func crowd(t *testing.T, d *disk.Disk, many int) {
	t.Helper()
	for i := range many {
		does(t, d.Write("other"+strconv.Itoa(i), 0, make([]byte, 64)))
	}
}

// sameFiles says whether two lists of files are the same.
func sameFiles(a, b []api.File) bool {
	return slices.EqualFunc(a, b, func(x, y api.File) bool {
		return x.Name == y.Name && bytes.Equal(x.Data, y.Data)
	})
}

// others are the files of a disk whose names do not begin so.
func others(d *disk.Disk, front string) []api.File {
	return slices.DeleteFunc(d.Files(), func(f api.File) bool { return strings.HasPrefix(f.Name, front) })
}

// P8.1

func TestOpenOfNoDisk(t *testing.T) {
	for _, d := range []*disk.Disk{nil, {}} {
		for _, name := range []string{"j", "", "J", "a b"} {
			j, e := Open(d, name)
			is(t, "Open of "+name, e, api.ErrNil)
			if j != nil {
				t.Error(name, j)
			}
		}
	}
}

func TestNames(t *testing.T) {
	for _, name := range []string{"a", "z", "j", "az", "abcdefghijklmnop", strings.Repeat("z", 16)} {
		d := disk.New()
		j := open(t, d, name)
		does(t, j.Append([]byte("r")), j.Sync())
		d.Crash(nil)
		has(t, name, open(t, d, name), nil, []byte("r"))
		for _, file := range d.Names() {
			if !strings.HasPrefix(file, name+".") {
				t.Error(name, "has a file", file)
			}
		}
	}
	may := []string{"", "A", "Z", "`", "{", "0", "a.", ".", "a1", "a b", "é", "\x00", "a\xff", "-", "_", strings.Repeat("a", 17), strings.Repeat("a", 300)}
	for _, name := range may {
		d := disk.New()
		j, e := Open(d, name)
		is(t, "Open of "+name, e, api.ErrArg)
		if j != nil || len(d.Names()) != 0 {
			t.Error(name, j, d.Names())
		}
		d.Arm(0)
		d.Write("a", 0, make([]byte, 64))
		_, e = Open(d, name)
		is(t, "Open on a dead disk of "+name, e, api.ErrArg)
	}
}

func TestOpenOfADiskThatHasStopped(t *testing.T) {
	d := disk.New()
	d.Arm(0)
	d.Write("a", 0, make([]byte, 64))
	j, e := Open(d, "j")
	is(t, "Open", e, api.ErrDead)
	if j != nil {
		t.Error(j)
	}
	d.Crash(nil)
	has(t, "behind a crash", open(t, d, "j"), nil)
}

func TestOpenOfADiskThatStopsMeanwhile(t *testing.T) {
	for n := range 1000 {
		d := disk.New()
		j := open(t, d, "j")
		does(t, j.Checkpoint([]byte("base")), j.Append(make([]byte, 300)), j.Append([]byte("r")))
		d.Arm(n)
		again, e := Open(d, "j")
		if e == api.OK {
			if n == 0 {
				t.Error("what Open found cannot be safe without a Sync")
			}
			return
		}
		is(t, "Open", e, api.ErrDead)
		if again != nil || !d.Dead() {
			t.Error(again, d.Dead())
		}
	}
	t.Error("Open never ends")
}

func TestOpenOfADiskWithoutItsFiles(t *testing.T) {
	d := disk.New()
	d.Arm(0)
	j := open(t, d, "j")
	has(t, "nothing is there", j, nil)
	if len(d.Names()) != 0 || d.Dead() {
		t.Error(d.Names(), d.Dead())
	}
	d = disk.New()
	crowd(t, d, 256)
	has(t, "a disk that is full", open(t, d, "j"), nil)
}

func TestItTouchesOnlyItsOwnFiles(t *testing.T) {
	d := disk.New()
	for i, name := range []string{"j", "jj.0.0", "k.0.0", "J.0.0", "0.0", "j0.0", "i.1.0", "xj.0.0", "\x00j.0.0"} {
		does(t, d.Write(name, i, bytes.Repeat([]byte{byte(i + 1)}, 64)))
	}
	before := d.Files()
	for range 3 {
		j := open(t, d, "j")
		for i := range 5 {
			does(t, j.Append(make([]byte, 100*i)), j.Sync(), j.Checkpoint(make([]byte, 50*i)), j.Append(nil))
		}
		if !sameFiles(others(d, "j."), before) {
			t.Fatal("files of others have changed")
		}
	}
	for _, f := range d.Files() {
		does(t, d.Sync(f.Name))
	}
	does(t, open(t, d, "j").Append(make([]byte, 1000)))
	d.Crash([]byte{1, 0xaa, 0xaa})
	has(t, "torn", open(t, d, "j"), make([]byte, 200), nil)
	if !sameFiles(others(d, "j."), before) {
		t.Error("files of others have changed")
	}
}

func TestFilesThatAreNoJournals(t *testing.T) {
	var chance draws
	names := []string{"j.", "j.0", "j.x", "j.0.", "j..0", "j.00.0", "j.0.00", "j.-1.0", "j.+1.0", "j.1.0.0", "j.1e1.0", "j. 1.0", "j.4294967296.0", "j.0.18446744073709551616", "j.1_0.0"}
	d := disk.New()
	for _, name := range names {
		does(t, d.Write(name, 1, chance.fill(64)))
	}
	before := d.Files()
	j := open(t, d, "j")
	has(t, "no journal's", j, nil)
	does(t, j.Append([]byte("a")), j.Checkpoint([]byte("b")), j.Append([]byte("c")))
	has(t, "beside them", open(t, d, "j"), []byte("b"), []byte("c"))
	if left := d.Files(); len(left) != len(before)+1 {
		t.Error(d.Names())
	}
	for _, f := range before {
		if !slices.ContainsFunc(d.Files(), func(g api.File) bool { return sameFiles([]api.File{f}, []api.File{g}) }) {
			t.Errorf("%q is gone, or has changed", f.Name)
		}
	}
}

func TestFilesWithOtherBytes(t *testing.T) {
	var chance draws
	for range 2000 {
		d := disk.New()
		for range 1 + chance.below(5) {
			name := "j." + strconv.Itoa(chance.below(3)) + "." + strconv.Itoa(chance.below(3))
			data := chance.fill(64)
			if chance.below(2) == 0 {
				data[0] = byte(chance.below(66))
			}
			does(t, d.Write(name, chance.below(4), data))
		}
		j := open(t, d, "j")
		base, records := j.Base(), j.Records()
		r := chance.fill(chance.below(200))
		does(t, j.Append(r), j.Sync())
		d.Crash(nil)
		has(t, "other bytes", open(t, d, "j"), base, append(records, r)...)
	}
}

func TestJournalsThatOpenDidNotGive(t *testing.T) {
	for _, j := range []*Journal{nil, {}, new(Journal)} {
		for range 2 {
			is(t, "Append", j.Append([]byte("a")), api.ErrNil)
			is(t, "Append of too much", j.Append(make([]byte, api.MaxRecord+1)), api.ErrNil)
			is(t, "Sync", j.Sync(), api.ErrNil)
			is(t, "Checkpoint", j.Checkpoint([]byte("a")), api.ErrNil)
			is(t, "Checkpoint of too much", j.Checkpoint(make([]byte, api.MaxRecord+1)), api.ErrNil)
			if len(j.Base()) != 0 || len(j.Records()) != 0 {
				t.Error(j.Base(), j.Records())
			}
		}
		if j != nil && !reflect.DeepEqual(*j, Journal{}) {
			t.Error("it is changed")
		}
	}
}

// P8.2

func TestExample(t *testing.T) {
	d := disk.New()
	j := open(t, d, "j")
	does(t, j.Append([]byte("a")), j.Sync(), j.Append([]byte("b")))
	has(t, "without a crash", open(t, d, "j"), nil, texts("a", "b")...)
	d = disk.New()
	j = open(t, d, "j")
	does(t, j.Append([]byte("a")), j.Sync(), j.Append([]byte("b")))
	d.Crash(nil)
	has(t, "with a crash", open(t, d, "j"), nil, []byte("a"))
}

func TestRecordsOfManyLengths(t *testing.T) {
	var chance draws
	d := disk.New()
	j := open(t, d, "j")
	var want [][]byte
	for many := range 400 {
		r := chance.fill(many)
		does(t, j.Append(r))
		want = append(want, r)
	}
	has(t, "appended", j, nil, want...)
	has(t, "opened", open(t, d, "j"), nil, want...)
	d.Crash(nil)
	has(t, "opened twice", open(t, d, "j"), nil, want...)
}

func TestRecordsThatAreEmptyOrNoughts(t *testing.T) {
	for _, many := range []int{0, 1, 43, 51, 52, 55, 63, 64, 126, 500} {
		d := disk.New()
		j := open(t, d, "j")
		want := [][]byte{make([]byte, many), nil, make([]byte, many), {}}
		for _, r := range want {
			does(t, j.Append(r), j.Sync())
		}
		d.Crash(nil)
		has(t, "noughts", open(t, d, "j"), nil, want...)
	}
}

func TestCheckpoint(t *testing.T) {
	d := disk.New()
	j := open(t, d, "j")
	does(t, j.Append([]byte("a")), j.Checkpoint([]byte("b")))
	has(t, "no records", j, []byte("b"))
	d.Crash(nil)
	j = open(t, d, "j")
	has(t, "it is safe", j, []byte("b"))
	does(t, j.Append([]byte("c")), j.Append([]byte("d")))
	has(t, "records behind it", j, []byte("b"), texts("c", "d")...)
	has(t, "found", open(t, d, "j"), []byte("b"), texts("c", "d")...)
	does(t, j.Checkpoint(nil))
	has(t, "an empty one", j, nil)
	d.Crash(nil)
	j = open(t, d, "j")
	has(t, "an empty one is safe", j, nil)
	does(t, j.Append([]byte("e")))
	has(t, "behind an empty one", open(t, d, "j"), nil, []byte("e"))
}

func TestManyCheckpoints(t *testing.T) {
	var chance draws
	d := disk.New()
	j := open(t, d, "j")
	for i := range 500 {
		b, r := chance.fill(chance.below(300)), chance.fill(chance.below(300))
		does(t, j.Append(b), j.Checkpoint(b), j.Append(r))
		if i%7 == 0 {
			j = open(t, d, "j")
		}
		has(t, "number "+strconv.Itoa(i), j, b, r)
		if len(d.Names()) != 1 {
			t.Fatal("files that nobody needs:", d.Names())
		}
	}
}

func TestSync(t *testing.T) {
	d := disk.New()
	j := open(t, d, "j")
	does(t, j.Sync())
	does(t, j.Append([]byte("a")), j.Append(make([]byte, 1000)), j.Sync(), j.Sync())
	d.Crash(nil)
	has(t, "safe", open(t, d, "j"), nil, []byte("a"), make([]byte, 1000))
}

func TestWhatOpenFindsIsSafe(t *testing.T) {
	d := disk.New()
	j := open(t, d, "j")
	does(t, j.Append([]byte("a")), j.Append([]byte("b")))
	has(t, "without a crash", open(t, d, "j"), nil, texts("a", "b")...)
	d.Crash(nil)
	has(t, "with one", open(t, d, "j"), nil, texts("a", "b")...)
}

func TestLongRecordsAndBases(t *testing.T) {
	var chance draws
	longest, longer := chance.fill(api.MaxRecord), make([]byte, api.MaxRecord+1)
	d := disk.New()
	j := open(t, d, "j")
	does(t, j.Append([]byte("a")), j.Append(longest), j.Append([]byte("b")), j.Sync())
	is(t, "Append", j.Append(longer), api.ErrArg)
	is(t, "Checkpoint", j.Checkpoint(longer), api.ErrArg)
	has(t, "appended", j, nil, []byte("a"), longest, []byte("b"))
	d.Crash(nil)
	j = open(t, d, "j")
	has(t, "found", j, nil, []byte("a"), longest, []byte("b"))
	longest[7] ^= 1
	does(t, j.Checkpoint(longest), j.Append([]byte("c")), j.Sync())
	d.Crash(nil)
	j = open(t, d, "j")
	has(t, "a base", j, longest, []byte("c"))
	does(t, j.Append(longest), j.Append([]byte("d")))
	has(t, "two", open(t, d, "j"), longest, []byte("c"), longest, []byte("d"))
	d.Arm(0)
	is(t, "Append ahead of a disk that stops", j.Append(longer), api.ErrArg)
	is(t, "Checkpoint ahead of a disk that stops", j.Checkpoint(longer), api.ErrArg)
	is(t, "Sync", j.Sync(), api.ErrDead)
	is(t, "Append on a dead disk", j.Append(longer), api.ErrArg)
	is(t, "Checkpoint on a dead disk", j.Checkpoint(longer), api.ErrArg)
}

func TestAsManyRecordsAsMayBe(t *testing.T) {
	d := disk.New()
	j := open(t, d, "j")
	var want [][]byte
	for i := range 65537 {
		r := bytes.Repeat([]byte{byte(i), byte(i >> 8)}, i%40)
		does(t, j.Append(r))
		want = append(want, r)
	}
	is(t, "one more", j.Append(nil), api.ErrArg)
	does(t, j.Sync())
	is(t, "one more, behind Sync", j.Append([]byte("a")), api.ErrArg)
	has(t, "appended", j, nil, want...)
	d.Crash(nil)
	j = open(t, d, "j")
	has(t, "found", j, nil, want...)
	is(t, "one more, behind Open", j.Append([]byte("a")), api.ErrArg)
	does(t, j.Checkpoint([]byte("b")), j.Append([]byte("a")))
	has(t, "a checkpoint makes room", open(t, d, "j"), []byte("b"), []byte("a"))
}

func TestMemoryIsTheCallersOwn(t *testing.T) {
	d := disk.New()
	j := open(t, d, "j")
	r, b := []byte("record, with room behind it")[:6], []byte("base, with room behind it")[:4]
	does(t, j.Checkpoint(b), j.Append(r), j.Append(r))
	if string(r[:15]) != "record, with ro" || string(b[:15]) != "base, with room" {
		t.Errorf("what is handed in is changed: %q, %q", r, b)
	}
	clear(r)
	clear(b)
	spoil := func(j *Journal) {
		clear(j.Base())
		_ = append(j.Base(), "and more"...)
		list := j.Records()
		_ = append(list[0], "and more than that"...)
		clear(list[0])
		clear(list[1:])
	}
	spoil(j)
	has(t, "changed by the caller", j, []byte("base"), texts("record", "record")...)
	does(t, j.Sync())
	j = open(t, d, "j")
	spoil(j)
	has(t, "found, and changed by the caller", j, []byte("base"), texts("record", "record")...)
	does(t, j.Append([]byte("c")))
	has(t, "opened anew", open(t, d, "j"), []byte("base"), texts("record", "record", "c")...)
}

func TestCallsOnADeadDisk(t *testing.T) {
	for _, setup := range []func(*Journal) api.Errno{
		func(j *Journal) api.Errno { return api.OK },
		func(j *Journal) api.Errno { return j.Append([]byte("a")) },
		func(j *Journal) api.Errno { return j.Checkpoint([]byte("b")) },
		func(j *Journal) api.Errno { return max(j.Append(make([]byte, 51)), j.Sync()) },
	} {
		d := disk.New()
		j := open(t, d, "j")
		does(t, setup(j))
		base, records := j.Base(), j.Records()
		d.Arm(0)
		d.Write("other", 0, make([]byte, 64))
		for range 2 {
			is(t, "Append", j.Append([]byte("c")), api.ErrDead)
			is(t, "Append of nothing", j.Append(nil), api.ErrDead)
			is(t, "Sync", j.Sync(), api.ErrDead)
			is(t, "Checkpoint", j.Checkpoint([]byte("c")), api.ErrDead)
			has(t, "as it was", j, base, records...)
		}
	}
}

// stopping are calls, each of which is done on a journal with a base "b" and records "r" and "s", of which "r" is safe.
func stopping() map[string]func(*Journal) api.Errno {
	return map[string]func(*Journal) api.Errno{
		"Append":          func(j *Journal) api.Errno { return j.Append(bytes.Repeat([]byte("x"), 300)) },
		"Append of few":   func(j *Journal) api.Errno { return j.Append([]byte("x")) },
		"Sync":            func(j *Journal) api.Errno { return j.Sync() },
		"Checkpoint":      func(j *Journal) api.Errno { return j.Checkpoint(bytes.Repeat([]byte("x"), 300)) },
		"a few at a time": func(j *Journal) api.Errno { return max(j.Append(nil), j.Sync(), j.Checkpoint(nil)) },
	}
}

func TestADiskThatStopsLeavesBaseAndRecords(t *testing.T) {
	for what, call := range stopping() {
		if what == "a few at a time" {
			continue
		}
		for n := range 1000 {
			d := disk.New()
			j := open(t, d, "j")
			does(t, j.Checkpoint([]byte("b")), j.Append([]byte("r")), j.Sync(), j.Append([]byte("s")))
			d.Arm(n)
			e := call(j)
			if d.Dead() != (e == api.ErrDead) {
				t.Fatal(what, n, e, d.Dead())
			}
			if e == api.OK {
				break
			}
			is(t, what, e, api.ErrDead)
			has(t, what, j, []byte("b"), texts("r", "s")...)
		}
	}
}

func TestADiskThatIsFull(t *testing.T) {
	d := disk.New()
	crowd(t, d, 256)
	j := open(t, d, "j")
	for range 2 {
		is(t, "Append", j.Append([]byte("a")), api.ErrFull)
		is(t, "Checkpoint", j.Checkpoint([]byte("a")), api.ErrFull)
		is(t, "Sync", j.Sync(), api.OK)
		has(t, "nothing", j, nil)
	}
	does(t, d.Remove("other0"), j.Append([]byte("a")), j.Append([]byte("b")), j.Sync())
	for range 2 {
		is(t, "Checkpoint", j.Checkpoint([]byte("c")), api.ErrFull)
		has(t, "as it was", j, nil, texts("a", "b")...)
	}
	does(t, j.Append([]byte("d")))
	has(t, "found", open(t, d, "j"), nil, texts("a", "b", "d")...)
	j = open(t, d, "j")
	does(t, d.Remove("other1"), j.Checkpoint([]byte("c")), j.Append([]byte("e")))
	has(t, "room for one", open(t, d, "j"), []byte("c"), []byte("e"))
	d.Crash(nil)
	has(t, "behind a crash", open(t, d, "j"), []byte("c"), []byte("e"))
}

func TestADiskThatTakesOnlyAPart(t *testing.T) {
	long := bytes.Repeat([]byte("long"), 1<<20)
	for free, want := range []api.Errno{api.ErrFull, api.ErrFull, api.OK} {
		d := disk.New()
		crowd(t, d, 256-free)
		j := open(t, d, "j")
		is(t, "Append", j.Append(long), want)
		if want != api.OK {
			has(t, "Append", j, nil)
			has(t, "found", open(t, d, "j"), nil)
		}
		d = disk.New()
		j = open(t, d, "j")
		does(t, j.Append([]byte("a")), j.Sync(), j.Append([]byte("b")))
		crowd(t, d, 255-free)
		before := d.Names()
		is(t, "Checkpoint", j.Checkpoint(long), want)
		if want != api.OK {
			if !slices.Equal(d.Names(), before) {
				t.Error("a part of it is left:", d.Names())
			}
			has(t, "Checkpoint", j, nil, texts("a", "b")...)
			does(t, j.Append([]byte("c")))
			has(t, "Checkpoint, found", open(t, d, "j"), nil, texts("a", "b", "c")...)
		}
	}
}

func TestADiskThatIsFullAndWillStop(t *testing.T) {
	for n := range 4 {
		d := disk.New()
		crowd(t, d, 256)
		j := open(t, d, "j")
		d.Arm(n)
		is(t, "Append", j.Append([]byte("a")), api.ErrFull)
		is(t, "Checkpoint", j.Checkpoint([]byte("a")), api.ErrFull)
		if d.Dead() {
			t.Error(n)
		}
	}
}

// P8.3

// story is what a journal was told since all of it was safe, and what it may be found as, whatever a crash keeps.
type story struct {
	base    []byte
	safe    [][]byte
	since   [][]byte
	refused [][]byte // bases
	last    [][]byte // a record that was refused by ErrDead
}

// settled is a story of which all is safe.
func (s *story) settled(base []byte, records [][]byte) {
	*s = story{base: base, safe: records}
}

// tells says whether a journal that is found may be that of the story.
func (s *story) tells(j *Journal) bool {
	base, records := j.Base(), j.Records()
	if len(records) == 0 && slices.ContainsFunc(s.refused, func(b []byte) bool { return bytes.Equal(b, base) }) {
		return true
	}
	all := slices.Concat(s.safe, s.since)
	if same(records, slices.Concat(all, s.last)) && bytes.Equal(base, s.base) {
		return true
	}
	return bytes.Equal(base, s.base) && len(records) >= len(s.safe) && len(records) <= len(all) && same(records, all[:len(records)])
}

// append tells a journal to append, and the story of it.
func (s *story) append(j *Journal, r []byte) api.Errno {
	s.last = nil
	e := j.Append(r)
	switch e {
	case api.OK:
		s.since = append(s.since, r)
	case api.ErrDead:
		s.last = [][]byte{r}
	}
	return e
}

// sync tells a journal to sync.
func (s *story) sync(j *Journal) api.Errno {
	e := j.Sync()
	if e == api.OK {
		s.settled(s.base, slices.Concat(s.safe, s.since))
	}
	return e
}

// checkpoint tells a journal to make a checkpoint.
func (s *story) checkpoint(j *Journal, b []byte) api.Errno {
	e := j.Checkpoint(b)
	if e == api.OK {
		s.settled(b, nil)
	} else {
		s.refused = append(s.refused, b)
	}
	return e
}

// do does something or other, and answers what it came to.
func (s *story) do(j *Journal, chance *draws) api.Errno {
	lengths := []int{0, 1, 5, 43, 50, 51, 52, 55, 63, 100, 114, 115, 200, 600}
	data := chance.fill(lengths[chance.below(len(lengths))])
	if chance.below(3) == 0 {
		clear(data)
	}
	switch x := chance.below(10); {
	case x < 6:
		return s.append(j, data)
	case x < 8:
		return s.sync(j)
	}
	return s.checkpoint(j, data)
}

// reopen opens a journal on a disk that may stop meanwhile, and crash, till it is open.
func (s *story) reopen(t *testing.T, d *disk.Disk, name string, chance *draws) *Journal {
	t.Helper()
	for {
		if chance.below(2) == 0 {
			d.Arm(chance.below(12))
		}
		j, e := Open(d, name)
		if e == api.ErrDead && d.Dead() {
			d.Crash(chance.bits())
			continue
		}
		does(t, e)
		d.Arm(-1)
		if !s.tells(j) {
			t.Fatalf("found %.30q, %.30q of %+.30q", j.Base(), j.Records(), *s)
		}
		s.settled(j.Base(), j.Records())
		return j
	}
}

func TestACrashAtEachStep(t *testing.T) {
	script := func(j *Journal, s *story) {
		calls := []func() api.Errno{
			func() api.Errno { return s.append(j, []byte("a")) },
			func() api.Errno { return s.append(j, bytes.Repeat([]byte("b"), 130)) },
			func() api.Errno { return s.sync(j) },
			func() api.Errno { return s.append(j, nil) },
			func() api.Errno { return s.append(j, bytes.Repeat([]byte("c"), 51)) },
			func() api.Errno { return s.checkpoint(j, bytes.Repeat([]byte("d"), 140)) },
			func() api.Errno { return s.append(j, bytes.Repeat([]byte("e"), 90)) },
			func() api.Errno { return s.append(j, []byte("f")) },
			func() api.Errno { return s.sync(j) },
			func() api.Errno { return s.append(j, bytes.Repeat([]byte("g"), 70)) },
			func() api.Errno { return s.checkpoint(j, nil) },
			func() api.Errno { return s.append(j, []byte("h")) },
		}
		for _, call := range calls {
			if call() != api.OK {
				return
			}
		}
	}
	var chance draws
	done := false
	for n := 0; !done; n++ {
		for bits := range 600 {
			d := disk.New()
			j := open(t, d, "j")
			var s story
			d.Arm(n)
			script(j, &s)
			done = !d.Dead()
			keep := []byte{byte(chance.below(8)), byte(bits), byte(bits >> 8), byte(chance.next())}
			switch bits {
			case 0:
				keep = nil
			case 1:
				keep = bytes.Repeat([]byte{255}, 20)
			}
			d.Crash(keep)
			j = s.reopen(t, d, "j", &chance)
			base, records := j.Base(), j.Records()
			does(t, j.Append([]byte("z")), j.Sync())
			d.Crash(nil)
			has(t, "behind "+strconv.Itoa(n)+" steps", open(t, d, "j"), base, append(records, []byte("z"))...)
		}
	}
}

func TestCrashesByChance(t *testing.T) {
	for seed := range 3000 {
		chance := draws(seed)
		d := disk.New()
		j := open(t, d, "j")
		var s story
		for range 12 {
			if chance.below(3) > 0 {
				d.Arm(chance.below(40))
			}
			for range chance.below(12) {
				e := s.do(j, &chance)
				if d.Dead() != (e == api.ErrDead) || e != api.ErrDead && e != api.OK {
					t.Fatal(seed, e, d.Dead())
				}
				if e != api.OK {
					break
				}
			}
			if d.Dead() || chance.below(2) == 0 {
				d.Crash(chance.bits())
			} else {
				s.settled(s.base, slices.Concat(s.safe, s.since))
				d.Arm(-1)
				has(t, "without a crash", open(t, d, "j"), s.base, s.safe...)
			}
			j = s.reopen(t, d, "j", &chance)
			if len(d.Names()) > 1 {
				t.Fatal("files that nobody needs:", d.Names())
			}
		}
	}
}

// A journal that is not opened anew behind a crash has records that the disk has lost. Sync makes them safe all the same.
func TestAnElderJournalBehindACrash(t *testing.T) {
	for seed := range 3000 {
		chance := draws(seed)
		d := disk.New()
		j := open(t, d, "j")
		var s story
		for range 30 {
			if chance.below(4) == 0 {
				d.Arm(chance.below(10))
			}
			s.do(j, &chance)
			if d.Dead() || chance.below(6) == 0 {
				d.Crash(chance.bits())
			}
			has(t, "its own", j, s.base, slices.Concat(s.safe, s.since)...)
		}
		if chance.below(2) == 0 {
			d.Crash(chance.bits())
		}
		s.reopen(t, d, "j", &chance)
	}
}

func TestWhatACrashLeftBehindALossDoesNotComeBack(t *testing.T) {
	torn := 0
	for many := range 140 {
		for _, first := range []int{0, 1, 51} {
			d := disk.New()
			j := open(t, d, "j")
			does(t, j.Append(make([]byte, first)), j.Sync())
			b, c := bytes.Repeat([]byte("b"), many), bytes.Repeat([]byte("c"), 400)
			does(t, j.Append(b), j.Append(c))
			// Of the steps of b the first one is lost, and nothing else.
			d.Crash(append([]byte{255, 254}, bytes.Repeat([]byte{255}, 20)...))
			j = open(t, d, "j")
			if len(j.Records()) == 3 {
				continue // a later step wrote the same sector
			}
			torn++
			does(t, j.Append(b), j.Sync())
			d.Crash(nil)
			has(t, strconv.Itoa(many)+" bytes", open(t, d, "j"), nil, make([]byte, first), b)
		}
	}
	if torn < 100 {
		t.Error(torn)
	}
}

func TestRecordsThatAreFramesDoNotComeApart(t *testing.T) {
	framed, e := wire.Frame([]byte("within"))
	does(t, e)
	var chance draws
	for shift := range framed {
		for many := range 64 {
			for _, anew := range []bool{true, false} {
				d := disk.New()
				j := open(t, d, "j")
				does(t, j.Append([]byte("a")), j.Sync())
				d.Arm(3 + chance.below(4))
				is(t, "Append", j.Append(append(make([]byte, shift), bytes.Repeat(framed, 40)...)), api.ErrDead)
				d.Crash([]byte{255, 255})
				if anew {
					j = open(t, d, "j")
				}
				has(t, "torn", j, nil, []byte("a"))
				next := make([]byte, many)
				does(t, j.Append(next))
				if chance.below(2) == 0 {
					d.Crash([]byte{255, 255})
				}
				has(t, "behind it", open(t, d, "j"), nil, []byte("a"), next)
			}
		}
	}
}

// hollow is a row of bytes whose sum is that of as many noughts, wherever it stands in others.
func hollow(chance *draws, many int) []byte {
	b := chance.fill(many - 4)
	return append(b, octet.Word(octet.Crc(b)^octet.Crc(make([]byte, len(b))))...)
}

func TestSumsThatHideALoss(t *testing.T) {
	var chance draws
	for _, width := range []int{62, 63, 64} {
		piece := hollow(&chance, width)
		sum := octet.Crc(append(make([]byte, 30), append(bytes.Clone(piece), 1, 2)...))
		if sum != octet.Crc(append(make([]byte, 30+width), 1, 2)) {
			t.Fatal("the sum tells")
		}
		for shift := range 64 {
			r := slices.Concat(make([]byte, shift), piece, piece, piece, piece)
			for lost := range 8 {
				d := disk.New()
				j := open(t, d, "j")
				does(t, j.Append(r))
				d.Crash([]byte{255, ^(1 << lost)})
				found := open(t, d, "j").Records()
				if len(found) > 1 || len(found) == 1 && !bytes.Equal(found[0], r) {
					t.Fatalf("width %d, shift %d, without step %d: another record", width, shift, lost)
				}
			}
		}
	}
}

func TestABaseOverOneThatWasRefused(t *testing.T) {
	var chance draws
	piece := hollow(&chance, 63)
	for shift := range 64 {
		first := slices.Concat(make([]byte, shift), piece, piece, piece, piece)
		second := make([]byte, len(first))
		for range 20 {
			d := disk.New()
			j := open(t, d, "j")
			var s story
			does(t, s.append(j, []byte("a")), s.sync(j))
			d.Arm(4 + chance.below(4))
			s.checkpoint(j, first)
			d.Crash([]byte{255, 255})
			d.Arm(chance.below(8))
			s.checkpoint(j, second)
			d.Crash(chance.bits())
			s.reopen(t, d, "j", &chance)
		}
	}
}

func TestCrashesInLongRecords(t *testing.T) {
	var chance draws
	long := chance.fill(api.MaxRecord)
	for _, n := range []int{3, 65000, 66000, 66577, 66578, 66579, 66580, 66581, 66582, 67000} {
		d := disk.New()
		j := open(t, d, "j")
		var s story
		does(t, s.append(j, []byte("a")), s.sync(j))
		d.Arm(n)
		s.append(j, long)
		s.sync(j)
		keep := bytes.Repeat([]byte{255}, 1<<14)
		if n%2 == 0 {
			keep[1+chance.below(8000)] = 254
		}
		d.Crash(keep)
		j = s.reopen(t, d, "j", &chance)
		if len(j.Records()) == 1 && len(d.Names()) > 1 {
			t.Error("files that nobody needs:", d.Names())
		}
		does(t, s.append(j, []byte("b")))
		d.Arm(n)
		s.checkpoint(j, long)
		d.Crash(keep)
		j = s.reopen(t, d, "j", &chance)
		does(t, s.append(j, []byte("c")), s.sync(j))
		d.Crash(nil)
		s.reopen(t, d, "j", &chance)
	}
}

func TestAFewCallsThatStop(t *testing.T) {
	for what, call := range stopping() {
		for n := range 60 {
			for bits := range 40 {
				d := disk.New()
				j := open(t, d, "j")
				does(t, j.Checkpoint([]byte("b")), j.Append([]byte("r")), j.Sync(), j.Append([]byte("s")))
				d.Arm(n)
				if call(j) == api.OK {
					break
				}
				d.Crash([]byte{byte(bits), byte(bits * 7), byte(bits * 31)})
				j = open(t, d, "j")
				if len(j.Records()) > 0 && string(j.Records()[0]) != "r" {
					t.Fatalf("%s, %d steps: %q", what, n, j.Records())
				}
				if string(j.Base()) == "b" && len(j.Records()) == 0 {
					t.Fatalf("%s, %d steps: r is gone", what, n)
				}
			}
		}
	}
}

// P8.4

func TestTwoJournalsOnOneDisk(t *testing.T) {
	names := []string{"a", "aa", "ab", "b"}
	for seed := range 1000 {
		chance := draws(seed)
		d := disk.New()
		stories := make([]story, len(names))
		var list []*Journal
		for i, name := range names {
			list = append(list, stories[i].reopen(t, d, name, &chance))
		}
		for range 6 {
			if chance.below(2) == 0 {
				d.Arm(chance.below(60))
			}
			for range 20 {
				i := chance.below(len(names))
				stories[i].do(list[i], &chance)
			}
			if d.Dead() {
				for i, j := range list {
					is(t, names[i], j.Append(nil), api.ErrDead)
				}
			}
			d.Crash(chance.bits())
			for i, name := range names {
				list[i] = stories[i].reopen(t, d, name, &chance)
			}
		}
	}
}

func TestJournalsKnowNothingOfOneAnother(t *testing.T) {
	d := disk.New()
	a, b := open(t, d, "a"), open(t, d, "ab")
	does(t, a.Append([]byte("of a")), b.Append([]byte("of b")), a.Checkpoint([]byte("base")), b.Append([]byte("more")))
	has(t, "a", a, []byte("base"))
	has(t, "b", b, nil, texts("of b", "more")...)
	has(t, "a, found", open(t, d, "a"), []byte("base"))
	has(t, "b, found", open(t, d, "ab"), nil, texts("of b", "more")...)
	other := disk.New()
	has(t, "another disk", open(t, other, "a"), nil)
}

// Whatever was done to the disk: all Records are safe when Sync says so.
func TestADiskWhoseFilesWereTakenAway(t *testing.T) {
	for many := range 200 {
		for _, more := range []bool{false, true} {
			d := disk.New()
			j := open(t, d, "j")
			want := [][]byte{make([]byte, 100), make([]byte, many)}
			does(t, j.Append(want[0]), j.Append(want[1]), j.Sync())
			d.Wipe()
			if more {
				does(t, j.Append([]byte("a")))
				want = append(want, []byte("a"))
			}
			does(t, j.Sync())
			d.Crash(nil)
			has(t, "Sync", open(t, d, "j"), nil, want...)
			d.Wipe()
			does(t, j.Checkpoint([]byte("b")), j.Append([]byte("c")))
			has(t, "Checkpoint", open(t, d, "j"), []byte("b"), []byte("c"))
		}
	}
}
