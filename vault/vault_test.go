package vault

import (
	"bytes"
	"cmp"
	"maps"
	"math"
	"reflect"
	"slices"
	"strconv"
	"strings"
	"testing"

	"buttress/api"
	"buttress/disk"
	"buttress/journal"
	"buttress/octet"
	"buttress/stripe"
)

// draws are numbers that look like chance, the same in every run.
type draws uint64

func (d *draws) next() uint64 {
	*d = *d*6364136223846793005 + 1442695040888963407
	x := uint64(*d)
	x ^= x >> 33
	x *= 0xff51afd7ed558ccd
	return x ^ x>>29
}

// below is a number from 0 below n.
func (d *draws) below(n int) int {
	return int(d.next() >> 1 % uint64(n))
}

// fill is a list of so many bytes.
func (d *draws) fill(many int) []byte {
	list := make([]byte, many)
	for i := range list {
		list[i] = byte(d.next())
	}
	return list
}

// bits are bytes for a crash: it keeps of each kind none, all, or what comes.
func (d *draws) bits() []byte {
	keep := d.fill(1 + d.below(40))
	switch d.below(5) {
	case 0:
		return nil
	case 1:
		return bytes.Repeat([]byte{255}, len(keep))
	case 2:
		return append([]byte{255}, make([]byte, len(keep))...)
	case 3:
		for i := range keep {
			keep[i] |= byte(d.next())
		}
	}
	return keep
}

// is fails the test unless an answer is that number.
func is(t *testing.T, what string, got api.Errno, want api.Errno) {
	t.Helper()
	if got != want {
		t.Fatalf("%s: %d, want %d", what, got, want)
	}
}

// does fails the test unless all answers are OK.
func does(t *testing.T, answers ...api.Errno) {
	t.Helper()
	for i, e := range answers {
		if e != api.OK {
			t.Fatalf("call %d: %d", i, e)
		}
	}
}

// open opens a vault with a quota that nothing exceeds.
func open(t *testing.T, d *disk.Disk, name string) *Vault {
	t.Helper()
	v, e := Open(d, name, 268435456)
	if e != api.OK || v == nil {
		t.Fatalf("Open of %s: %v, %d", name, v, e)
	}
	return v
}

// name is the name of a chunk.
func name(version uint64, index int, epoch uint64) api.ChunkID {
	return api.ChunkID{Version: version, Index: index, Epoch: epoch}
}

// only is the chunk of an object that has no other, with a header that is its own.
func only(version uint64, data ...byte) api.Chunk {
	return api.Chunk{
		Head: api.Header{ID: name(version, 0, 1), K: 1, N: 1, Size: len(data), Sum: octet.Crc(data)},
		Data: data,
	}
}

// done is that chunk, Done.
func done(c api.Chunk) api.Chunk {
	c.Done = true
	return c
}

// turn is that chunk with another bit.
func turn(c api.Chunk, bit int) api.Chunk {
	c.Data = bytes.Clone(c.Data)
	c.Data[bit/8] ^= 1 << (bit % 8)
	return c
}

// stop stops a disk.
func stop(d *disk.Disk) {
	d.Arm(0)
	d.Write("stop", 0, make([]byte, 64))
}

// crowd makes so many files of others.
func crowd(t *testing.T, d *disk.Disk, many int) {
	t.Helper()
	for i := range many {
		does(t, d.Write("other"+strconv.Itoa(i), 0, make([]byte, 64)))
	}
}

// sameFiles says whether two lists of files are the same.
func sameFiles(a, b []api.File) bool {
	return slices.EqualFunc(a, b, func(x, y api.File) bool {
		return x.Name == y.Name && bytes.Equal(x.Data, y.Data)
	})
}

// sameChunk says whether two chunks are the same.
func sameChunk(a, b api.Chunk) bool {
	return a.Head == b.Head && bytes.Equal(a.Data, b.Data) && a.Done == b.Done
}

// byName is the order of List.
func byName(a, b api.ChunkID) int {
	return cmp.Or(cmp.Compare(a.Version, b.Version), cmp.Compare(a.Index, b.Index), cmp.Compare(a.Epoch, b.Epoch))
}

// shelf is chunks, as they should be.
type shelf map[api.ChunkID]api.Chunk

// holding is a shelf of chunks.
func holding(chunks ...api.Chunk) shelf {
	s := shelf{}
	for _, c := range chunks {
		s[c.Head.ID] = c
	}
	return s
}

// with is the shelf with a chunk as it is now.
func (s shelf) with(c api.Chunk) shelf {
	s = maps.Clone(s)
	s[c.Head.ID] = c
	return s
}

// without is the shelf without a chunk.
func (s shelf) without(id api.ChunkID) shelf {
	s = maps.Clone(s)
	delete(s, id)
	return s
}

// used is how many bytes the chunks have.
func (s shelf) used() int {
	n := 0
	for _, c := range s {
		n += len(c.Data)
	}
	return n
}

// differs is what a vault has otherwise than the shelf; nothing if all is the same.
func (s shelf) differs(v *Vault) string {
	names := slices.SortedFunc(maps.Keys(s), byName)
	if got := v.List(); !slices.Equal(got, names) {
		return "List: " + strconv.Itoa(len(got)) + " names, want " + strconv.Itoa(len(names))
	}
	if got := v.Used(); got != s.used() {
		return "Used: " + strconv.Itoa(got) + ", want " + strconv.Itoa(s.used())
	}
	var rotten []api.ChunkID
	for i, id := range names {
		want := s[id]
		got, e := v.Get(id)
		if stripe.Whole(want) != api.OK {
			rotten = append(rotten, id)
			if e != api.ErrRot || !reflect.DeepEqual(got, api.Chunk{}) {
				return "Get of number " + strconv.Itoa(i) + ", which rotted: " + strconv.Itoa(int(e))
			}
			continue
		}
		if e != api.OK || !sameChunk(got, want) {
			return "Get of number " + strconv.Itoa(i) + ": " + strconv.Itoa(int(e))
		}
	}
	if got := v.Scrub(); !slices.Equal(got, rotten) {
		return "Scrub: " + strconv.Itoa(len(got)) + " names, want " + strconv.Itoa(len(rotten))
	}
	return ""
}

// has fails the test unless a vault has just those chunks.
func has(t *testing.T, what string, v *Vault, s shelf) {
	t.Helper()
	if d := s.differs(v); d != "" {
		t.Fatalf("%s: %s", what, d)
	}
}

// crashed is the vault that is opened behind a crash which keeps nothing.
func crashed(t *testing.T, d *disk.Disk) *Vault {
	t.Helper()
	d.Crash(nil)
	return open(t, d, "v")
}

// P9.1

func TestOpenOfNoDisk(t *testing.T) {
	for _, d := range []*disk.Disk{nil, {}} {
		for _, name := range []string{"v", "", "V", "a b"} {
			for _, quota := range []int{0, 3, -1, 268435457} {
				v, e := Open(d, name, quota)
				is(t, "Open of "+name, e, api.ErrNil)
				if v != nil {
					t.Error(name, v)
				}
			}
		}
	}
}

func TestNamesAndQuotas(t *testing.T) {
	for _, name := range []string{"a", "z", "v", "abcdefghijklmnop"} {
		for _, quota := range []int{0, 1, 65536, 268435455, 268435456} {
			v, e := Open(disk.New(), name, quota)
			is(t, "Open of "+name, e, api.OK)
			has(t, name, v, nil)
		}
	}
	refused := func(name string, quota int) {
		t.Helper()
		d := disk.New()
		does(t, open(t, d, "v").Prepare(only(1, 2)))
		before := d.Files()
		d.Arm(0)
		v, e := Open(d, name, quota)
		is(t, "Open of "+name+", "+strconv.Itoa(quota), e, api.ErrArg)
		if v != nil || d.Dead() || !sameFiles(d.Files(), before) {
			t.Error("a call that is refused changes something")
		}
		stop(d)
		v, e = Open(d, name, quota)
		is(t, "Open on a dead disk of "+name+", "+strconv.Itoa(quota), e, api.ErrArg)
		if v != nil {
			t.Error(v)
		}
	}
	for _, name := range []string{"", "A", "`", "{", "v.", "v1", "a b", "é", "\x00", "v-", strings.Repeat("a", 17)} {
		refused(name, 5)
		refused(name, -5)
	}
	for _, quota := range []int{-1, math.MinInt, 268435457, math.MaxInt} {
		refused("v", quota)
	}
}

func TestOpenOfADiskThatHasStopped(t *testing.T) {
	d := disk.New()
	does(t, open(t, d, "v").Prepare(only(1, 2)))
	stop(d)
	v, e := Open(d, "v", 5)
	is(t, "Open", e, api.ErrDead)
	if v != nil {
		t.Error(v)
	}
	has(t, "behind a crash", crashed(t, d), holding(only(1, 2)))
}

func TestOpenOfADiskThatStopsMeanwhile(t *testing.T) {
	for n := range 1000 {
		d := disk.New()
		v := open(t, d, "v")
		does(t, v.Prepare(only(1, 2)), v.Prepare(only(2, 3)), v.Settle(name(2, 0, 1)))
		d.Arm(n)
		v, e := Open(d, "v", 5)
		if e == api.OK {
			return
		}
		is(t, "Open", e, api.ErrDead)
		if v != nil || !d.Dead() {
			t.Error(v, d.Dead())
		}
		has(t, "behind a crash", crashed(t, d), holding(only(1, 2), done(only(2, 3))))
	}
	t.Error("Open never ends")
}

func TestOpenOfADiskWithoutItsFiles(t *testing.T) {
	d := disk.New()
	d.Arm(0)
	has(t, "nothing is there", open(t, d, "v"), nil)
	if len(d.Names()) != 0 || d.Dead() {
		t.Error(d.Names(), d.Dead())
	}
	d = disk.New()
	crowd(t, d, 256)
	has(t, "a disk that is full", open(t, d, "v"), nil)
}

func TestListRises(t *testing.T) {
	ids := []api.ChunkID{
		name(0, 0, 0), name(0, 0, 1), name(0, 1, 0), name(0, 9, 0), name(0, 10, 0), name(0, 254, 9),
		name(1, 0, math.MaxUint64), name(1, 1, 0), name(1, 1, 1), name(1, 1, 256), name(1, 2, 0), name(1, 2, 2), name(2, 0, 1), name(256, 0, 0),
		name(1<<63-1, 3, 0), name(1<<63, 2, 0), name(math.MaxUint64, 1, math.MaxUint64-1), name(math.MaxUint64, 1, math.MaxUint64),
	}
	for seed := range 20 {
		chance := draws(seed)
		d := disk.New()
		v := open(t, d, "v")
		left := slices.Clone(ids)
		for len(left) > 0 {
			i := chance.below(len(left))
			c := api.Chunk{Head: api.Header{ID: left[i], K: 1, N: 255}}
			c.Head.Sum = octet.Crc(nil)
			does(t, v.Prepare(c))
			left = slices.Delete(left, i, i+1)
		}
		if !slices.Equal(v.List(), ids) || !slices.Equal(open(t, d, "v").List(), ids) {
			t.Fatal(v.List())
		}
		for _, i := range []int{17, 5, 0} {
			does(t, v.Drop(ids[i]))
		}
		want := slices.Concat(ids[1:5], ids[6:17])
		if !slices.Equal(v.List(), want) || !slices.Equal(crashed(t, d).List(), want) {
			t.Fatal(v.List())
		}
	}
}

func TestUsed(t *testing.T) {
	d := disk.New()
	v := open(t, d, "v")
	for i, step := range []struct {
		do   func() api.Errno
		want int
	}{
		{func() api.Errno { return v.Prepare(only(1, 1, 2, 3)) }, 3},
		{func() api.Errno { return v.Prepare(only(1, 1, 2, 3)) }, 3},
		{func() api.Errno { return v.Prepare(only(2)) }, 3},
		{func() api.Errno { return v.Prepare(only(3, make([]byte, 65536)...)) }, 65539},
		{func() api.Errno { return v.Settle(name(1, 0, 1)) }, 65539},
		{func() api.Errno { return v.Rot(name(1, 0, 1), 7) }, 65539},
		{func() api.Errno { return v.Drop(name(7, 0, 1)) }, 65539},
		{func() api.Errno { return v.Drop(name(3, 0, 1)) }, 3},
		{func() api.Errno { return v.Drop(name(2, 0, 1)) }, 3},
		{func() api.Errno { return v.Drop(name(1, 0, 1)) }, 0},
	} {
		does(t, step.do())
		if v.Used() != step.want || open(t, d, "v").Used() != step.want {
			t.Error(i, v.Used(), step.want)
		}
		v = open(t, d, "v")
	}
}

func TestItKeepsThemInAJournalOfThatName(t *testing.T) {
	d := disk.New()
	v := open(t, d, "v")
	does(t, v.Prepare(only(1, 2)), v.Settle(name(1, 0, 1)), v.Prepare(only(2, 3)), v.Rot(name(2, 0, 1), 1), v.Drop(name(1, 0, 1)))
	for _, file := range d.Names() {
		if !strings.HasPrefix(file, "v.") {
			t.Error("a file", file)
		}
	}
	j, e := journal.Open(d, "v")
	is(t, "the journal", e, api.OK)
	if len(j.Base()) == 0 && len(j.Records()) == 0 {
		t.Error("the journal has nothing")
	}
	does(t, j.Checkpoint(nil))
	has(t, "without what the journal had", open(t, d, "v"), nil)
}

func TestItTouchesNoFilesOfOthers(t *testing.T) {
	d := disk.New()
	for i, name := range []string{"v", "vv.0.0", "w.0.0", "V.0.0", "v0.0", "u.1.0", "v-0", "\x00v.0.0"} {
		does(t, d.Write(name, i, bytes.Repeat([]byte{byte(i + 1)}, 64)))
	}
	before := d.Files()
	for i := range 20 {
		v := open(t, d, "v")
		does(t, v.Prepare(only(uint64(i), make([]byte, 50000)...)), v.Drop(name(uint64(i-3), 0, 1)))
		if !sameFiles(slices.DeleteFunc(d.Files(), func(f api.File) bool { return strings.HasPrefix(f.Name, "v.") }), before) {
			t.Fatal("files of others have changed")
		}
	}
}

func TestTwoVaultsOnOneDisk(t *testing.T) {
	d := disk.New()
	a, b := open(t, d, "v"), open(t, d, "vv")
	does(t, a.Prepare(only(1, 1)), b.Prepare(only(1, 2)), a.Settle(name(1, 0, 1)), b.Prepare(only(2, 3)), b.Rot(name(2, 0, 1), 0))
	for range 2 {
		has(t, "v", a, holding(done(only(1, 1))))
		has(t, "vv", b, holding(only(1, 2), turn(only(2, 3), 0)))
		d.Crash(nil)
		a, b = open(t, d, "v"), open(t, d, "vv")
	}
	stop(d)
	is(t, "v", a.Settle(name(1, 0, 1)), api.ErrDead)
	is(t, "vv", b.Settle(name(1, 0, 1)), api.ErrDead)
	other := disk.New()
	has(t, "another disk", open(t, other, "v"), nil)
}

func TestVaultsThatOpenDidNotGive(t *testing.T) {
	bad := only(1, 2)
	bad.Data = nil
	for _, v := range []*Vault{nil, {}, new(Vault)} {
		for range 2 {
			for _, c := range []api.Chunk{only(1, 2), bad, {}} {
				is(t, "Prepare", v.Prepare(c), api.ErrNil)
			}
			is(t, "Settle", v.Settle(name(1, 0, 1)), api.ErrNil)
			is(t, "Drop", v.Drop(name(1, 0, 1)), api.ErrNil)
			is(t, "Rot", v.Rot(name(1, 0, 1), -1), api.ErrNil)
			c, e := v.Get(name(1, 0, 1))
			is(t, "Get", e, api.ErrNil)
			if !reflect.DeepEqual(c, api.Chunk{}) || v.Used() != 0 || len(v.List()) != 0 || len(v.Scrub()) != 0 {
				t.Error(c, v.Used(), v.List(), v.Scrub())
			}
		}
		if v != nil && !reflect.DeepEqual(*v, Vault{}) {
			t.Error("it is changed")
		}
	}
}

func TestAnotherQuota(t *testing.T) {
	d := disk.New()
	v := open(t, d, "v")
	does(t, v.Prepare(only(1, 2, 3)), v.Prepare(only(2, 4, 5)))
	v, e := Open(d, "v", 3)
	is(t, "Open", e, api.OK)
	all := holding(only(1, 2, 3), only(2, 4, 5))
	has(t, "more than the quota", v, all)
	is(t, "one more", v.Prepare(only(3, 6)), api.ErrQuota)
	is(t, "one more, of no bytes", v.Prepare(only(3)), api.ErrQuota)
	is(t, "the same again", v.Prepare(only(1, 2, 3)), api.OK)
	does(t, v.Settle(name(1, 0, 1)), v.Drop(name(2, 0, 1)), v.Prepare(only(3, 6)))
	has(t, "as many as may be", v, holding(done(only(1, 2, 3)), only(3, 6)))
}

// What stands in the journal is no vault's, if another one wrote it.
func TestAJournalWithOtherRecords(t *testing.T) {
	var chance draws
	good := step{kind: kept, head: only(1, 2).Head, data: []byte{2}}.put()
	for i := range 3000 {
		d := disk.New()
		j, e := journal.Open(d, "v")
		does(t, e)
		rows := [][]byte{nil, {0}, {1}, {255}, good[:len(good)-1], chance.fill(chance.below(30)), append([]byte{byte(1 + chance.below(4))}, chance.fill(20)...)}
		if i%2 == 0 {
			does(t, j.Checkpoint(append([]byte{byte(chance.below(4))}, rows[chance.below(len(rows))]...)))
		}
		for range 3 {
			does(t, j.Append(rows[chance.below(len(rows))]))
		}
		v := open(t, d, "v")
		before := len(v.List())
		for _, id := range v.List() {
			v.Get(id)
			does(t, v.Settle(id), v.Drop(id), v.Prepare(only(1, 2)), v.Drop(name(1, 0, 1)))
		}
		if len(v.List()) != 0 || v.Used() != 0 {
			t.Fatal(before, v.List(), v.Used())
		}
		does(t, v.Prepare(only(1, 2)), v.Settle(name(1, 0, 1)))
		has(t, "behind other records", crashed(t, d), holding(done(only(1, 2))))
	}
}

// P9.2

func TestExample(t *testing.T) {
	d := disk.New()
	v := open(t, d, "v")
	does(t, v.Prepare(only(1, 2)))
	v = crashed(t, d)
	has(t, "a crash", v, holding(only(1, 2)))
	does(t, v.Rot(name(1, 0, 1), 0))
	_, e := v.Get(name(1, 0, 1))
	is(t, "Get", e, api.ErrRot)
	if !slices.Equal(v.Scrub(), []api.ChunkID{name(1, 0, 1)}) {
		t.Error(v.Scrub())
	}
}

func TestChunksOfObjects(t *testing.T) {
	var chance draws
	d := disk.New()
	v := open(t, d, "v")
	want := shelf{}
	for i, size := range []int{0, 1, 2, 63, 64, 65, 1000, 65535, 65536} {
		for epoch, code := range [][2]int{{1, 1}, {1, 3}, {2, 4}, {7, 7}, {200, 255}} {
			k, n := code[0], code[1]
			chunks, e := stripe.Encode(chance.fill(size), k, n)
			is(t, "Encode", e, api.OK)
			heads, e := stripe.Heads(chunks, name(uint64(i), 0, uint64(epoch)), size, k)
			is(t, "Heads", e, api.OK)
			for _, at := range slices.Compact([]int{0, n / 2, n - 1}) {
				c := api.Chunk{Head: heads[at], Data: chunks[at]}
				does(t, v.Prepare(c))
				want[c.Head.ID] = c
			}
		}
	}
	has(t, "prepared", v, want)
	v = crashed(t, d)
	has(t, "found", v, want)
	for id, c := range want {
		does(t, v.Settle(id))
		want[id] = done(c)
	}
	has(t, "settled", v, want)
	has(t, "settled, and found", crashed(t, d), want)
}

func TestPrepareIsNotDone(t *testing.T) {
	d := disk.New()
	v := open(t, d, "v")
	does(t, v.Prepare(done(only(1, 2))))
	has(t, "Done, as it came", v, holding(only(1, 2)))
	does(t, v.Settle(name(1, 0, 1)), v.Prepare(only(1, 2)))
	has(t, "again, not Done", v, holding(done(only(1, 2))))
	does(t, v.Prepare(done(only(1, 2))))
	has(t, "again, Done", crashed(t, d), holding(done(only(1, 2))))
}

func TestPrepareAgain(t *testing.T) {
	d := disk.New()
	v := open(t, d, "v")
	there := only(1, 2, 3)
	does(t, v.Prepare(there))
	d.Arm(0)
	is(t, "the same again", v.Prepare(there), api.OK)
	if d.Dead() {
		t.Error("nothing changes, but the disk is asked for it")
	}
	d.Arm(-1)
	others := []api.Chunk{only(1, 2, 4), only(1, 2), only(1), there, there, there}
	others[3].Head.N = 2
	others[4].Head.K, others[4].Head.N, others[4].Head.Size = 2, 2, 4
	others[5].Head.K, others[5].Head.N, others[5].Head.Size = 2, 2, 3
	for i, c := range others {
		is(t, "Whole", stripe.Whole(c), api.OK)
		is(t, "number "+strconv.Itoa(i), v.Prepare(c), api.ErrOther)
		has(t, "as it was", v, holding(there))
	}
	near := []api.Chunk{there, there, there}
	near[0].Head.ID.Version = 2
	near[1].Head.ID.Epoch = 2
	near[2].Head.ID.Index, near[2].Head.N = 1, 2
	for _, c := range near {
		does(t, v.Prepare(c))
	}
	has(t, "other names", crashed(t, d), holding(append(near, there)...))
}

func TestPrepareOfWhatIsNotWhole(t *testing.T) {
	good := only(1, 2, 3)
	rot, short, long, none, sum := good, good, good, good, good
	rot.Data = []byte{2, 2}
	short.Data = []byte{2}
	long.Data = []byte{2, 3, 0}
	none.Data = nil
	sum.Head.Sum++
	k, n, at, size := good, good, good, good
	k.Head.K = 0
	n.Head.N = 256
	at.Head.ID.Index = 1
	size.Head.Size = -1
	zero := api.Chunk{}
	for _, quota := range []int{0, 1000} {
		d := disk.New()
		v, e := Open(d, "v", quota)
		does(t, e)
		d.Arm(0)
		for i, c := range []api.Chunk{rot, short, long, none, sum, k, n, at, size, zero} {
			want := stripe.Whole(c)
			if want == api.OK {
				t.Fatal(i, "is whole")
			}
			is(t, "number "+strconv.Itoa(i), v.Prepare(c), want)
		}
		has(t, "nothing", v, nil)
		if d.Dead() || len(d.Names()) > 0 {
			t.Error("a call that is refused changes something")
		}
	}
	v := open(t, disk.New(), "v")
	does(t, v.Prepare(good))
	is(t, "not whole, of a chunk that is there", v.Prepare(rot), api.ErrRot)
	is(t, "too short, of a chunk that is there", v.Prepare(short), api.ErrPiece)
	is(t, "no header, of a chunk that is there", v.Prepare(k), api.ErrArg)
	has(t, "as it was", v, holding(good))
}

func TestQuota(t *testing.T) {
	d := disk.New()
	v, e := Open(d, "v", 5)
	does(t, e)
	d.Arm(0)
	is(t, "more than all", v.Prepare(only(1, make([]byte, 6)...)), api.ErrQuota)
	if d.Dead() {
		t.Error("the disk is asked")
	}
	d.Arm(-1)
	does(t, v.Prepare(only(1, 1, 2, 3)))
	is(t, "a byte too much", v.Prepare(only(2, 1, 2, 3)), api.ErrQuota)
	has(t, "as it was", v, holding(only(1, 1, 2, 3)))
	does(t, v.Prepare(only(2, 1, 2)), v.Prepare(only(3)))
	is(t, "it is full", v.Prepare(only(4, 1)), api.ErrQuota)
	is(t, "what is there", v.Prepare(only(2, 1, 2)), api.OK)
	is(t, "another of that name", v.Prepare(only(2, 1, 2, 3, 4, 5, 6)), api.ErrOther)
	does(t, v.Prepare(only(5)), v.Drop(name(2, 0, 1)))
	is(t, "a byte too much again", v.Prepare(only(2, 1, 2, 3)), api.ErrQuota)
	does(t, v.Prepare(only(4, 1)), v.Prepare(only(6, 1)))
	v, e = Open(d, "v", 5)
	does(t, e)
	is(t, "full, as it is found", v.Prepare(only(7, 1)), api.ErrQuota)
	v, e = Open(disk.New(), "v", 0)
	does(t, e)
	is(t, "a quota of nothing", v.Prepare(only(1, 1)), api.ErrQuota)
	is(t, "and a chunk of nothing", v.Prepare(only(1)), api.OK)
}

func TestSettle(t *testing.T) {
	d := disk.New()
	v := open(t, d, "v")
	does(t, v.Prepare(only(1, 2)), v.Prepare(only(2, 3)))
	for _, id := range []api.ChunkID{name(3, 0, 1), name(1, 1, 1), name(1, 0, 2), name(1, -1, 1), {}} {
		is(t, "no such chunk", v.Settle(id), api.ErrChunk)
	}
	does(t, v.Settle(name(2, 0, 1)), v.Settle(name(2, 0, 1)))
	want := holding(only(1, 2), done(only(2, 3)))
	has(t, "settled", v, want)
	has(t, "found", crashed(t, d), want)
	v = open(t, d, "v")
	does(t, v.Rot(name(1, 0, 1), 0), v.Settle(name(1, 0, 1)), v.Rot(name(1, 0, 1), 0))
	has(t, "rotten, and again not", crashed(t, d), holding(done(only(1, 2)), done(only(2, 3))))
}

func TestDrop(t *testing.T) {
	d := disk.New()
	v := open(t, d, "v")
	does(t, v.Prepare(only(1, 2)), v.Prepare(only(2, 3)), v.Settle(name(1, 0, 1)))
	for _, id := range []api.ChunkID{name(3, 0, 1), name(1, 1, 1), name(1, 0, 2), name(1, -1, 1), {}} {
		is(t, "no such chunk", v.Drop(id), api.OK)
	}
	has(t, "as it was", v, holding(done(only(1, 2)), only(2, 3)))
	does(t, v.Drop(name(1, 0, 1)), v.Drop(name(1, 0, 1)))
	has(t, "dropped", v, holding(only(2, 3)))
	v = crashed(t, d)
	has(t, "found", v, holding(only(2, 3)))
	is(t, "Settle", v.Settle(name(1, 0, 1)), api.ErrChunk)
	_, e := v.Get(name(1, 0, 1))
	is(t, "Get", e, api.ErrChunk)
	does(t, v.Prepare(only(1, 4, 5)))
	has(t, "another of that name", crashed(t, d), holding(only(1, 4, 5), only(2, 3)))
}

func TestMemoryIsTheCallersOwn(t *testing.T) {
	d := disk.New()
	v := open(t, d, "v")
	c := only(1, []byte("bytes, with room behind them")[:5]...)
	want := only(1, []byte("bytes")...)
	does(t, v.Prepare(c))
	if string(c.Data[:10]) != "bytes, wit" {
		t.Errorf("what is handed in is changed: %q", c.Data[:10])
	}
	clear(c.Data)
	spoil := func(v *Vault) {
		x, e := v.Get(c.Head.ID)
		does(t, e)
		_ = append(x.Data, "and more"...)
		clear(x.Data)
		clear(v.List())
		does(t, v.Rot(c.Head.ID, 0))
		clear(v.Scrub())
		does(t, v.Rot(c.Head.ID, 0))
	}
	spoil(v)
	has(t, "changed by the caller", v, holding(want))
	v = open(t, d, "v")
	spoil(v)
	has(t, "found, and changed by the caller", v, holding(want))
	has(t, "found again", open(t, d, "v"), holding(want))
}

func TestCallsOnADeadDisk(t *testing.T) {
	d := disk.New()
	v, e := Open(d, "v", 5)
	does(t, e, v.Prepare(only(1, 2)), v.Prepare(only(2, 3)), v.Rot(name(2, 0, 1), 0))
	stop(d)
	bad := only(3, 4)
	bad.Head.Sum++
	for _, c := range []api.Chunk{only(1, 2), only(1, 3), only(3, 4), only(3, make([]byte, 6)...), bad, {}} {
		is(t, "Prepare", v.Prepare(c), api.ErrDead)
	}
	for _, id := range []api.ChunkID{name(1, 0, 1), name(2, 0, 1), name(3, 0, 1)} {
		is(t, "Settle", v.Settle(id), api.ErrDead)
		is(t, "Drop", v.Drop(id), api.ErrDead)
		is(t, "Rot", v.Rot(id, 0), api.ErrDead)
		is(t, "Rot of no bit", v.Rot(id, -1), api.ErrDead)
		c, e := v.Get(id)
		is(t, "Get", e, api.ErrDead)
		if !reflect.DeepEqual(c, api.Chunk{}) {
			t.Error(c)
		}
	}
	if len(v.List()) != 2 || v.Used() != 2 || !slices.Equal(v.Scrub(), []api.ChunkID{name(2, 0, 1)}) {
		t.Error(v.List(), v.Used(), v.Scrub())
	}
	has(t, "behind a crash", crashed(t, d), holding(only(1, 2), turn(only(2, 3), 0)))
}

func TestADiskThatIsFull(t *testing.T) {
	d := disk.New()
	crowd(t, d, 256)
	v := open(t, d, "v")
	c := only(1, 2, 3)
	for n := range 3 {
		d.Arm(n)
		is(t, "Prepare", v.Prepare(c), api.ErrFull)
		is(t, "Settle", v.Settle(c.Head.ID), api.ErrChunk)
		is(t, "Drop", v.Drop(c.Head.ID), api.OK)
		has(t, "nothing", v, nil)
		if d.Dead() {
			t.Fatal("the disk is asked")
		}
	}
	bad := c
	bad.Head.Sum++
	is(t, "Prepare of what is not whole", v.Prepare(bad), api.ErrRot)
	d.Arm(-1)
	v, e := Open(d, "v", 1)
	does(t, e)
	is(t, "Prepare above the quota", v.Prepare(c), api.ErrQuota)
	does(t, d.Remove("other7"))
	v = open(t, d, "v")
	does(t, v.Prepare(c), v.Settle(c.Head.ID), v.Prepare(only(2, 4)))
	has(t, "room for a file", crashed(t, d), holding(done(c), only(2, 4)))
}

// A disk that is full of chunks takes no more of them, but lets all that are there be Done, and go.
func TestADiskThatIsFullOfChunks(t *testing.T) {
	t.Parallel()
	for _, many := range []int{65536, 9000, 300} {
		for _, free := range []int{1, 2} {
			d := disk.New()
			crowd(t, d, 256-free)
			v := open(t, d, "v")
			want := shelf{}
			for i := 0; ; i++ {
				c := only(uint64(i), make([]byte, many)...)
				e := v.Prepare(c)
				if e == api.ErrFull {
					break
				}
				does(t, e)
				want[c.Head.ID] = c
			}
			if want.used() < free*2500000 {
				t.Error("only", want.used(), "bytes in", free, "files, by chunks of", many)
			}
			v = crashed(t, d)
			has(t, "all that was prepared", v, want)
			for id, c := range want {
				does(t, v.Settle(id))
				want[id] = done(c)
			}
			has(t, "settled", v, want)
			has(t, "settled, and found", crashed(t, d), want)
			v = open(t, d, "v")
			for id := range want {
				does(t, v.Drop(id))
			}
			has(t, "dropped", v, nil)
			// The greatest chunk that there is room for may be Done, and go, too.
			for size := 65536; size > 0; size -= 61 {
				c := only(1, make([]byte, size)...)
				if v.Prepare(c) == api.OK {
					does(t, v.Settle(c.Head.ID))
					has(t, "one more", v, holding(done(c)))
					does(t, v.Drop(c.Head.ID))
					break
				}
			}
			does(t, d.Remove("other0"))
			c := only(1, 2, 3)
			does(t, v.Prepare(c))
			has(t, "room again", crashed(t, d), holding(c))
		}
	}
}

// P9.3

func TestGet(t *testing.T) {
	v := open(t, disk.New(), "v")
	does(t, v.Prepare(only(1, 2, 3)))
	for _, id := range []api.ChunkID{name(2, 0, 1), name(1, 1, 1), name(1, 0, 2), name(1, -1, 1), {}} {
		c, e := v.Get(id)
		is(t, "no such chunk", e, api.ErrChunk)
		if !reflect.DeepEqual(c, api.Chunk{}) {
			t.Error(c)
		}
	}
	has(t, "the chunk", v, holding(only(1, 2, 3)))
}

func TestRotTurnsABit(t *testing.T) {
	var chance draws
	d := disk.New()
	v := open(t, d, "v")
	c := only(1, chance.fill(9)...)
	does(t, v.Prepare(c), v.Prepare(only(2, 5)), v.Settle(name(2, 0, 1)))
	rest := holding(done(only(2, 5)))
	for bit := range 72 {
		does(t, v.Rot(c.Head.ID, bit))
		has(t, "turned", v, rest.with(turn(c, bit)))
		v = crashed(t, d)
		has(t, "turned, and found", v, rest.with(turn(c, bit)))
		does(t, v.Rot(c.Head.ID, bit))
		has(t, "turned back", v, rest.with(c))
	}
}

// Bits that are turned without a change of the sum are seen by Get.
func TestRotTurnsThatBit(t *testing.T) {
	var chance draws
	for many := 5; many < 40; many++ {
		d := disk.New()
		v := open(t, d, "v")
		c := only(1, chance.fill(many)...)
		does(t, v.Prepare(c), v.Settle(c.Head.ID))
		x := done(c)
		mask := chance.fill(many - 4)
		mask = append(mask, octet.Word(octet.Crc(mask)^octet.Crc(make([]byte, many-4)))...)
		for bit := range 8 * many {
			if mask[bit/8]>>(bit%8)&1 == 1 {
				x = turn(x, bit)
				does(t, v.Rot(c.Head.ID, bit))
			}
		}
		if bytes.Equal(x.Data, c.Data) {
			t.Fatal("nothing is turned")
		}
		has(t, "turned", v, holding(x))
		has(t, "turned, and found", crashed(t, d), holding(x))
	}
}

func TestRotOfSeveralBits(t *testing.T) {
	d := disk.New()
	v := open(t, d, "v")
	c := only(1, 0, 0, 0)
	does(t, v.Prepare(c))
	for bit := range 24 {
		does(t, v.Rot(c.Head.ID, bit))
	}
	has(t, "all of them", crashed(t, d), holding(turn(c, 0)))
	v = open(t, d, "v")
	for bit := range 24 {
		does(t, v.Rot(c.Head.ID, bit))
	}
	has(t, "and back", crashed(t, d), holding(c))
}

func TestRotOfWhatIsNot(t *testing.T) {
	d := disk.New()
	v := open(t, d, "v")
	does(t, v.Prepare(only(1, 2, 3)), v.Prepare(only(2)))
	d.Arm(0)
	for _, bit := range []int{-1, 16, 17, -16, math.MinInt, math.MaxInt} {
		is(t, "bit "+strconv.Itoa(bit), v.Rot(name(1, 0, 1), bit), api.ErrArg)
		is(t, "bit "+strconv.Itoa(bit)+" of no chunk", v.Rot(name(3, 0, 1), bit), api.ErrChunk)
	}
	is(t, "a bit of no bytes", v.Rot(name(2, 0, 1), 0), api.ErrArg)
	is(t, "a bit of no chunk", v.Rot(name(3, 0, 1), 0), api.ErrChunk)
	if d.Dead() {
		t.Error("the disk is asked")
	}
	has(t, "as it was", v, holding(only(1, 2, 3), only(2)))
}

func TestScrubRises(t *testing.T) {
	d := disk.New()
	v := open(t, d, "v")
	want := shelf{}
	for i := range 40 {
		c := only(uint64(i*37%41), byte(i), 7)
		does(t, v.Prepare(c))
		if i%3 == 0 {
			c = turn(c, i%16)
			does(t, v.Rot(c.Head.ID, i%16))
		}
		want[c.Head.ID] = c
	}
	if len(v.Scrub()) != 14 || !slices.IsSortedFunc(v.Scrub(), byName) {
		t.Error(v.Scrub())
	}
	has(t, "some of them", v, want)
	has(t, "some of them, found", crashed(t, d), want)
}

func TestAChunkThatRottedAndComesAgain(t *testing.T) {
	d := disk.New()
	v := open(t, d, "v")
	c := only(1, 2, 3)
	does(t, v.Prepare(c), v.Settle(c.Head.ID), v.Rot(c.Head.ID, 9))
	is(t, "it comes again", v.Prepare(c), api.ErrOther)
	x := turn(c, 9)
	is(t, "as it rotted", v.Prepare(x), api.ErrRot)
	x.Head.Sum = octet.Crc(x.Data)
	is(t, "as it rotted, with its sum", v.Prepare(x), api.ErrOther)
	does(t, v.Drop(c.Head.ID), v.Prepare(c))
	has(t, "dropped, and prepared", crashed(t, d), holding(c))
}

// P9.4

// task is a call, and what it makes of a shelf.
type task struct {
	what string
	call func(*Vault) api.Errno
	then func(shelf) shelf
}

func preparing(c api.Chunk) task {
	return task{"Prepare", func(v *Vault) api.Errno { return v.Prepare(c) }, func(s shelf) shelf {
		if _, ok := s[c.Head.ID]; ok {
			return s
		}
		c.Done = false
		return s.with(c)
	}}
}

func settling(id api.ChunkID) task {
	return task{"Settle", func(v *Vault) api.Errno { return v.Settle(id) }, func(s shelf) shelf {
		if c, ok := s[id]; ok {
			return s.with(done(c))
		}
		return s
	}}
}

func dropping(id api.ChunkID) task {
	return task{"Drop", func(v *Vault) api.Errno { return v.Drop(id) }, func(s shelf) shelf { return s.without(id) }}
}

func rotting(id api.ChunkID, bit int) task {
	return task{"Rot", func(v *Vault) api.Errno { return v.Rot(id, bit) }, func(s shelf) shelf {
		if c, ok := s[id]; ok && bit < 8*len(c.Data) {
			return s.with(turn(c, bit))
		}
		return s
	}}
}

// found fails the test unless a vault has what a call that was refused would have made, or what was there ahead of it, and answers which.
func found(t *testing.T, what string, v *Vault, before, behind shelf) shelf {
	t.Helper()
	if behind.differs(v) == "" {
		return behind
	}
	has(t, what, v, before)
	return before
}

func TestACrashAtEachStep(t *testing.T) {
	t.Parallel()
	var chance draws
	a, b, c := only(1, chance.fill(3)...), only(2, chance.fill(200)...), only(3, chance.fill(700)...)
	start := []task{preparing(a), preparing(b), settling(b.Head.ID)}
	for _, last := range []task{
		preparing(c), preparing(only(4)), settling(a.Head.ID), dropping(a.Head.ID), dropping(b.Head.ID), rotting(b.Head.ID, 1000), rotting(a.Head.ID, 0),
	} {
		kept, lost := 0, 0
		ended := false
		for n := 0; !ended; n++ {
			for bits := range 300 {
				d := disk.New()
				v := open(t, d, "v")
				before := shelf{}
				for _, x := range start {
					does(t, x.call(v))
					before = x.then(before)
				}
				if bits%2 == 1 {
					v.laid = math.MaxInt // so that the journal is made anew
				}
				d.Arm(n)
				e := last.call(v)
				keep := []byte{byte(chance.below(8)), byte(bits), byte(bits >> 8), byte(chance.next())}
				switch bits {
				case 0:
					keep = nil
				case 1:
					keep = bytes.Repeat([]byte{255}, 20)
				}
				if e == api.OK {
					ended = ended || bits%2 == 1
					before = last.then(before)
				} else {
					is(t, last.what, e, api.ErrDead)
					if !d.Dead() {
						t.Fatal("it has not stopped")
					}
				}
				d.Crash(keep)
				v = open(t, d, "v")
				now := found(t, last.what+" behind "+strconv.Itoa(n)+" steps", v, before, last.then(before))
				if e != api.OK && len(now) == len(last.then(before)) {
					kept++
				} else {
					lost++
				}
				z := only(9, 9)
				does(t, v.Prepare(z), v.Drop(a.Head.ID))
				has(t, "behind that", crashed(t, d), now.with(z).without(a.Head.ID))
			}
		}
		if kept == 0 || lost == 0 {
			t.Error(last.what, kept, lost)
		}
	}
}

// chunks are whole chunks of many lengths, a few of one name among them.
func chunks(chance *draws) []api.Chunk {
	var list []api.Chunk
	for i, many := range []int{0, 1, 20, 21, 63, 64, 126, 300, 700, 2000, 20, 5} {
		c := only(uint64(i%10), chance.fill(many)...)
		if i%4 == 3 {
			c.Head.ID.Index, c.Head.N = 2, 3
		}
		list = append(list, c)
	}
	return list
}

// some is a call by chance.
func some(chance *draws, list []api.Chunk) task {
	c := list[chance.below(len(list))]
	switch x := chance.below(10); {
	case x < 5:
		return preparing(c)
	case x < 7:
		return settling(c.Head.ID)
	case x < 9:
		return dropping(c.Head.ID)
	}
	return rotting(c.Head.ID, chance.below(100))
}

// reopen opens a vault on a disk that may stop meanwhile, and crash, till it is open.
func reopen(t *testing.T, d *disk.Disk, name string, chance *draws) *Vault {
	t.Helper()
	for {
		if chance.below(2) == 0 {
			d.Arm(chance.below(12))
		}
		v, e := Open(d, name, 268435456)
		if e == api.ErrDead && d.Dead() {
			d.Crash(chance.bits())
			continue
		}
		does(t, e)
		d.Arm(-1)
		return v
	}
}

func TestCrashesByChance(t *testing.T) {
	t.Parallel()
	for seed := range 1500 {
		chance := draws(seed)
		list := chunks(&chance)
		d := disk.New()
		v := open(t, d, "v")
		now := shelf{}
		for range 12 {
			if chance.below(3) > 0 {
				d.Arm(chance.below(60))
			}
			before, behind := now, now
			for range chance.below(15) {
				if chance.below(4) == 0 {
					v.laid = math.MaxInt // so that the journal is made anew
				}
				x := some(&chance, list)
				e := x.call(v)
				if d.Dead() != (e == api.ErrDead) {
					t.Fatal(seed, e, d.Dead())
				}
				if e == api.ErrDead {
					behind = x.then(now)
					break
				}
				if e == api.OK {
					now = x.then(now)
				}
				before, behind = now, now
			}
			if d.Dead() || chance.below(2) == 0 {
				d.Crash(chance.bits())
			} else {
				d.Arm(-1)
				has(t, "its own", v, now)
			}
			v = reopen(t, d, "v", &chance)
			now = found(t, "seed "+strconv.Itoa(seed), v, before, behind)
		}
	}
}

// A vault that is not opened anew behind a crash has the chunks that it had: what was refused was not done.
func TestAnElderVaultBehindACrash(t *testing.T) {
	t.Parallel()
	for seed := range 1500 {
		chance := draws(seed)
		list := chunks(&chance)
		d := disk.New()
		v := open(t, d, "v")
		now := shelf{}
		for range 60 {
			if chance.below(4) == 0 {
				d.Arm(chance.below(10))
			}
			if chance.below(4) == 0 {
				v.laid = math.MaxInt // so that the journal is made anew
			}
			x := some(&chance, list)
			e := x.call(v)
			if e == api.OK {
				now = x.then(now)
			}
			if d.Dead() || chance.below(6) == 0 {
				d.Crash(chance.bits())
			}
			has(t, "seed "+strconv.Itoa(seed), v, now)
		}
		d.Arm(-1)
		does(t, v.Prepare(only(77, 7)))
		has(t, "found, seed "+strconv.Itoa(seed), crashed(t, d), now.with(only(77, 7)))
	}
}

// Calls that change something may be as many as there are; those that change nothing cost nothing.
func TestManyCalls(t *testing.T) {
	t.Parallel()
	d := disk.New()
	v := open(t, d, "v")
	stays, goes := only(1, 2, 3), only(2, 4, 5)
	does(t, v.Prepare(stays), v.Settle(stays.Head.ID))
	for i := range 70000 {
		does(t, v.Prepare(goes))
		if i%7 == 0 {
			does(t, v.Rot(goes.Head.ID, i%16))
		}
		does(t, v.Drop(goes.Head.ID))
	}
	if len(d.Names()) > 2 {
		t.Error("files that nobody needs:", d.Names())
	}
	does(t, v.Prepare(goes))
	has(t, "in the end", crashed(t, d), holding(done(stays), goes))
}

// So may those of a vault that has more than a record holds.
func TestManyCallsOfALargeVault(t *testing.T) {
	t.Parallel()
	var chance draws
	d := disk.New()
	v := open(t, d, "v")
	now := shelf{}
	for i := range 150 {
		c := only(uint64(i), chance.fill(65536)...)
		does(t, v.Prepare(c))
		now[c.Head.ID] = c
	}
	for i := range 80000 {
		id := name(uint64(i%150), 0, 1)
		does(t, v.Rot(id, i))
		now[id].Data[i/8] ^= 1 << (i % 8)
	}
	has(t, "turned", v, now)
	v = crashed(t, d)
	has(t, "turned, and found", v, now)
	for i := range 130 {
		id := name(uint64(i), 0, 1)
		does(t, v.Drop(id))
		delete(now, id)
	}
	has(t, "few of them", v, now)
	has(t, "few of them, found", crashed(t, d), now)
}
