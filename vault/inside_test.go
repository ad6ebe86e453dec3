package vault

import (
	"bytes"
	"math"
	"slices"
	"strconv"
	"strings"
	"testing"

	"buttress/api"
	"buttress/disk"
)

// These look at what is inside.

// large is a vault of more than a base holds, made anew so many times, and its chunks.
func large(t *testing.T, d *disk.Disk, many int, renewed int) (*Vault, shelf) {
	t.Helper()
	v, now := open(t, d, "v"), shelf{}
	for i := range many {
		c := only(uint64(i), bytes.Repeat([]byte{byte(i)}, 65536)...)
		does(t, v.Prepare(c))
		now[c.Head.ID] = c
	}
	does(t, v.Settle(name(3, 0, 1)))
	now[name(3, 0, 1)] = done(now[name(3, 0, 1)])
	for range renewed {
		does(t, v.renew())
	}
	return v, now
}

// annexed are the names of the annexes on a disk.
func annexed(d *disk.Disk) []string {
	return slices.DeleteFunc(d.Names(), func(file string) bool { return !strings.HasPrefix(file, "v-") })
}

func TestALargeVaultMadeAnew(t *testing.T) {
	t.Parallel()
	d := disk.New()
	v, now := large(t, d, 150, 0)
	for round, want := range [][]string{{"v-1-0", "v-1-1"}, {"v-2-0", "v-2-1"}, {"v-1-0", "v-1-1"}} {
		does(t, v.renew())
		if !slices.Equal(annexed(d), want) {
			t.Error(round, d.Names())
		}
		if len(v.Records()) > 0 {
			t.Error("records are left")
		}
		has(t, "its own", v, now)
		id := name(uint64(40*round), 0, 1)
		does(t, v.Rot(id, round))
		now[id] = turn(now[id], round)
		v = crashed(t, d)
		has(t, "found", v, now)
	}
	for i := range 100 {
		id := name(uint64(i), 0, 1)
		does(t, v.Drop(id))
		delete(now, id)
	}
	does(t, v.renew())
	if len(annexed(d)) > 0 {
		t.Error("annexes that nobody needs:", d.Names())
	}
	has(t, "a small one", crashed(t, d), now)
}

// stepsOf is how many calls that a disk counts a large vault is made anew by.
func stepsOf(t *testing.T, renewed int) int {
	t.Helper()
	const more = 100000
	d := disk.New()
	v, _ := large(t, d, 70, renewed)
	d.Arm(more)
	does(t, v.renew())
	left := 0
	for d.Sync(d.Names()[0]) == api.OK {
		left++
	}
	return more - left
}

func TestACrashWhileALargeVaultIsMadeAnew(t *testing.T) {
	t.Parallel()
	for renewed := range 2 {
		steps := stepsOf(t, renewed)
		chance := draws(renewed)
		at := []int{0, 1, chance.below(steps), chance.below(steps), chance.below(steps)}
		for i := range 8 {
			at = append(at, steps-1-i)
		}
		for _, n := range at {
			d := disk.New()
			v, now := large(t, d, 70, renewed)
			d.Arm(n)
			is(t, "renew", v.renew(), api.ErrDead)
			keep := bytes.Repeat([]byte{255}, 1<<14)
			if n%3 == 0 {
				keep = chance.fill(1 << 14)
			}
			if n%3 == 1 {
				keep = nil
			}
			d.Crash(keep)
			v = reopen(t, d, "v", &chance)
			has(t, "behind "+strconv.Itoa(n)+" steps", v, now)
			if files := annexed(d); len(files) > 1 || len(files) == 1 && files[0] != v.file(v.side, 0) {
				t.Error("annexes that nobody needs:", d.Names())
			}
		}
	}
}

// all is what a crash keeps all by, where no step of names waits.
func all() []byte {
	return append([]byte{0}, bytes.Repeat([]byte{255}, 1<<15)...)
}

// A vault that is not opened anew behind a crash does not know what its last checkpoint came to.
func TestALargeElderVault(t *testing.T) {
	t.Parallel()
	steps := stepsOf(t, 1)
	for i := range 8 {
		d := disk.New()
		v, now := large(t, d, 70, 1)
		d.Arm(steps - 1 - i)
		is(t, "renew", v.renew(), api.ErrDead)
		d.Crash(all())
		has(t, "its own", v, now)
		d.Arm(20)
		is(t, "renew again", v.renew(), api.ErrDead)
		d.Crash([]byte{byte(1 + i%2)})
		has(t, "found", open(t, d, "v"), now)
	}
}

func TestALargeElderVaultWithFewerChunks(t *testing.T) {
	t.Parallel()
	d := disk.New()
	v, now := large(t, d, 150, 0)
	d.Arm(140000)
	is(t, "renew", v.renew(), api.ErrDead)
	d.Crash(all())
	if len(annexed(d)) != 2 {
		t.Fatal("it has stopped elsewhere:", d.Names())
	}
	v.laid = 0 // so that it is not made anew meanwhile
	for i := range 60 {
		id := name(uint64(2*i), 0, 1)
		does(t, v.Drop(id))
		delete(now, id)
	}
	does(t, v.renew())
	if len(annexed(d)) != 1 {
		t.Error("annexes that nobody needs:", d.Names())
	}
	has(t, "found", crashed(t, d), now)
}

// Annexes that a crash brings back are found, and go, ahead of new ones on their side.
func TestAnnexesThatCameBack(t *testing.T) {
	t.Parallel()
	left := map[int]int{}
	for names := range 4 {
		d := disk.New()
		v, now := large(t, d, 135, 1)
		for i := range 80 {
			id := name(uint64(i), 0, 1)
			does(t, v.Drop(id))
			delete(now, id)
		}
		does(t, v.renew())
		d.Crash([]byte{byte(names)})
		left[len(annexed(d))]++
		v = open(t, d, "v")
		has(t, "found", v, now)
		if len(annexed(d)) > 0 {
			t.Error("annexes that nobody needs:", d.Names())
		}
		for i := range 20 {
			c := only(uint64(1000+i), bytes.Repeat([]byte{byte(i)}, 65536)...)
			does(t, v.Prepare(c))
			now[c.Head.ID] = c
		}
		does(t, v.renew())
		if !slices.Equal(annexed(d), []string{"v-1-0"}) {
			t.Error(d.Names())
		}
		has(t, "new ones", crashed(t, d), now)
	}
	if left[0] == 0 || left[1] == 0 || left[2] == 0 {
		t.Error("they never came back so:", left)
	}
}

func TestALargeVaultOnAFullDisk(t *testing.T) {
	t.Parallel()
	d := disk.New()
	v, now := large(t, d, 150, 1)
	before := d.Names()
	for free := range 4 {
		for i := range 256 - len(d.Names()) - free {
			does(t, d.Write("x"+strconv.Itoa(free)+strconv.Itoa(i), 0, make([]byte, 64)))
		}
		is(t, "renew", v.renew(), api.ErrFull)
		has(t, "its own", v, now)
		if !slices.Equal(annexed(d), []string{"v-1-0", "v-1-1"}) {
			t.Fatal("annexes that nobody needs:", d.Names())
		}
		v.laid = math.MaxInt / 2
		id := name(uint64(free), 0, 1)
		does(t, v.Rot(id, 5), v.Rot(id, 5))
		has(t, "found", crashed(t, d), now)
		v = open(t, d, "v")
		for _, file := range d.Names() {
			if !slices.Contains(before, file) {
				does(t, d.Remove(file))
			}
		}
	}
	// The disk stops when the first annex, for which there was room, is to go.
	for i := range 256 - len(d.Names()) - 1 {
		does(t, d.Write("y"+strconv.Itoa(i), 0, make([]byte, 64)))
	}
	v = open(t, d, "v")
	rows := v.rows()
	d.Arm((len(rows[1])+63)/64 + 2)
	is(t, "renew on a disk that stops", v.renew(), api.ErrDead)
	has(t, "found", crashed(t, d), now)
	for i := range 3 {
		does(t, d.Remove("y"+strconv.Itoa(i)))
	}
	v = open(t, d, "v")
	does(t, v.renew())
	has(t, "with room", crashed(t, d), now)
}

// What is gone takes no room for long.
func TestTheJournalIsMadeAnew(t *testing.T) {
	t.Parallel()
	for _, anew := range []bool{false, true} {
		d := disk.New()
		v := open(t, d, "v")
		stays := only(1, make([]byte, 1000)...)
		does(t, v.Prepare(stays))
		for i := range 100 {
			c := only(2, make([]byte, 30000)...)
			does(t, v.Prepare(c), v.Drop(c.Head.ID))
			if anew {
				v = open(t, d, "v")
			}
			if size := len(d.Files()[0].Data); len(d.Names()) > 1 || size > 110000 {
				t.Fatal(i, d.Names(), size)
			}
		}
		has(t, "found", crashed(t, d), holding(stays))
	}
}

func TestStepsOfWhatIsNotThere(t *testing.T) {
	v := open(t, disk.New(), "v")
	id := name(1, 0, 1)
	for _, kind := range []kind{settled, turned, dropped} {
		v.apply(step{kind: kind, head: api.Header{ID: id}})
		has(t, "nothing", v, nil)
	}
	v.apply(step{kind: kept, head: only(1, 2).Head, data: []byte{2}})
	for _, bit := range []int{8, -1, -8, math.MinInt, math.MaxInt} {
		v.apply(step{kind: turned, head: api.Header{ID: id, Size: bit}})
		has(t, "no such bit", v, holding(only(1, 2)))
	}
}

func TestStepsAreReadAsTheyArePut(t *testing.T) {
	c := only(math.MaxUint64, 1, 2, 3)
	c.Head.ID.Epoch = math.MaxUint64
	id := api.Header{ID: c.Head.ID}
	bit := api.Header{ID: c.Head.ID, Size: 524287}
	list := []step{{kept, c.Head, c.Data}, {settled, id, nil}, {turned, bit, nil}, {dropped, id, nil}, {kept, only(0).Head, nil}}
	var row []byte
	for _, s := range list {
		row = append(row, s.put()...)
	}
	for _, tail := range [][]byte{nil, make([]byte, 64)} {
		at := 0
		for i, want := range list {
			s, behind, ok := read(append(row, tail...), at)
			if !ok || s.kind != want.kind || s.head != want.head || !bytes.Equal(s.data, want.data) {
				t.Fatal(i, s, ok)
			}
			at = behind
		}
		if _, _, ok := read(append(row, tail...), at); ok || at != len(row) {
			t.Error("there is more")
		}
	}
	for at := range list[0].put() {
		if s, _, ok := read(list[0].put()[:at], 0); ok {
			t.Error("a piece is a step:", s)
		}
	}
	if _, _, ok := read(append([]byte{byte(dropped) + 1}, list[1].put()[1:]...), 0); ok {
		t.Error("a step of another kind")
	}
}

func TestStepsAreNoLongerThanIsCountedFor(t *testing.T) {
	c := api.Chunk{Head: api.Header{ID: name(math.MaxUint64, 254, math.MaxUint64), K: 255, N: 255, Size: 65536, Sum: math.MaxUint32}, Data: make([]byte, 258), Done: true}
	const framed = 12
	if got := len(making(c)) - 258 + framed; got > overhead {
		t.Error(got)
	}
	last := step{kind: settled, head: api.Header{ID: c.Head.ID}}
	if got := 2 * (len(last.put()) + framed); got > ending {
		t.Error(got)
	}
	c.Head.K, c.Data = 1, make([]byte, 65536)
	v := open(t, disk.New(), "v")
	for i := range 100 {
		c.Head.ID.Epoch = uint64(i)
		v.chunks[c.Head.ID] = c
	}
	for _, row := range v.rows() {
		if len(row) > longest {
			t.Error(len(row))
		}
	}
}
