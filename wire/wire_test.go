package wire

import (
	"bytes"
	"encoding/binary"
	"errors"
	"hash/crc32"
	"math"
	"reflect"
	"slices"
	"strings"
	"testing"

	"buttress/api"
)

// draws are numbers that look like chance, the same in every run.
type draws uint64

func (d *draws) next() uint64 {
	*d = *d*6364136223846793005 + 1442695040888963407
	x := uint64(*d)
	x ^= x >> 33
	x *= 0xff51afd7ed558ccd
	return x ^ x>>29
}

// below is a number from 0 below n.
func (d *draws) below(n int) int {
	return int(d.next() >> 1 % uint64(n))
}

// number has any length, and is often one beside which a number takes a byte more.
func (d *draws) number() uint64 {
	switch power := uint64(1) << d.below(64); d.below(4) {
	case 0:
		return d.next() >> d.below(64)
	case 1:
		return power
	case 2:
		return power - 1
	}
	return uint64(d.below(4))
}

// fill is a list of so many bytes, each one of those that may be, or any if there are none.
func (d *draws) fill(many int, may ...byte) []byte {
	list := make([]byte, many)
	for i := range list {
		list[i] = byte(d.next())
		if len(may) > 0 {
			list[i] = may[int(list[i])%len(may)]
		}
	}
	return list
}

// set fills v by chance; lists and texts have at most so many elements.
func (d *draws) set(v reflect.Value, most int) {
	switch v.Kind() {
	case reflect.Uint8, reflect.Uint32, reflect.Uint64:
		v.SetUint(d.number() & (1<<v.Type().Bits() - 1))
	case reflect.Int:
		v.SetInt(int64(d.number()))
	case reflect.Bool:
		v.SetBool(d.below(2) == 1)
	case reflect.String:
		v.SetString(string(d.fill(d.below(most + 1))))
	case reflect.Slice:
		v.Set(reflect.MakeSlice(v.Type(), d.below(most+1), most))
		for i := range v.Len() {
			d.set(v.Index(i), most)
		}
	case reflect.Struct:
		for i := range v.NumField() {
			d.set(v.Field(i), most)
		}
	}
}

// message is any message.
func (d *draws) message(most int) api.Msg {
	var m api.Msg
	d.set(reflect.ValueOf(&m).Elem(), most)
	return m
}

// laid is out with v behind it, by the document's words: all of it hangs on api's types alone.
func laid(out []byte, v reflect.Value) []byte {
	switch v.Kind() {
	case reflect.Uint8:
		return append(out, byte(v.Uint()))
	case reflect.Uint32, reflect.Uint64:
		return binary.AppendUvarint(out, v.Uint())
	case reflect.Int:
		return binary.AppendVarint(out, v.Int())
	case reflect.Bool:
		if v.Bool() {
			return append(out, 1)
		}
		return append(out, 0)
	case reflect.String:
		return append(binary.AppendUvarint(out, uint64(v.Len())), v.String()...)
	case reflect.Slice:
		out = binary.AppendUvarint(out, uint64(v.Len()))
		for i := range v.Len() {
			out = laid(out, v.Index(i))
		}
	case reflect.Struct:
		for i := range v.NumField() {
			out = laid(out, v.Field(i))
		}
	}
	return out
}

// bytesOf are the bytes of m, by the document's words.
func bytesOf(m api.Msg) []byte {
	return laid(nil, reflect.ValueOf(m))
}

// varying is the number that b begins with, and what is behind it; false unless it is written as it must be.
func varying(b []byte) (uint64, []byte, bool) {
	n, many := binary.Uvarint(b)
	if many <= 0 || !bytes.Equal(binary.AppendUvarint(nil, n), b[:many]) {
		return 0, nil, false
	}
	return n, b[many:], true
}

// found fills v with what b begins with, and answers what is behind it; false if it does not stand there.
func found(b []byte, v reflect.Value) ([]byte, bool) {
	switch v.Kind() {
	case reflect.Uint8:
		if len(b) == 0 {
			return nil, false
		}
		v.SetUint(uint64(b[0]))
		return b[1:], true
	case reflect.Struct:
		ok := true
		for i := 0; ok && i < v.NumField(); i++ {
			b, ok = found(b, v.Field(i))
		}
		return b, ok
	}
	n, b, ok := varying(b)
	if !ok {
		return nil, false
	}
	switch v.Kind() {
	case reflect.Uint32, reflect.Uint64:
		v.SetUint(n)
		return b, v.Uint() == n
	case reflect.Int:
		v.SetInt(int64(n>>1) ^ -int64(n&1))
	case reflect.Bool:
		v.SetBool(n == 1)
		return b, n <= 1
	case reflect.String:
		if n > 1048576 || n > uint64(len(b)) {
			return nil, false
		}
		v.SetString(string(b[:n]))
		return b[n:], true
	case reflect.Slice:
		if n > 1048576 {
			return nil, false
		}
		for i := 0; ok && i < int(n); i++ {
			v.Set(reflect.Append(v, reflect.Zero(v.Type().Elem())))
			b, ok = found(b, v.Index(i))
		}
	}
	return b, ok
}

// gives fails the test unless Get of b is m. Lists that are nil or empty are the same.
func gives(t *testing.T, what string, b []byte, m api.Msg) {
	t.Helper()
	got, e := Get(b)
	if e != api.OK || !bytes.Equal(bytesOf(got), bytesOf(m)) {
		t.Fatalf("%s: %v, %d, want %v", what, got, e, m)
	}
}

// refuses fails the test unless Get of b is ErrPack, and nothing else.
func refuses(t *testing.T, what string, b []byte) {
	t.Helper()
	m, e := Get(b)
	if !reflect.ValueOf(m).IsZero() || e != api.ErrPack {
		t.Fatalf("%s: %v, %d, want nothing, %d", what, m, e, api.ErrPack)
	}
}

// getsWell fails the test unless Get of b answers what it should; it says whether it was read.
func getsWell(t *testing.T, b []byte) bool {
	t.Helper()
	var m api.Msg
	left, ok := found(b, reflect.ValueOf(&m).Elem())
	if !ok || len(left) > 0 {
		refuses(t, "of what is not put so", b)
		return false
	}
	gives(t, "of what is put so", b, m)
	if got, _ := Get(b); !bytes.Equal(Put(got), b) {
		t.Fatalf("%x is put otherwise: %x", b, Put(got))
	}
	return true
}

// known is a message with something in every field, and its bytes.
func known() (api.Msg, []byte) {
	cmd := api.Cmd{Kind: api.CmdMap, Client: 1, Seq: 2, Key: "k", Size: 3, Sum: 4, Version: 5, Epoch: 6, Group: 7, Node: 8, Up: true}
	cmd.ID = api.ChunkID{Version: 9, Index: 10, Epoch: 11}
	cmd.Map = api.Map{Epoch: 12, Members: []api.Member{{ID: 13, Weight: 14}}}
	m := api.Msg{
		Kind: api.MsgTell, From: 1, To: -2, Term: 300, Index: 4, LogTerm: 5, Commit: 6, Ctx: 7, Ok: true, Force: true,
		Entries: []api.Entry{{Index: 1, Term: 2, Kind: api.EntCmd, Cmd: cmd, Conf: api.Conf{Voters: []int{1}, Learners: []int{2, 3}}}},
		Conf:    api.Conf{Voters: []int{4, 5}, Learners: []int{6}},
		Head:    api.Header{ID: api.ChunkID{Version: 1, Index: 2, Epoch: 3}, K: 4, N: 5, Size: 6, Sum: 7},
		Data:    []byte{8, 200}, Client: 9, Seq: 10, Op: api.OpList, Key: "key", Code: api.CodeLost, Names: []string{"a", "", "bc"},
	}
	text := "\x22\x02\x03\xac\x02\x04\x05\x06\x07\x01\x01" +
		"\x01" + "\x01\x02\x02" + "\x0a\x01\x02\x01k\x06\x04\x05\x06\x0e\x10\x01" + "\x09\x14\x0b" + "\x0c\x01\x1a\x1c" + "\x01\x02\x02\x04\x06" +
		"\x02\x08\x0a\x01\x0c" +
		"\x01\x04\x03\x08\x0a\x0c\x07" +
		"\x02\x08\xc8\x09\x0a\x08\x03key\x0c" +
		"\x03\x01a\x00\x02bc"
	return m, []byte(text)
}

// P6.1: Put

func TestPutOfWhatIsKnown(t *testing.T) {
	m, want := known()
	if got := Put(m); !bytes.Equal(got, want) {
		t.Errorf("%x, want %x", got, want)
	}
	if got, want := Put(api.Msg{}), make([]byte, 27); !bytes.Equal(got, want) {
		t.Errorf("%x, want %x", got, want)
	}
	ping := api.Msg{Kind: api.MsgPing, From: 1, To: 2, Ctx: 3}
	if got, want := Put(ping), slices.Concat([]byte{36, 2, 4, 0, 0, 0, 0, 3}, make([]byte, 19)); !bytes.Equal(got, want) {
		t.Errorf("%x, want %x", got, want)
	}
}

func TestPutGoesThroughAllFieldsInApisOrder(t *testing.T) {
	var d draws
	for round := range 3000 {
		m := d.message(round % 6)
		if got, want := Put(m), bytesOf(m); !bytes.Equal(got, want) {
			t.Fatalf("%v: %x, want %x", m, got, want)
		}
	}
}

func TestPutOfEachFieldAlone(t *testing.T) {
	for i := range reflect.TypeFor[api.Msg]().NumField() {
		var d draws
		for range 50 {
			var m api.Msg
			d.set(reflect.ValueOf(&m).Elem().Field(i), 3)
			if got, want := Put(m), bytesOf(m); !bytes.Equal(got, want) {
				t.Fatalf("%v: %x, want %x", m, got, want)
			}
			gives(t, "of one field", Put(m), m)
		}
	}
}

func TestNumbersAtTheirEnds(t *testing.T) {
	for _, n := range []int{0, 1, -1, 63, 64, -64, -65, math.MaxInt, math.MinInt, math.MaxInt - 1, math.MinInt + 1, math.MaxUint32, -math.MaxUint32} {
		u := uint64(n)
		m := api.Msg{Kind: api.MsgKind(n), From: n, To: n, Term: u, Index: u, LogTerm: u, Commit: u, Ctx: u, Client: u, Seq: u, Op: api.OpKind(n), Code: api.Code(n)}
		m.Head = api.Header{ID: api.ChunkID{Version: u, Index: n, Epoch: u}, K: n, N: n, Size: n, Sum: uint32(n)}
		m.Conf = api.Conf{Voters: []int{n}, Learners: []int{n}}
		if got, want := Put(m), bytesOf(m); !bytes.Equal(got, want) {
			t.Errorf("%d: %x, want %x", n, got, want)
		}
		gives(t, "of a number at its end", Put(m), m)
	}
}

func TestPutTakesEmptyListsAsNil(t *testing.T) {
	m := api.Msg{
		Entries: []api.Entry{}, Conf: api.Conf{Voters: []int{}, Learners: []int{}}, Data: []byte{}, Names: []string{},
	}
	if got, want := Put(m), Put(api.Msg{}); !bytes.Equal(got, want) {
		t.Errorf("%x, want %x", got, want)
	}
}

func TestPutLooksAtTheLengthAlone(t *testing.T) {
	m, want := known()
	m.Entries = append(make([]api.Entry, 0, 9), m.Entries...)
	m.Data = append(m.Data, 1, 2, 3)[:2]
	m.Names = append(m.Names, "d", "e")[:3]
	if got := Put(m); !bytes.Equal(got, want) {
		t.Errorf("%x, want %x", got, want)
	}
}

func TestPutLeavesTheMessageAsItIs(t *testing.T) {
	m, want := known()
	again, _ := known()
	first, second := Put(m), Put(m)
	if !reflect.DeepEqual(m, again) {
		t.Errorf("%v, want %v", m, again)
	}
	clear(m.Data)
	clear(first)
	if !bytes.Equal(second, want) {
		t.Errorf("an answer is somebody else's, too: %x, want %x", second, want)
	}
}

// P6.1: Get

func TestGetOfWhatIsKnown(t *testing.T) {
	m, b := known()
	got, e := Get(b)
	if !reflect.DeepEqual(got, m) || e != api.OK {
		t.Errorf("%v, %d, want %v", got, e, m)
	}
	gives(t, "of noughts", make([]byte, 27), api.Msg{})
}

func TestGetOfNothingIsRefused(t *testing.T) {
	refuses(t, "of nil", nil)
	refuses(t, "of nothing", []byte{})
	_, b := known()
	refuses(t, "of nothing with all behind it", b[:0])
}

func TestGetOfAPartIsRefused(t *testing.T) {
	_, b := known()
	for end := range len(b) {
		refuses(t, "of a part", b[:end])
		refuses(t, "of a part alone", bytes.Clone(b[:end]))
		refuses(t, "of what begins later", b[end+1:])
	}
	for many := range 27 {
		refuses(t, "of few noughts", make([]byte, many))
	}
}

func TestGetOfMoreIsRefused(t *testing.T) {
	_, b := known()
	for _, some := range [][]byte{b, make([]byte, 27)} {
		for x := range 256 {
			refuses(t, "of a byte more", slices.Concat(some, []byte{byte(x)}))
		}
		refuses(t, "of one behind the other", slices.Concat(some, some))
		if !getsWell(t, append(slices.Clip(some), 1, 2, 3)[:len(some)]) {
			t.Error("what stands behind the end counts")
		}
	}
}

// others are bytes that stand instead of one: others of its size, longer ones for the same number, more of them, none.
func others(x byte) [][]byte {
	list := [][]byte{{}, {x, x}, {x | 128, 0}, {x | 128, 128, 0}, {128, 0}, {x | 128, 1}, {255, 255, 255, 255, 15}, {255, 255, 255, 255, 16}, {128, 128, 128, 128, 16}}
	list = append(list, bytes.Repeat([]byte{255}, 10), append(bytes.Repeat([]byte{255}, 9), 1), append(bytes.Repeat([]byte{128}, 9), 2))
	for y := range 256 {
		list = append(list, []byte{byte(y)})
	}
	return list
}

func TestGetOfWhatIsAlmostPut(t *testing.T) {
	_, b := known()
	for _, some := range [][]byte{b, make([]byte, 27)} {
		met, refused := 0, 0
		for at := range some {
			for _, other := range others(some[at]) {
				if getsWell(t, slices.Concat(some[:at], other, some[at+1:])) {
					met++
				} else {
					refused++
				}
			}
		}
		if met < 1000 || refused < 1000 {
			t.Error("too few to tell", met, refused)
		}
	}
}

func TestGetOfBytesByChance(t *testing.T) {
	var d draws
	met := 0
	for round := range 100000 {
		if getsWell(t, d.fill(27+round%8, 0, 0, 0, 0, 0, 0, 0, 0, 0, 0, 0, 0, 0, 1, 1, 2, 127, 128, 255)) {
			met++
		}
	}
	if met < 100 {
		t.Error("too few to tell", met)
	}
}

func TestGetOfASumOfMoreThan32BitsIsRefused(t *testing.T) {
	ahead, behind := make([]byte, 19), make([]byte, 7)
	for _, n := range []uint64{0, 127, 128, 1 << 31, 1<<32 - 1, 1 << 32, 1<<32 + 1, 1 << 63, math.MaxUint64} {
		b := append(binary.AppendUvarint(bytes.Clone(ahead), n), behind...)
		if got := getsWell(t, b); got != (n <= math.MaxUint32) {
			t.Errorf("%d: %v", n, got)
		}
	}
}

// place is where a list or a text stands among noughts, and how many of these an element has.
type place struct {
	ahead, within int
	of            func(m api.Msg) int
}

// places are all lists and texts of a message.
func places() []place {
	return []place{
		{10, 21, func(m api.Msg) int { return len(m.Entries) }},
		{11, 1, func(m api.Msg) int { return len(m.Conf.Voters) }},
		{12, 1, func(m api.Msg) int { return len(m.Conf.Learners) }},
		{20, 1, func(m api.Msg) int { return len(m.Data) }},
		{24, 1, func(m api.Msg) int { return len(m.Key) }},
		{26, 1, func(m api.Msg) int { return len(m.Names) }},
	}
}

// among is noughts with that length, and so many elements, where the list or the text stands.
func (p place) among(length uint64, many int) []byte {
	b := binary.AppendUvarint(make([]byte, p.ahead), length)
	return append(b, make([]byte, many*p.within+26-p.ahead)...)
}

func TestThePlacesAreThoseOfAMessage(t *testing.T) {
	for _, p := range places() {
		m, e := Get(p.among(2, 2))
		if p.of(m) != 2 || e != api.OK {
			t.Errorf("at %d: %d, %d", p.ahead, p.of(m), e)
		}
	}
}

func TestListsAndTextsOfManyElements(t *testing.T) {
	const most = 1048576
	for _, p := range places() {
		for _, many := range []int{1, 127, 128, most} {
			b := p.among(uint64(many), many)
			m, e := Get(b)
			if p.of(m) != many || e != api.OK {
				t.Fatalf("%d at %d: %d, %d", many, p.ahead, p.of(m), e)
			}
			if !bytes.Equal(Put(m), b) {
				t.Fatalf("%d at %d are not put so", many, p.ahead)
			}
		}
		refuses(t, "of one too many", p.among(most+1, most+1))
		refuses(t, "of twice as many", p.among(2*most, 2*most))
	}
}

func TestLongTextsAndListsInLists(t *testing.T) {
	const most = 1048576
	for _, many := range []int{most, most + 1} {
		some := []api.Msg{
			{Names: []string{"a", strings.Repeat("n", many), "b"}},
			{Entries: []api.Entry{{}, {Cmd: api.Cmd{Key: strings.Repeat("k", many)}}}},
			{Entries: []api.Entry{{Cmd: api.Cmd{Map: api.Map{Members: make([]api.Member, many)}}}, {}}},
			{Entries: []api.Entry{{Conf: api.Conf{Voters: make([]int, many)}}}},
			{Entries: []api.Entry{{Conf: api.Conf{Learners: make([]int, many)}}}},
			{Data: make([]byte, many), Key: strings.Repeat("k", most)},
		}
		for i, m := range some {
			b := Put(m)
			if many > most {
				refuses(t, "of a long one", b)
			} else if got, e := Get(b); e != api.OK || !bytes.Equal(Put(got), b) {
				t.Errorf("row %d: %d", i, e)
			}
		}
	}
}

func TestWhatIsLongerIsPutButNotRead(t *testing.T) {
	const many = 1048577
	some := []api.Msg{
		{Entries: make([]api.Entry, many)},
		{Conf: api.Conf{Voters: make([]int, many)}},
		{Conf: api.Conf{Learners: make([]int, many)}},
		{Data: make([]byte, many)},
		{Key: strings.Repeat("k", many)},
		{Names: make([]string, many)},
	}
	for i, p := range places() {
		b := Put(some[i])
		if len(b) != 26+3+many*p.within {
			t.Errorf("at %d: %d bytes", p.ahead, len(b))
		}
		refuses(t, "of too many", b)
	}
}

func TestLengthsOfWhatIsNotThereAreRefused(t *testing.T) {
	for _, p := range places() {
		for _, length := range []uint64{1048576, 1048577, 1 << 31, 1<<32 + 1, 1 << 62, 1 << 63, 1<<63 + 1, math.MaxUint64 - 1, math.MaxUint64} {
			refuses(t, "of a length alone", p.among(length, 0))
			refuses(t, "of a length with one element", p.among(length, 1))
		}
		for many := 1; many < 5; many++ {
			refuses(t, "of one element less", p.among(uint64(many), many-1))
			refuses(t, "of one element more", p.among(uint64(many), many+1))
		}
	}
}

func TestGetChangesNothingAndSharesNothing(t *testing.T) {
	m, b := known()
	kept := bytes.Clone(b)
	first, _ := Get(b)
	second, _ := Get(b)
	first.Entries[0].Term = 99
	first.Entries[0].Conf.Voters[0] = 99
	first.Entries[0].Conf.Learners[0] = 99
	first.Entries[0].Cmd.Map.Members[0].Weight = 99
	first.Conf.Voters[0] = 99
	first.Conf.Learners[0] = 99
	first.Data[0] = 99
	first.Names[0] = "other"
	if !bytes.Equal(b, kept) {
		t.Error("Get changed what it was handed, or answers it")
	}
	clear(b)
	if !reflect.DeepEqual(second, m) {
		t.Error("an answer is somebody else's, too")
	}
	_ = append(second.Conf.Voters, 7)
	_ = append(second.Entries[0].Conf.Voters, 7)
	_ = append(second.Data, 7)
	if !reflect.DeepEqual(second, m) {
		t.Error("lists of an answer share memory")
	}
}

// P6.4: messages

func TestGetOfPutIsTheMessage(t *testing.T) {
	var d draws
	for round := range 3000 {
		m := d.message(round % 7)
		gives(t, "of what was put", Put(m), m)
	}
}

func TestTextsAreAnyBytes(t *testing.T) {
	every := make([]byte, 256)
	for i := range every {
		every[i] = byte(i)
	}
	for _, s := range []string{"", "\x00", "a", "\xff\xfe", "\xed\xa0\x80", "\u2028é", string(every), strings.Repeat("long", 5000)} {
		got, e := Get(Put(api.Msg{Key: s, Names: []string{s, "", s}, Data: []byte(s)}))
		if got.Key != s || !slices.Equal(got.Names, []string{s, "", s}) || string(got.Data) != s || e != api.OK {
			t.Errorf("%q: %v, %d", s, got, e)
		}
	}
}

// P6.2: Frame

// sumOf is a Word of the Crc of b, by the library's own.
func sumOf(b []byte) []byte {
	return binary.LittleEndian.AppendUint32(nil, crc32.Checksum(b, crc32.MakeTable(crc32.Castagnoli)))
}

// headed is the beginning of a frame of so many bytes.
func headed(length uint32) []byte {
	b := binary.LittleEndian.AppendUint32(nil, length)
	return append(b, sumOf(b)...)
}

// framed is b's frame, by the document's words; b may be longer than it may.
func framed(b []byte) []byte {
	return slices.Concat(headed(uint32(len(b))), b, sumOf(b))
}

// finds fails the test unless Next gives these bytes and that place.
func finds(t *testing.T, what string, s []byte, at int, want []byte, wantBehind int) {
	t.Helper()
	b, behind, e := Next(s, at)
	if !bytes.Equal(b, want) || behind != wantBehind || e != api.OK {
		t.Fatalf("%s at %d: %x, %d, %d, want %x, %d", what, at, b, behind, e, want, wantBehind)
	}
}

// misses fails the test unless Next is refused with that error, and all else is zero.
func misses(t *testing.T, what string, s []byte, at int, want api.Errno) {
	t.Helper()
	b, behind, e := Next(s, at)
	if len(b) != 0 || behind != 0 || e != want {
		t.Fatalf("%s at %d: %x, %d, %d, want nothing, 0, %d", what, at, b, behind, e, want)
	}
}

func TestFrameOfWhatIsKnown(t *testing.T) {
	rows := []struct{ b, want string }{
		{"", "\x00\x00\x00\x00\xc7\x4b\x67\x48\x00\x00\x00\x00"},
		{"a", "\x01\x00\x00\x00\x7f\xe1\x22\x95" + "a" + "\x30\x43\xd0\xc1"},
		{"123456789", "\x09\x00\x00\x00" + string(sumOf([]byte{9, 0, 0, 0})) + "123456789" + "\x83\x92\x06\xe3"},
	}
	for _, r := range rows {
		f, e := Frame([]byte(r.b))
		if string(f) != r.want || e != api.OK {
			t.Errorf("%q: %x, %d, want %x", r.b, f, e, r.want)
		}
	}
}

func TestFrameOfManyLengths(t *testing.T) {
	var d draws
	for _, many := range []int{0, 1, 2, 3, 4, 5, 8, 13, 127, 128, 255, 256, 257, 65535, 65536, 65537, 4194303, 4194304} {
		b := d.fill(many)
		f, e := Frame(b)
		if !bytes.Equal(f, framed(b)) || len(f) != many+12 || e != api.OK {
			t.Fatalf("%d bytes: %d, %d", many, len(f), e)
		}
		finds(t, "of a frame", f, 0, b, len(f))
	}
	if f, e := Frame(nil); !bytes.Equal(f, framed(nil)) || e != api.OK {
		t.Error(f, e)
	}
}

func TestFrameOfTooManyBytesIsRefused(t *testing.T) {
	for _, many := range []int{4194305, 4194306, 8388608} {
		if f, e := Frame(make([]byte, many)); len(f) != 0 || e != api.ErrFrame {
			t.Errorf("%d bytes: %d, %d", many, len(f), e)
		}
	}
}

func TestFrameIsNewMemory(t *testing.T) {
	room := bytes.Repeat([]byte{0xee}, 100)
	b := room[20:40]
	want := framed(b)
	first, _ := Frame(b)
	second, _ := Frame(b)
	if !bytes.Equal(room, bytes.Repeat([]byte{0xee}, 100)) {
		t.Error("Frame wrote to what it was handed, or beside it")
	}
	clear(first)
	clear(room)
	if !bytes.Equal(second, want) {
		t.Errorf("%x, want %x", second, want)
	}
}

// P6.2: Next

func TestNextWhereNoPlaceIsIsRefused(t *testing.T) {
	s := framed([]byte("abc"))
	for _, at := range []int{-1, -2, -len(s), len(s) + 1, len(s) + 2, math.MinInt, math.MinInt + 1, math.MaxInt, math.MaxInt - 1} {
		misses(t, "of a frame", s, at, api.ErrArg)
	}
	for _, at := range []int{-1, 1, math.MinInt, math.MaxInt} {
		misses(t, "of nil", nil, at, api.ErrArg)
		misses(t, "of nothing", []byte{}, at, api.ErrArg)
	}
	misses(t, "of what has room behind it", slices.Concat(s, s)[:len(s)], len(s)+1, api.ErrArg)
}

func TestNextOfFewBytesIsShort(t *testing.T) {
	misses(t, "of nil", nil, 0, api.ErrShort)
	misses(t, "of nothing", []byte{}, 0, api.ErrShort)
	s := framed([]byte("abc"))
	misses(t, "at the end", s, len(s), api.ErrShort)
	for many := range 8 {
		misses(t, "of a part", s[:many], 0, api.ErrShort)
		misses(t, "of a part behind a frame", slices.Concat(s, s[:many]), len(s), api.ErrShort)
		misses(t, "of noughts", make([]byte, many), 0, api.ErrShort)
		misses(t, "near the end", s, len(s)-many, api.ErrShort)
	}
	misses(t, "of eight noughts, whose sum is another", make([]byte, 8), 0, api.ErrSum)
}

func TestNextOfAPartIsShort(t *testing.T) {
	for many := range 40 {
		s := framed(bytes.Repeat([]byte{7}, many))
		for end := 8; end < len(s); end++ {
			misses(t, "of a part", s[:end], 0, api.ErrShort)
			misses(t, "of a part alone", bytes.Clone(s[:end]), 0, api.ErrShort)
			misses(t, "of a part behind a byte", slices.Concat([]byte{1}, s[:end]), 1, api.ErrShort)
		}
		finds(t, "of all", s, 0, bytes.Repeat([]byte{7}, many), len(s))
	}
}

func TestNextOfTheLongestFrame(t *testing.T) {
	var d draws
	b := d.fill(4194304)
	s := framed(b)
	finds(t, "of all", s, 0, b, len(s))
	misses(t, "of all but the last", s[:len(s)-1], 0, api.ErrShort)
	s[len(s)-1]++
	misses(t, "with another sum", s, 0, api.ErrSum)
}

func TestNextOfALengthThatMayNotBe(t *testing.T) {
	for _, length := range []uint32{4194305, 4194306, 1 << 23, 1 << 24, 1<<31 - 1, 1 << 31, 1<<31 + 1, 1<<32 - 12, 1<<32 - 4, 1<<32 - 1} {
		misses(t, "of a head alone", headed(length), 0, api.ErrFrame)
		misses(t, "with bytes behind", slices.Concat(headed(length), make([]byte, 100)), 0, api.ErrFrame)
		s := headed(length)
		s[7] ^= 1
		misses(t, "with another sum", s, 0, api.ErrSum)
	}
	for _, length := range []uint32{0, 1, 4194303, 4194304} {
		misses(t, "of a head alone", headed(length), 0, api.ErrShort)
	}
	long := make([]byte, 4194305)
	misses(t, "of a frame that is whole", framed(long), 0, api.ErrFrame)
}

func TestNextTellsTheFirstFault(t *testing.T) {
	s := framed([]byte("abcdef"))
	for bit := range 64 {
		turned := bytes.Clone(s)
		turned[bit/8] ^= 1 << (bit % 8)
		misses(t, "of a turned head", turned, 0, api.ErrSum)
		misses(t, "of a turned head alone", turned[:8], 0, api.ErrSum)
		misses(t, "of a turned head and a part", turned[:11], 0, api.ErrSum)
		misses(t, "of a turned head that is not there", turned[:7], 0, api.ErrShort)
	}
	for bit := 64; bit < 8*len(s); bit++ {
		turned := bytes.Clone(s)
		turned[bit/8] ^= 1 << (bit % 8)
		misses(t, "of turned bytes", turned, 0, api.ErrSum)
		misses(t, "of turned bytes that are not whole", turned[:len(s)-1], 0, api.ErrShort)
		finds(t, "behind turned bytes", slices.Concat(turned, s), len(s), []byte("abcdef"), 2*len(s))
	}
}

func TestNextAtAPlaceLooksAtNothingElse(t *testing.T) {
	var d draws
	for round := range 2000 {
		ahead, b, behind := d.fill(round%30), d.fill(d.below(200)), d.fill(round%17)
		s := slices.Concat(ahead, framed(b), behind)
		finds(t, "among other bytes", s, len(ahead), b, len(s)-len(behind))
	}
}

func TestNextIsNewMemory(t *testing.T) {
	s := framed([]byte("abc"))
	kept := bytes.Clone(s)
	first, _, _ := Next(s, 0)
	second, _, _ := Next(s, 0)
	clear(first)
	_ = append(first, 1, 2, 3, 4)
	if !bytes.Equal(s, kept) {
		t.Error("the answer is what was handed in")
	}
	clear(s)
	if string(second) != "abc" {
		t.Errorf("%x", second)
	}
}

// P6.2 and P6.4: All

// same says whether two lists hold the same bytes.
func same(a, b [][]byte) bool {
	return slices.EqualFunc(a, b, bytes.Equal)
}

func TestAllOfWhatIsKnown(t *testing.T) {
	one, two := framed([]byte("one")), framed([]byte{})
	rows := []struct {
		s    []byte
		want [][]byte
		at   int
	}{
		{nil, nil, 0},
		{[]byte{}, nil, 0},
		{make([]byte, 30), nil, 0},
		{one, [][]byte{[]byte("one")}, 15},
		{slices.Concat(one, two, one), [][]byte{[]byte("one"), {}, []byte("one")}, 42},
		{slices.Concat(one, two, one[:14]), [][]byte{[]byte("one"), {}}, 27},
		{slices.Concat(one, []byte{1}, two), [][]byte{[]byte("one")}, 15},
		{slices.Concat([]byte{1}, one), nil, 0},
		{one[1:], nil, 0},
	}
	for i, r := range rows {
		if got, at := All(r.s); !same(got, r.want) || at != r.at {
			t.Errorf("row %d: %x, %d, want %x, %d", i, got, at, r.want, r.at)
		}
	}
}

func TestAllStopsAtEachFault(t *testing.T) {
	one, two := framed([]byte("one")), framed([]byte("second"))
	turned := func(b []byte, at int) []byte {
		b = bytes.Clone(b)
		b[at] ^= 4
		return b
	}
	faults := [][]byte{nil, {1}, two[:7], two[:8], two[:12], two[:17], headed(4194305), turned(two, 0), turned(two, 4), turned(two, 8), turned(two, 17)}
	for i, fault := range faults {
		s := slices.Concat(one, one, fault)
		if got, at := All(s); !same(got, [][]byte{[]byte("one"), []byte("one")}) || at != 30 {
			t.Errorf("fault %d: %x, %d", i, got, at)
		}
		if len(fault) < len(two) {
			continue
		}
		if got, at := All(append(s, two...)); len(got) != 2 || at != 30 {
			t.Errorf("fault %d with a frame behind: %x, %d", i, got, at)
		}
	}
}

func TestFramesOneBehindTheOther(t *testing.T) {
	var d draws
	for round := range 300 {
		var s []byte
		var want [][]byte
		for range round % 9 {
			b := d.fill(d.below(300))
			f, _ := Frame(b)
			s, want = append(s, f...), append(want, b)
		}
		end := len(s)
		last, _ := Frame(d.fill(d.below(50)))
		s = append(s, last[:d.below(len(last))]...)
		if got, at := All(s); !same(got, want) || at != end {
			t.Fatalf("round %d: %x, %d, want %x, %d", round, got, at, want, end)
		}
	}
}

func TestAllOfManyFrames(t *testing.T) {
	const many = 100000
	s := bytes.Repeat(framed([]byte{9}), many)
	if got, at := All(s); len(got) != many || at != len(s) {
		t.Error(len(got), at)
	}
}

func TestAllIsNewMemory(t *testing.T) {
	one := framed([]byte("one"))
	s := slices.Concat(one, one)
	kept := bytes.Clone(s)
	list, _ := All(s)
	_ = append(list[0], 1, 2, 3, 4, 5, 6, 7, 8, 9, 10, 11, 12, 13, 14)
	clear(list[0])
	if !bytes.Equal(s, kept) || string(list[1]) != "one" {
		t.Error("an answer is somebody else's, too")
	}
	clear(s)
	if string(list[1]) != "one" {
		t.Error("an answer is what was handed in")
	}
}

func TestPlacesAreTheSameForNextAndAll(t *testing.T) {
	var d draws
	for range 300 {
		s := slices.Concat(framed(d.fill(d.below(9))), framed(d.fill(d.below(9))), framed(d.fill(d.below(9))))
		s[d.below(len(s))] ^= byte(d.below(3))
		list, end := All(s)
		at := 0
		for _, want := range list {
			b, behind, e := Next(s, at)
			if !bytes.Equal(b, want) || e != api.OK {
				t.Fatal(b, want, e)
			}
			at = behind
		}
		if _, _, e := Next(s, at); e == api.OK || at != end {
			t.Fatal(at, end, e)
		}
	}
}

// P6.4: bits that turn

// turn turns those bits of s, from a bit on, that pattern has. Bits are counted as layer 3's sum goes through them: of each byte the lowest one first.
func turn(s []byte, from int, pattern uint32) {
	for i := range 32 {
		if bit := from + i; pattern>>i&1 == 1 && bit < 8*len(s) {
			s[bit/8] ^= 1 << (bit % 8)
		}
	}
}

func TestAnyBitsThatTurnAmong32AreRefused(t *testing.T) {
	var d draws
	for many := range 10 {
		s := framed(d.fill(many))
		for from := range 8 * len(s) {
			for round := range 300 {
				pattern := uint32(d.next())>>(round%32) | 1
				if round == 0 {
					pattern = math.MaxUint32
				}
				turned := bytes.Clone(s)
				turn(turned, from, pattern)
				if _, _, e := Next(turned, 0); e == api.OK {
					t.Fatalf("%d bytes, from bit %d on %x: not refused", many, from, pattern)
				}
			}
		}
	}
}

func TestEachTwoBitsThatTurnAreRefused(t *testing.T) {
	s := framed([]byte("some bytes"))
	for from := range 8 * len(s) {
		for other := range 32 {
			turned := bytes.Clone(s)
			turn(turned, from, 1|1<<other)
			misses(t, "of turned bits", turned, 0, api.ErrSum)
		}
	}
}

func TestBytesThatTurnInALongFrameAreRefused(t *testing.T) {
	var d draws
	s := framed(d.fill(5000))
	for at := range len(s) - 3 {
		turned := bytes.Clone(s)
		for i := range 4 {
			turned[at+i] ^= byte(d.next()) | 1
		}
		misses(t, "of four turned bytes", turned, 0, api.ErrSum)
	}
}

// P6.3

// table says by names which fields each kind uses, beside Kind, From and To.
func table() map[api.MsgKind]string {
	return map[api.MsgKind]string{
		1:  "Term Index LogTerm Force",
		2:  "Term Ok",
		3:  "Term Index LogTerm Force",
		4:  "Term Ok",
		5:  "Term Index LogTerm Commit Ctx Entries",
		6:  "Term Index Ctx Ok",
		7:  "Term Index LogTerm Conf Data",
		8:  "Term",
		9:  "Head Data",
		10: "Head Ok",
		11: "Head",
		12: "Head",
		13: "Head",
		14: "Head",
		15: "Head Ok Data",
		16: "Client Seq Op Key Data",
		17: "Client Seq Code Data Names Ctx",
		18: "Ctx",
		19: "Ctx",
	}
}

// uses says whether such a kind uses a field of that name.
func uses(kind api.MsgKind, name string) bool {
	always := []string{"Kind", "From", "To"}
	return slices.Contains(append(always, strings.Fields(table()[kind])...), name)
}

// checks fails the test unless Check answers that.
func checks(t *testing.T, what string, m api.Msg, want api.Errno) {
	t.Helper()
	if e := Check(m); e != want {
		t.Errorf("%s, %v: %d, want %d", what, m, e, want)
	}
}

// leaves calls do with each way to reach a part of v that is no struct.
func leaves(v reflect.Type, way []int, do func(way []int, kind reflect.Type)) {
	if v.Kind() != reflect.Struct {
		do(way, v)
		return
	}
	for i := range v.NumField() {
		leaves(v.Field(i).Type, append(slices.Clip(way), i), do)
	}
}

// values are some that are not zero.
func values(kind reflect.Type) []reflect.Value {
	one := reflect.New(kind).Elem()
	other := reflect.New(kind).Elem()
	switch kind.Kind() {
	case reflect.Bool:
		one.SetBool(true)
		return []reflect.Value{one}
	case reflect.Int:
		one.SetInt(1)
		other.SetInt(math.MinInt)
	case reflect.Uint32, reflect.Uint64:
		one.SetUint(1)
		other.SetUint(1 << (kind.Bits() - 1))
	case reflect.String:
		one.SetString("\x00")
		other.SetString("text")
	case reflect.Slice:
		one.Set(reflect.MakeSlice(kind, 1, 1))
		other.Set(reflect.MakeSlice(kind, 300, 400))
	}
	return []reflect.Value{one, other}
}

func TestCheckOfWhatIsKnown(t *testing.T) {
	m := api.Msg{Kind: api.MsgPing, Ctx: 3}
	checks(t, "a ping", m, api.OK)
	m.Term = 1
	checks(t, "a ping with a term", m, api.ErrArg)
	snap := api.Msg{Kind: api.MsgSnap, From: 1, To: 2, Term: 3, Index: 4, LogTerm: 5, Conf: api.Conf{Voters: []int{1}, Learners: []int{2}}, Data: []byte{6}}
	checks(t, "a snapshot", snap, api.OK)
	snap.Commit = 1
	checks(t, "a snapshot with what is committed", snap, api.ErrArg)
}

func TestCheckOfEachFieldOfEachKind(t *testing.T) {
	kind := reflect.TypeFor[api.Msg]()
	leaves(kind, nil, func(way []int, part reflect.Type) {
		name := kind.Field(way[0]).Name
		if name == "Kind" {
			return
		}
		for _, x := range values(part) {
			for k := api.MsgPre; k <= api.MsgPong; k++ {
				m := api.Msg{Kind: k}
				reflect.ValueOf(&m).Elem().FieldByIndex(way).Set(x)
				want := api.ErrArg
				if uses(k, name) {
					want = api.OK
				}
				checks(t, name, m, want)
			}
		}
	})
}

func TestCheckOfAllFieldsOfAKind(t *testing.T) {
	var d draws
	kind := reflect.TypeFor[api.Msg]()
	for k := api.MsgPre; k <= api.MsgPong; k++ {
		for range 100 {
			full := d.message(5)
			some := full
			for i := range kind.NumField() {
				if !uses(k, kind.Field(i).Name) {
					reflect.ValueOf(&some).Elem().Field(i).SetZero()
				}
			}
			some.Kind = k
			checks(t, "all that it uses", some, api.OK)
			spare := some
			spare.Conf.Learners = []int{1}
			if k != api.MsgSnap {
				checks(t, "all that it uses, and learners", spare, api.ErrArg)
			}
		}
	}
}

func TestCheckOfNothingButAKind(t *testing.T) {
	for k := api.MsgPre; k <= api.MsgPong; k++ {
		checks(t, "a kind alone", api.Msg{Kind: k}, api.OK)
		checks(t, "a kind with ends", api.Msg{Kind: k, From: -1, To: math.MaxInt}, api.OK)
		empty := api.Msg{Kind: k, Entries: []api.Entry{}, Conf: api.Conf{Voters: []int{}, Learners: []int{}}, Data: []byte{}, Names: make([]string, 0, 4)}
		checks(t, "empty lists", empty, api.OK)
	}
}

func TestCheckOfOtherKinds(t *testing.T) {
	for _, k := range []api.MsgKind{0, -1, -18, 20, 21, 32, 64, 256 + 18, 1<<32 + 18, math.MaxInt, math.MinInt} {
		checks(t, "another kind", api.Msg{Kind: k}, api.ErrArg)
		checks(t, "another kind with ends", api.Msg{Kind: k, From: 1, To: 2}, api.ErrArg)
		checks(t, "another kind with something", api.Msg{Kind: k, Term: 1, Ctx: 3}, api.ErrArg)
	}
	checks(t, "nothing", api.Msg{}, api.ErrArg)
}

func TestCheckLeavesTheMessageAsItIs(t *testing.T) {
	for k := api.MsgKind(0); k <= 20; k++ {
		m, _ := known()
		again, _ := known()
		m.Kind, again.Kind = k, k
		Check(m)
		if !reflect.DeepEqual(m, again) {
			t.Errorf("%v, want %v", m, again)
		}
	}
}

// Refusals

func TestARefusalIsFoundInWhatWrapsIt(t *testing.T) {
	for _, why := range []api.Errno{api.ErrArg, api.ErrShort, api.ErrPack, api.ErrFrame, api.ErrSum} {
		err := error(refusal{why})
		if number(err) != why || number(errors.Join(errors.New("other"), err)) != why {
			t.Errorf("%v: %d, want %d", err, number(err), why)
		}
	}
	if number(nil) != api.OK {
		t.Error(number(nil))
	}
	if got := (refusal{api.ErrSum}).Error(); got != "wire: refused by error 61" {
		t.Error(got)
	}
}
