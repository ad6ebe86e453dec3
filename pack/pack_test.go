package pack

import (
	"bytes"
	"encoding/binary"
	"math"
	"reflect"
	"slices"
	"strings"
	"testing"

	"buttress/api"
)

// draws are numbers that look like chance, the same in every run.
type draws uint64

func (d *draws) next() uint64 {
	*d = *d*6364136223846793005 + 1442695040888963407
	x := uint64(*d)
	x ^= x >> 33
	x *= 0xff51afd7ed558ccd
	return x ^ x>>29
}

// below is a number from 0 below n.
func (d *draws) below(n int) int {
	return int(d.next() >> 1 % uint64(n))
}

// number has any length, and is often one beside which a number takes a byte more.
func (d *draws) number() uint64 {
	switch power := uint64(1) << d.below(64); d.below(4) {
	case 0:
		return d.next() >> d.below(64)
	case 1:
		return power
	case 2:
		return power - 1
	}
	return uint64(d.below(4))
}

// fill is a list of so many bytes, each one of those that may be, or any if there are none.
func (d *draws) fill(many int, may ...byte) []byte {
	list := make([]byte, many)
	for i := range list {
		list[i] = byte(d.next())
		if len(may) > 0 {
			list[i] = may[int(list[i])%len(may)]
		}
	}
	return list
}

// set fills v by chance; lists and texts have at most so many elements.
func (d *draws) set(v reflect.Value, most int) {
	switch v.Kind() {
	case reflect.Uint32, reflect.Uint64:
		v.SetUint(d.number() & (1<<v.Type().Bits() - 1))
	case reflect.Int:
		v.SetInt(int64(d.number()))
	case reflect.Bool:
		v.SetBool(d.below(2) == 1)
	case reflect.String:
		v.SetString(string(d.fill(d.below(most + 1))))
	case reflect.Slice:
		v.Set(reflect.MakeSlice(v.Type(), d.below(most+1), most))
		for i := range v.Len() {
			d.set(v.Index(i), most)
		}
	case reflect.Struct:
		for i := range v.NumField() {
			d.set(v.Field(i), most)
		}
	}
}

// laid is out with v behind it, by the document's words: all of it hangs on api's types alone.
func laid(out []byte, v reflect.Value) []byte {
	switch v.Kind() {
	case reflect.Uint32, reflect.Uint64:
		return binary.AppendUvarint(out, v.Uint())
	case reflect.Int:
		return binary.AppendVarint(out, v.Int())
	case reflect.Bool:
		if v.Bool() {
			return append(out, 1)
		}
		return append(out, 0)
	case reflect.String:
		return append(binary.AppendUvarint(out, uint64(v.Len())), v.String()...)
	case reflect.Slice:
		out = binary.AppendUvarint(out, uint64(v.Len()))
		for i := range v.Len() {
			out = laid(out, v.Index(i))
		}
	case reflect.Struct:
		for i := range v.NumField() {
			out = laid(out, v.Field(i))
		}
	}
	return out
}

// number is the one that b begins with, and what is behind it; false unless it is written as it must be.
func number(b []byte) (uint64, []byte, bool) {
	n, many := binary.Uvarint(b)
	if many <= 0 || !bytes.Equal(binary.AppendUvarint(nil, n), b[:many]) {
		return 0, nil, false
	}
	return n, b[many:], true
}

// found fills v with what b begins with, and answers what is behind it; false if it does not stand there.
func found(b []byte, v reflect.Value) ([]byte, bool) {
	if v.Kind() == reflect.Struct {
		ok := true
		for i := 0; ok && i < v.NumField(); i++ {
			b, ok = found(b, v.Field(i))
		}
		return b, ok
	}
	n, b, ok := number(b)
	if !ok {
		return nil, false
	}
	switch v.Kind() {
	case reflect.Uint32, reflect.Uint64:
		v.SetUint(n)
		return b, v.Uint() == n
	case reflect.Int:
		v.SetInt(int64(n>>1) ^ -int64(n&1))
	case reflect.Bool:
		v.SetBool(n == 1)
		return b, n <= 1
	case reflect.String:
		if n > 1048576 || n > uint64(len(b)) {
			return nil, false
		}
		v.SetString(string(b[:n]))
		return b[n:], true
	case reflect.Slice:
		if n > 1048576 {
			return nil, false
		}
		for i := 0; ok && i < int(n); i++ {
			v.Set(reflect.Append(v, reflect.Zero(v.Type().Elem())))
			b, ok = found(b, v.Index(i))
		}
	}
	return b, ok
}

// face is a kind of struct with its two calls.
type face struct {
	name string
	kind reflect.Type
	put  func(out []byte, x any) []byte
	read func(b []byte, at int) (any, int, api.Errno)
}

func faceOf[T any](name string, put func([]byte, T) []byte, read func([]byte, int) (T, int, api.Errno)) face {
	return face{
		name: name,
		kind: reflect.TypeFor[T](),
		put:  func(out []byte, x any) []byte { return put(out, x.(T)) },
		read: func(b []byte, at int) (any, int, api.Errno) { return read(b, at) },
	}
}

func faces() []face {
	return []face{
		faceOf("Header", PutHeader, Header),
		faceOf("Conf", PutConf, Conf),
		faceOf("Map", PutMap, Map),
		faceOf("Cmd", PutCmd, Cmd),
		faceOf("Entry", PutEntry, Entry),
		faceOf("Meta", PutMeta, Meta),
	}
}

// any is a struct of the face's kind by chance.
func (f face) any(d *draws, most int) any {
	v := reflect.New(f.kind).Elem()
	d.set(v, most)
	return v.Interface()
}

// zero is the face's zero struct.
func (f face) zero() any {
	return reflect.Zero(f.kind).Interface()
}

// refuses fails the test unless the reading is refused with that error, and all else is zero.
func (f face) refuses(t *testing.T, what string, b []byte, at int, want api.Errno) {
	t.Helper()
	x, behind, e := f.read(b, at)
	if !reflect.ValueOf(x).IsZero() || behind != 0 || e != want {
		t.Fatalf("%s %s at %d: %v, %d, %d, want zero, 0, %d", f.name, what, at, x, behind, e, want)
	}
}

// gives fails the test unless the reading gives x and that place. Lists that are nil or empty are the same.
func (f face) gives(t *testing.T, what string, b []byte, at int, x any, wantBehind int) {
	t.Helper()
	got, behind, e := f.read(b, at)
	if e != api.OK || behind != wantBehind || !bytes.Equal(laid(nil, reflect.ValueOf(got)), laid(nil, reflect.ValueOf(x))) {
		t.Fatalf("%s %s at %d: %v, %d, %d, want %v, %d", f.name, what, at, got, behind, e, x, wantBehind)
	}
}

// readsWell fails the test unless the reading answers what it should, and the Put puts what was read; it says whether it was read.
func (f face) readsWell(t *testing.T, b []byte, at int) bool {
	t.Helper()
	v := reflect.New(f.kind).Elem()
	left, ok := found(b[at:], v)
	if !ok {
		f.refuses(t, "of what is not put so", b, at, api.ErrPack)
		return false
	}
	f.gives(t, "of what is put so", b, at, v.Interface(), len(b)-len(left))
	got, behind, _ := f.read(b, at)
	if !bytes.Equal(f.put(nil, got), b[at:behind]) {
		t.Fatalf("%s: %x at %d is not put so", f.name, b, at)
	}
	return true
}

// P5.1

func knownHeader() api.Header {
	return api.Header{ID: api.ChunkID{Version: 300, Index: -1, Epoch: 2}, K: 3, N: 4, Size: 64, Sum: math.MaxUint32}
}

func knownConf() api.Conf {
	return api.Conf{Voters: []int{1, 2}, Learners: []int{3}}
}

func knownMap() api.Map {
	return api.Map{Epoch: 9, Members: []api.Member{{ID: 1, Weight: 10}, {ID: 2, Weight: 20}}}
}

func knownCmd() api.Cmd {
	return api.Cmd{
		Kind: api.CmdDelete, Client: 3, Seq: 5, Key: "a\xff", Size: 6, Sum: 7, Version: 8, Epoch: 9, Group: 10, Node: 11, Up: true,
		ID:  api.ChunkID{Version: 12, Index: 13, Epoch: 14},
		Map: knownMap(),
	}
}

func knownEntry() api.Entry {
	return api.Entry{Index: 128, Term: 2, Kind: api.EntConf, Cmd: knownCmd(), Conf: knownConf()}
}

func knownMeta() api.Meta {
	object := api.Object{Key: "b", Version: 1, Size: 2, Sum: 3, Group: 4, Epoch: 5, Nodes: []int{6, 7}}
	return api.Meta{
		K: 2, N: 4, Groups: 8, Map: knownMap(), Next: api.Map{Epoch: 10, Members: []api.Member{{ID: 3, Weight: 30}}}, Cut: []int{0, 5},
		Objects:  []api.Object{object, {Nodes: []int{9}}},
		Intents:  []api.Intent{{Object: object, Client: 21, Seq: 22}},
		Sessions: []api.Session{{Client: 31, Seq: 32, Open: true, Version: 33, Code: api.CodeLost}, {Client: 34}},
		Wastes:   []api.Waste{{ID: api.ChunkID{Version: 41, Index: 42, Epoch: 43}, Node: 44}},
		Down:     []int{15},
		Last:     51,
	}
}

// known are the structs above with the bytes that they are put as, in the order of faces.
func known() ([]any, []string) {
	mapped := "\x09" + "\x02" + "\x02\x14" + "\x04\x28"
	conf := "\x02\x02\x04" + "\x01\x06"
	cmd := "\x08" + "\x03\x05" + "\x02a\xff" + "\x0c\x07" + "\x08\x09" + "\x14\x16" + "\x01" + "\x0c\x1a\x0e" + mapped
	object := "\x01b" + "\x01\x04\x03\x08\x05" + "\x02\x0c\x0e"
	meta := "\x04\x08\x10" + mapped + "\x0a\x01\x06\x3c" + "\x02\x00\x0a" +
		"\x02" + object + "\x00\x00\x00\x00\x00\x00\x01\x12" +
		"\x01" + object + "\x15\x16" +
		"\x02" + "\x1f\x20\x01\x21\x0c" + "\x22\x00\x00\x00\x00" +
		"\x01" + "\x29\x54\x2b\x58" +
		"\x01\x1e" + "\x33"
	return []any{knownHeader(), knownConf(), knownMap(), knownCmd(), knownEntry(), knownMeta()}, []string{
		"\xac\x02\x01\x02" + "\x06\x08\x80\x01" + "\xff\xff\xff\xff\x0f",
		conf, mapped, cmd,
		"\x80\x01\x02\x04" + cmd + conf,
		meta,
	}
}

func TestPutOfWhatIsKnown(t *testing.T) {
	structs, puts := known()
	for i, f := range faces() {
		if got := f.put(nil, structs[i]); string(got) != puts[i] {
			t.Errorf("%s: %x, want %x", f.name, got, puts[i])
		}
		if got := f.put([]byte("ahead"), structs[i]); string(got) != "ahead"+puts[i] {
			t.Errorf("%s: %x, want %x behind what was there", f.name, got, puts[i])
		}
		if got, behind, e := f.read([]byte(puts[i]), 0); !reflect.DeepEqual(got, structs[i]) || behind != len(puts[i]) || e != api.OK {
			t.Errorf("%s: %v, %d, %d, want %v", f.name, got, behind, e, structs[i])
		}
		f.gives(t, "of what is known", []byte(puts[i]), 0, structs[i], len(puts[i]))
	}
}

func TestPutOfZeros(t *testing.T) {
	for i, f := range faces() {
		want := make([]byte, []int{7, 2, 2, 16, 21, 14}[i])
		if got := f.put(nil, f.zero()); !bytes.Equal(got, want) {
			t.Errorf("%s: %x, want %x", f.name, got, want)
		}
		f.gives(t, "of noughts", want, 0, f.zero(), len(want))
		f.refuses(t, "of too few noughts", want[1:], 0, api.ErrPack)
	}
}

func TestPutGoesThroughAllFieldsInApisOrder(t *testing.T) {
	var d draws
	for _, f := range faces() {
		for round := range 3000 {
			x := f.any(&d, round%6)
			ahead := d.fill(round % 5)
			if got, want := f.put(ahead, x), laid(bytes.Clone(ahead), reflect.ValueOf(x)); !bytes.Equal(got, want) {
				t.Fatalf("%s of %v: %x, want %x", f.name, x, got, want)
			}
		}
	}
}

func TestPutOfTheEndsOfNumbers(t *testing.T) {
	for _, n := range []int{0, 1, -1, 63, 64, -64, -65, math.MaxInt, math.MinInt, math.MaxInt - 1, math.MinInt + 1, math.MaxUint32, -math.MaxUint32} {
		kind, part, code := api.CmdKind(n), api.EntryKind(n), api.Code(n)
		some := []any{
			api.Header{ID: api.ChunkID{Version: uint64(n), Index: n, Epoch: uint64(n)}, K: n, N: n, Size: n, Sum: uint32(n)},
			api.Conf{Voters: []int{n}, Learners: []int{n, n}},
			api.Map{Epoch: uint64(n), Members: []api.Member{{ID: n, Weight: n}}},
			api.Cmd{Kind: kind, Client: uint64(n), Seq: uint64(n), Size: n, Sum: uint32(n), Version: uint64(n), Epoch: uint64(n), Group: n, Node: n},
			api.Entry{Index: uint64(n), Term: uint64(n), Kind: part, Cmd: api.Cmd{Kind: kind, ID: api.ChunkID{Index: n}}},
			api.Meta{K: n, N: n, Groups: n, Sessions: []api.Session{{Code: code}}, Last: uint64(n)},
		}
		for i, f := range faces() {
			want := laid(nil, reflect.ValueOf(some[i]))
			if got := f.put(nil, some[i]); !bytes.Equal(got, want) {
				t.Errorf("%s of %v: %x, want %x", f.name, some[i], got, want)
			}
			f.gives(t, "of a number at its end", want, 0, some[i], len(want))
		}
	}
}

func TestPutLeavesOutAsItIs(t *testing.T) {
	var d draws
	for _, f := range faces() {
		first, second := f.any(&d, 4), f.any(&d, 4)
		room := bytes.Repeat([]byte{0xee}, 4096)
		out := room[:10]
		one := f.put(out, first)
		kept := bytes.Clone(one)
		two := f.put(out, second)
		if !bytes.Equal(room, bytes.Repeat([]byte{0xee}, 4096)) {
			t.Errorf("%s wrote to out, or behind it", f.name)
		}
		if !bytes.Equal(one, kept) {
			t.Errorf("%s wrote over what it had answered", f.name)
		}
		clear(one)
		clear(out)
		if want := laid(bytes.Repeat([]byte{0xee}, 10), reflect.ValueOf(second)); !bytes.Equal(two, want) {
			t.Errorf("%s: %x, want %x", f.name, two, want)
		}
	}
}

func TestPutBehindNothingNilOrNot(t *testing.T) {
	for _, f := range faces() {
		if a, b := f.put(nil, f.zero()), f.put([]byte{}, f.zero()); !bytes.Equal(a, b) || len(a) == 0 {
			t.Errorf("%s: %x, %x", f.name, a, b)
		}
	}
}

func TestPutTakesEmptyListsAsNil(t *testing.T) {
	some := []any{
		api.Header{},
		api.Conf{Voters: []int{}, Learners: []int{}},
		api.Map{Members: []api.Member{}},
		api.Cmd{Map: api.Map{Members: []api.Member{}}},
		api.Entry{Conf: api.Conf{Voters: []int{}, Learners: []int{}}},
		api.Meta{Cut: []int{}, Objects: []api.Object{}, Intents: []api.Intent{}, Sessions: []api.Session{}, Wastes: []api.Waste{}, Down: []int{}},
	}
	for i, f := range faces() {
		if got, want := f.put(nil, some[i]), f.put(nil, f.zero()); !bytes.Equal(got, want) {
			t.Errorf("%s: %x, want %x", f.name, got, want)
		}
	}
}

func TestPutLooksAtTheLengthAlone(t *testing.T) {
	some := append(make([]int, 0, 100), 1, 2, 3, 4)
	if got := PutConf(nil, api.Conf{Voters: some[:2], Learners: some[:0]}); string(got) != "\x02\x02\x04\x00" {
		t.Errorf("%x", got)
	}
}

func TestPutLeavesStructsAsTheyAre(t *testing.T) {
	structs, _ := known()
	again, _ := known()
	for i, f := range faces() {
		f.put(nil, structs[i])
		if !reflect.DeepEqual(structs[i], again[i]) {
			t.Errorf("%s: %v, want %v", f.name, structs[i], again[i])
		}
	}
}

// P5.2

func TestReadingWhereNoPlaceIsIsRefused(t *testing.T) {
	_, puts := known()
	for i, f := range faces() {
		b := []byte(puts[i])
		for _, at := range []int{-1, -2, -len(b), len(b) + 1, len(b) + 2, math.MinInt, math.MinInt + 1, math.MaxInt, math.MaxInt - 1} {
			f.refuses(t, "of all", b, at, api.ErrArg)
		}
		for _, at := range []int{-1, 1, math.MinInt, math.MaxInt} {
			f.refuses(t, "of nil", nil, at, api.ErrArg)
			f.refuses(t, "of nothing", []byte{}, at, api.ErrArg)
		}
		// There is room, but the length alone counts.
		f.refuses(t, "of what has room behind it", b[:1], 2, api.ErrArg)
	}
}

func TestReadingAtTheEndIsRefused(t *testing.T) {
	_, puts := known()
	for i, f := range faces() {
		f.refuses(t, "of nil", nil, 0, api.ErrPack)
		f.refuses(t, "of nothing", []byte{}, 0, api.ErrPack)
		f.refuses(t, "of all", []byte(puts[i]), len(puts[i]), api.ErrPack)
	}
}

func TestReadingOfWhatEndsTooSoonIsRefused(t *testing.T) {
	_, puts := known()
	for i, f := range faces() {
		b := []byte(puts[i])
		for end := range len(b) {
			f.refuses(t, "of a part", b[:end], 0, api.ErrPack)
			f.refuses(t, "of a part alone", bytes.Clone(b[:end]), 0, api.ErrPack)
			f.refuses(t, "of a part behind another byte", slices.Concat([]byte{7}, b[:end]), 1, api.ErrPack)
		}
	}
}

func TestReadingOfExamples(t *testing.T) {
	if got := PutConf(nil, knownConf()); !bytes.Equal(got, []byte{2, 2, 4, 1, 6}) {
		t.Errorf("%x", got)
	}
	if c, behind, e := Conf([]byte{2, 2}, 0); len(c.Voters)+len(c.Learners) != 0 || behind != 0 || e != api.ErrPack {
		t.Error(c, behind, e)
	}
	if got := PutHeader(nil, api.Header{}); !bytes.Equal(got, make([]byte, 7)) {
		t.Errorf("%x", got)
	}
}

// others are bytes that stand instead of one: others of its size, longer ones for the same number, more of them, none.
func others(x byte) [][]byte {
	list := [][]byte{{}, {x, x}, {x | 128, 0}, {x | 128, 128, 0}, {128, 0}, {x | 128, 1}, {255, 255, 255, 255, 15}, {255, 255, 255, 255, 16}, {128, 128, 128, 128, 16}}
	list = append(list, bytes.Repeat([]byte{255}, 10), append(bytes.Repeat([]byte{255}, 9), 1), append(bytes.Repeat([]byte{128}, 9), 2))
	for y := range 256 {
		list = append(list, []byte{byte(y)})
	}
	return list
}

func TestReadingOfWhatIsAlmostPut(t *testing.T) {
	_, puts := known()
	for i, f := range faces() {
		b := []byte(puts[i])
		met, refused := 0, 0
		for at := range b {
			for _, other := range others(b[at]) {
				if f.readsWell(t, slices.Concat(b[:at], other, b[at+1:]), 0) {
					met++
				} else {
					refused++
				}
			}
		}
		if met < 100 || refused < 100 {
			t.Error("too few to tell", f.name, met, refused)
		}
	}
}

func TestReadingOfBytesByChance(t *testing.T) {
	var d draws
	for _, f := range faces() {
		met := 0
		for round := range 20000 {
			b := d.fill(round%60, 0, 0, 0, 0, 0, 0, 0, 0, 0, 1, 1, 2, 3, 127, 128, 255)
			if f.readsWell(t, b, d.below(len(b)+1)) {
				met++
			}
		}
		if met < 100 {
			t.Error("too few to tell", f.name, met)
		}
	}
}

func TestReadingOfAllShortBytes(t *testing.T) {
	some := faces()[1:3]
	for x := range 256 {
		for y := range 256 {
			for _, f := range some {
				f.readsWell(t, []byte{byte(x), byte(y), 0, 1}, 0)
				f.readsWell(t, []byte{1, byte(x), byte(y), 0}, 1)
			}
		}
	}
}

func TestNumbersOfMoreThan32BitsAreRefused(t *testing.T) {
	long := func(n uint64) string { return string(binary.AppendUvarint(nil, n)) }
	zeros := func(many int) string { return strings.Repeat("\x00", many) }
	all := faces()
	rows := []struct {
		face          face
		ahead, behind string
	}{
		{all[0], zeros(6), ""},
		{all[3], zeros(5), zeros(10)},
		{all[4], zeros(8), zeros(12)},
		{all[5], zeros(8) + "\x01" + zeros(3), zeros(3) + zeros(5)},
		{all[5], zeros(8) + "\x00" + "\x01" + zeros(3), zeros(5) + zeros(4)},
	}
	for _, r := range rows {
		for _, n := range []uint64{0, 1, 127, 128, 1<<31 - 1, 1 << 31, 1<<32 - 2, 1<<32 - 1} {
			b := []byte(r.ahead + long(n) + r.behind)
			if !r.face.readsWell(t, b, 0) {
				t.Errorf("%s: %d is refused", r.face.name, n)
			}
		}
		for _, n := range []uint64{1 << 32, 1<<32 + 1, 1 << 33, 1<<40 - 1, 1 << 63, math.MaxUint64} {
			r.face.refuses(t, "of a sum that is too long", []byte(r.ahead+long(n)+r.behind), 0, api.ErrPack)
		}
	}
}

func TestFlagsOfOtherBytesAreRefused(t *testing.T) {
	all := faces()
	for x := range 256 {
		up := make([]byte, 16)
		up[10] = byte(x)
		open := append([]byte{11: 0}, 0, 0)
		open[10] = 1
		open = slices.Concat(open[:11], []byte{0, 0, byte(x), 0, 0}, open[11:])
		if got := all[3].readsWell(t, up, 0); got != (x < 2) {
			t.Errorf("Cmd: Up of %d: %v", x, got)
		}
		if got := all[5].readsWell(t, open, 0); got != (x < 2) {
			t.Errorf("Meta: Open of %d: %v", x, got)
		}
	}
}

// place is where a list or a text stands among noughts: so many ahead of its length, and behind its elements, of which each is so many.
type place struct {
	face           face
	ahead          int
	behind, within int
}

// places are all lists and texts that there are.
func places() []place {
	all := faces()
	list := []place{{all[1], 0, 1, 1}, {all[1], 1, 0, 1}, {all[2], 1, 0, 2}}
	list = append(list, place{all[3], 3, 12, 1}, place{all[3], 15, 0, 2})
	list = append(list, place{all[4], 6, 14, 1}, place{all[4], 18, 2, 2}, place{all[4], 19, 1, 1}, place{all[4], 20, 0, 1})
	meta := []struct{ ahead, within int }{{4, 2}, {6, 2}, {7, 1}, {8, 7}, {9, 9}, {10, 5}, {11, 4}, {12, 1}}
	for _, m := range meta {
		list = append(list, place{all[5], m.ahead, 13 - m.ahead, m.within})
	}
	return list
}

// of is noughts with that length, and elements of so many, where the list or the text stands.
func (p place) of(length uint64, many int) []byte {
	b := binary.AppendUvarint(make([]byte, p.ahead), length)
	return append(b, make([]byte, many*p.within+p.behind)...)
}

// longestIn tells the length of the longest list or text in v.
func longestIn(v reflect.Value) int {
	most := 0
	switch v.Kind() {
	case reflect.String:
		return v.Len()
	case reflect.Slice:
		most = v.Len()
	case reflect.Struct:
		for i := range v.NumField() {
			most = max(most, longestIn(v.Field(i)))
		}
	}
	return most
}

func TestListsAndTextsOfManyElements(t *testing.T) {
	const most = 1048576
	for _, p := range places() {
		for _, many := range []int{1, 127, 128, most} {
			b := p.of(uint64(many), many)
			x, behind, e := p.face.read(b, 0)
			if longestIn(reflect.ValueOf(x)) != many || behind != len(b) || e != api.OK {
				t.Fatalf("%s: %d at %d: %d, %d, %d", p.face.name, many, p.ahead, longestIn(reflect.ValueOf(x)), behind, e)
			}
			if !bytes.Equal(p.face.put(nil, x), b) {
				t.Fatalf("%s: %d at %d are not put so", p.face.name, many, p.ahead)
			}
		}
		p.face.refuses(t, "of too many", p.of(most+1, most+1), 0, api.ErrPack)
		p.face.refuses(t, "of twice as many", p.of(2*most, 2*most), 0, api.ErrPack)
	}
}

func TestListsInListsOfManyElements(t *testing.T) {
	const most = 1048576
	f := faces()[5]
	for _, many := range []int{most, most + 1} {
		length := string(binary.AppendUvarint(nil, uint64(many)))
		zeros := func(n int) string { return strings.Repeat("\x00", n) }
		rows := []string{
			zeros(8) + "\x01" + length + zeros(many) + zeros(6) + zeros(5),
			zeros(8) + "\x01" + zeros(6) + length + zeros(many) + zeros(5),
			zeros(9) + "\x01" + length + zeros(many) + zeros(8) + zeros(4),
			zeros(9) + "\x01" + zeros(6) + length + zeros(many) + zeros(2) + zeros(4),
		}
		for i, r := range rows {
			if many > most {
				f.refuses(t, "of too many in a list", []byte(r), 0, api.ErrPack)
			} else if _, behind, e := f.read([]byte(r), 0); behind != len(r) || e != api.OK {
				t.Errorf("row %d: %d, %d", i, behind, e)
			}
		}
	}
}

func TestLengthsOfWhatIsNotThereAreRefused(t *testing.T) {
	for _, p := range places() {
		for _, length := range []uint64{1048576, 1048577, 1 << 31, 1<<32 + 1, 1 << 62, 1 << 63, 1<<63 + 1, math.MaxUint64 - 1, math.MaxUint64} {
			p.face.refuses(t, "of a length alone", p.of(length, 0), 0, api.ErrPack)
			p.face.refuses(t, "of a length with one element", p.of(length, 1), 0, api.ErrPack)
		}
	}
}

func TestReadingLooksAtTheLengthAlone(t *testing.T) {
	_, puts := known()
	for i, f := range faces() {
		b := append(make([]byte, 0, 2*len(puts[i])), puts[i]...)
		f.refuses(t, "of all but the last", b[:len(b)-1], 0, api.ErrPack)
		f.refuses(t, "of nothing with all behind it", b[:0], 0, api.ErrPack)
	}
}

func TestReadingChangesNothing(t *testing.T) {
	var d draws
	for _, f := range faces() {
		b := f.put(d.fill(3), f.any(&d, 4))
		kept := bytes.Clone(b)
		f.read(b, 3)
		f.read(b, 4)
		if !bytes.Equal(b, kept) {
			t.Errorf("%s changed what it was handed", f.name)
		}
	}
}

// P5.3

func TestWhatIsPutIsReadAgain(t *testing.T) {
	var d draws
	for _, f := range faces() {
		for round := range 2000 {
			x := f.any(&d, round%7)
			ahead, behind := d.fill(round%4), d.fill(round%5)
			b := f.put(ahead, x)
			f.gives(t, "of what was put", b, len(ahead), x, len(b))
			f.gives(t, "of what was put ahead of more", slices.Concat(b, behind), len(ahead), x, len(b))
		}
	}
}

func TestStructsBehindOneAnother(t *testing.T) {
	structs, _ := known()
	all := faces()
	var b []byte
	for i, f := range all {
		b = f.put(b, structs[i])
	}
	at := 0
	for i, f := range all {
		behind := at + len(laid(nil, reflect.ValueOf(structs[i])))
		f.gives(t, "among others", b, at, structs[i], behind)
		at = behind
	}
	if at != len(b) {
		t.Error(at, len(b))
	}
}

func TestTextsAreAnyBytes(t *testing.T) {
	every := make([]byte, 256)
	for i := range every {
		every[i] = byte(i)
	}
	for _, key := range []string{"", "\x00", "a", "\xff\xfe", "\xed\xa0\x80", "\u2028é", string(every), strings.Repeat("long", 5000)} {
		b := PutCmd(nil, api.Cmd{Key: key})
		if c, behind, e := Cmd(b, 0); c.Key != key || behind != len(b) || e != api.OK {
			t.Errorf("%q: %q, %d, %d", key, c.Key, behind, e)
		}
	}
}

func TestWhatIsLongerIsPutButNotRead(t *testing.T) {
	const many = 1048577
	structs := []any{
		nil,
		api.Conf{Learners: make([]int, many)},
		api.Map{Members: make([]api.Member, many)},
		api.Cmd{Key: strings.Repeat("k", many)},
		api.Entry{Conf: api.Conf{Voters: make([]int, many)}},
		api.Meta{Wastes: make([]api.Waste, many)},
	}
	for i, f := range faces()[1:] {
		b := f.put(nil, structs[i+1])
		if !bytes.Equal(b, laid(nil, reflect.ValueOf(structs[i+1]))) {
			t.Errorf("%s is put otherwise", f.name)
		}
		f.refuses(t, "of too many", b, 0, api.ErrPack)
	}
}

func TestAnswersShareNothing(t *testing.T) {
	b := PutMeta(nil, knownMeta())
	kept := bytes.Clone(b)
	first, _, _ := Meta(b, 0)
	second, _, _ := Meta(b, 0)
	first.Map.Members[0].Weight = 99
	first.Next.Members[0].Weight = 99
	first.Cut[0] = 99
	first.Objects[0].Nodes[0] = 99
	first.Objects[1].Key = "other"
	first.Intents[0].Object.Nodes[0] = 99
	first.Sessions[0].Seq = 99
	first.Wastes[0].Node = 99
	first.Down[0] = 99
	if !bytes.Equal(b, kept) || !bytes.Equal(PutMeta(nil, second), kept) {
		t.Error("an answer is somebody else's, too")
	}
	clear(b)
	if !bytes.Equal(PutMeta(nil, second), kept) {
		t.Error("an answer is what was handed in")
	}
}

func TestListsOfOneAnswerShareNothing(t *testing.T) {
	c, _, _ := Conf(PutConf(nil, knownConf()), 0)
	_ = append(c.Voters, 7)
	if !slices.Equal(c.Learners, []int{3}) {
		t.Error(c)
	}
	m, _, _ := Meta(PutMeta(nil, knownMeta()), 0)
	_ = append(m.Map.Members, api.Member{ID: 7})
	_ = append(m.Cut, 7)
	_ = append(m.Objects[0].Nodes, 7)
	_ = append(m.Objects, api.Object{Key: "c"})
	_ = append(m.Sessions, api.Session{Seq: 7})
	clear(m.Objects[0].Nodes)
	if got, want := m.Intents[0].Object.Nodes, []int{6, 7}; !slices.Equal(got, want) {
		t.Error(got)
	}
	clear(m.Intents[0].Object.Nodes)
	m.Objects[0].Nodes = []int{6, 7}
	m.Intents[0].Object.Nodes = []int{6, 7}
	if !bytes.Equal(PutMeta(nil, m), PutMeta(nil, knownMeta())) {
		t.Error(m)
	}
}
