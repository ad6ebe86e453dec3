package octet

import (
	"bytes"
	"encoding/binary"
	"hash/crc32"
	"math"
	"slices"
	"testing"

	"buttress/api"
)

// draws are numbers that look like chance, the same in every run.
type draws uint64

func (d *draws) next() uint64 {
	*d = *d*6364136223846793005 + 1442695040888963407
	x := uint64(*d)
	x ^= x >> 33
	x *= 0xff51afd7ed558ccd
	return x ^ x>>29
}

// fill is a list of so many bytes, each one of those that may be, or any if there are none.
func (d *draws) fill(many int, may ...byte) []byte {
	list := make([]byte, many)
	for i := range list {
		list[i] = byte(d.next())
		if len(may) > 0 {
			list[i] = may[int(list[i])%len(may)]
		}
	}
	return list
}

// answers fails the test unless what a reading gave is what it should give.
func answers[T comparable](t *testing.T, what string, got T, behind int, e api.Errno, want T, wantBehind int, wantErr api.Errno) {
	t.Helper()
	if got != want || behind != wantBehind || e != wantErr {
		t.Fatalf("%s: %v, %d, %d, want %v, %d, %d", what, got, behind, e, want, wantBehind, wantErr)
	}
}

// noPlaces are numbers that are no place of so many bytes.
func noPlaces(many int) []int {
	return []int{-1, -2, -many - 1, many + 1, many + 2, math.MinInt, math.MinInt + 1, math.MaxInt, math.MaxInt - 1}
}

// P3.1

// slowCrc goes bit by bit, with the polynomial as it is: neither it nor the bits are reflected until the end.
func slowCrc(b []byte) uint32 {
	sum := uint32(0xffffffff)
	for _, x := range b {
		for bit := range 8 {
			top := sum>>31 ^ uint32(x>>bit&1)
			sum <<= 1
			if top == 1 {
				sum ^= 0x1edc6f41
			}
		}
	}
	turned := uint32(0)
	for bit := range 32 {
		turned |= sum >> bit & 1 << (31 - bit)
	}
	return ^turned
}

func TestCrcOfWhatIsKnown(t *testing.T) {
	rising := make([]byte, 32)
	for i := range rising {
		rising[i] = byte(i)
	}
	falling := slices.Clone(rising)
	slices.Reverse(falling)
	rows := []struct {
		b    []byte
		want uint32
	}{
		{[]byte("123456789"), 0xe3069283},
		{nil, 0},
		{[]byte{}, 0},
		{[]byte("a"), 0xc1d04330},
		{make([]byte, 32), 0x8a9136aa},
		{bytes.Repeat([]byte{0xff}, 32), 0x62a8ab43},
		{rising, 0x46dd794e},
		{falling, 0x113fdb5c},
	}
	for _, r := range rows {
		if got := Crc(r.b); got != r.want {
			t.Errorf("Crc(%x) = %08x, want %08x", r.b, got, r.want)
		}
	}
}

func TestCrcOfEachByteAndOfManyLengths(t *testing.T) {
	table := crc32.MakeTable(crc32.Castagnoli)
	for x := range 256 {
		b := []byte{byte(x)}
		if got, want := Crc(b), slowCrc(b); got != want || want != crc32.Checksum(b, table) {
			t.Errorf("Crc(%x) = %08x, want %08x", b, got, want)
		}
	}
	var d draws
	for many := range 600 {
		b := d.fill(many)
		if got, want := Crc(b), slowCrc(b); got != want || want != crc32.Checksum(b, table) {
			t.Errorf("of %d bytes: %08x, want %08x", many, got, want)
		}
	}
	for _, many := range []int{65535, 65536, 65537, 4194304} {
		b := d.fill(many)
		if got, want := Crc(b), crc32.Checksum(b, table); got != want {
			t.Errorf("of %d bytes: %08x, want %08x", many, got, want)
		}
	}
}

func TestCrcLooksAtTheLengthAlone(t *testing.T) {
	b := append(make([]byte, 0, 100), "123456789 and more"...)
	kept := bytes.Clone(b)
	if got := Crc(b[:9]); got != 0xe3069283 {
		t.Errorf("%08x", got)
	}
	if !bytes.Equal(b, kept) {
		t.Error("what was handed in was changed", b)
	}
}

func TestWordHasTheLowestByteFirst(t *testing.T) {
	rows := []struct {
		n    uint32
		want []byte
	}{
		{0, []byte{0, 0, 0, 0}},
		{1, []byte{1, 0, 0, 0}},
		{0x100, []byte{0, 1, 0, 0}},
		{0x10000, []byte{0, 0, 1, 0}},
		{0x1000000, []byte{0, 0, 0, 1}},
		{0xe3069283, []byte{0x83, 0x92, 0x06, 0xe3}},
		{math.MaxUint32, []byte{255, 255, 255, 255}},
	}
	for _, r := range rows {
		if got := Word(r.n); !bytes.Equal(got, r.want) {
			t.Errorf("Word(%x) = %x, want %x", r.n, got, r.want)
		}
	}
	var d draws
	for range 1000 {
		n := uint32(d.next())
		if got, want := Word(n), binary.LittleEndian.AppendUint32(nil, n); !bytes.Equal(got, want) {
			t.Errorf("Word(%x) = %x, want %x", n, got, want)
		}
	}
}

func TestWordIsNewMemory(t *testing.T) {
	first := Word(7)
	clear(first)
	if got := Word(7); !bytes.Equal(got, []byte{7, 0, 0, 0}) {
		t.Error(got)
	}
}

// P3.2

// numbers are those beside which a number takes one byte more, the ends, and some by chance of every length.
func numbers() []uint64 {
	list := []uint64{0, 1, 2, 3, 300, math.MaxUint64, math.MaxUint64 - 1, math.MaxInt64, math.MaxInt32, math.MaxUint32}
	var d draws
	for bit := range 64 {
		power := uint64(1) << bit
		list = append(list, power-1, power, power+1, d.next()>>bit, d.next()>>bit)
	}
	return list
}

// ints are those of numbers, and what lies as far below 0.
func ints() []int {
	list := []int{math.MinInt, math.MinInt + 1, math.MaxInt, math.MaxInt - 1, math.MaxInt32, math.MinInt32}
	for _, n := range numbers() {
		list = append(list, int(n), -int(n), -1-int(n))
	}
	return list
}

func TestPutNumberInGroupsOfSevenBits(t *testing.T) {
	rows := []struct {
		n    uint64
		want []byte
	}{
		{0, []byte{0}},
		{1, []byte{1}},
		{127, []byte{127}},
		{128, []byte{128, 1}},
		{300, []byte{0xac, 0x02}},
		{16383, []byte{255, 127}},
		{16384, []byte{128, 128, 1}},
		{1<<63 - 1, []byte{255, 255, 255, 255, 255, 255, 255, 255, 127}},
		{1 << 63, []byte{128, 128, 128, 128, 128, 128, 128, 128, 128, 1}},
		{math.MaxUint64, []byte{255, 255, 255, 255, 255, 255, 255, 255, 255, 1}},
	}
	for _, r := range rows {
		if got := PutNumber(nil, r.n); !bytes.Equal(got, r.want) {
			t.Errorf("PutNumber(%d) = %x, want %x", r.n, got, r.want)
		}
	}
	for _, n := range numbers() {
		if got, want := PutNumber(nil, n), binary.AppendUvarint(nil, n); !bytes.Equal(got, want) {
			t.Errorf("PutNumber(%d) = %x, want %x", n, got, want)
		}
	}
}

func TestPutIntHasTheSignInTheLowestBit(t *testing.T) {
	rows := []struct {
		n    int
		want uint64
	}{
		{0, 0}, {-1, 1}, {1, 2}, {-2, 3}, {2, 4}, {63, 126}, {-64, 127}, {64, 128}, {-65, 129}, {150, 300}, {-150, 299},
		{math.MaxInt64, math.MaxUint64 - 1}, {math.MinInt64, math.MaxUint64}, {math.MinInt64 + 1, math.MaxUint64 - 2},
	}
	for _, r := range rows {
		if got, want := PutInt(nil, r.n), binary.AppendUvarint(nil, r.want); !bytes.Equal(got, want) {
			t.Errorf("PutInt(%d) = %x, want %x", r.n, got, want)
		}
	}
	for _, n := range ints() {
		if got, want := PutInt(nil, n), binary.AppendVarint(nil, int64(n)); !bytes.Equal(got, want) {
			t.Errorf("PutInt(%d) = %x, want %x", n, got, want)
		}
	}
}

// number is what Number should answer: how far the number goes is looked at first, then how it ends.
func number(b []byte, at int) (uint64, int, api.Errno) {
	if at < 0 || at > len(b) {
		return 0, 0, api.ErrArg
	}
	last := at
	for last < len(b) && last < at+9 && b[last] >= 128 {
		last++
	}
	switch {
	case last == len(b):
		return 0, 0, api.ErrShort
	case last == at+9 && b[last] > 1, last > at && b[last] == 0:
		return 0, 0, api.ErrVarint
	}
	n, many := binary.Uvarint(b[at:])
	return n, at + many, api.OK
}

// readsAsNumber fails the test unless Number and Int read at that place what they should, and their Puts write it so.
func readsAsNumber(t *testing.T, b []byte, at int) {
	t.Helper()
	want, wantBehind, wantErr := number(b, at)
	n, behind, e := Number(b, at)
	if n != want || behind != wantBehind || e != wantErr {
		t.Fatalf("Number(%x, %d) = %d, %d, %d, want %d, %d, %d", b, at, n, behind, e, want, wantBehind, wantErr)
	}
	wantInt := int(want >> 1)
	if want&1 == 1 {
		wantInt = ^wantInt
	}
	i, behind, e := Int(b, at)
	if i != wantInt || behind != wantBehind || e != wantErr {
		t.Fatalf("Int(%x, %d) = %d, %d, %d, want %d, %d, %d", b, at, i, behind, e, wantInt, wantBehind, wantErr)
	}
	if e == api.OK && (!bytes.Equal(PutNumber(nil, n), b[at:behind]) || !bytes.Equal(PutInt(nil, i), b[at:behind])) {
		t.Fatalf("%x at %d is not put so", b, at)
	}
}

func TestNumberIsWrittenAsItMustBe(t *testing.T) {
	nine := bytes.Repeat([]byte{128}, 9)
	rows := []struct {
		b      []byte
		at     int
		n      uint64
		behind int
		e      api.Errno
	}{
		{[]byte{0}, 0, 0, 1, api.OK},
		{[]byte{0xac, 0x02}, 0, 300, 2, api.OK},
		{[]byte{0xac, 0x02}, 1, 2, 2, api.OK},
		{[]byte{0, 0, 7}, 1, 0, 2, api.OK},
		{[]byte{128, 0}, 0, 0, 0, api.ErrVarint},
		{[]byte{128, 0}, 1, 0, 2, api.OK},
		{[]byte{255, 0}, 0, 0, 0, api.ErrVarint},
		{[]byte{128, 128, 0}, 0, 0, 0, api.ErrVarint},
		{[]byte{128, 128, 0}, 2, 0, 3, api.OK},
		{[]byte{128, 1, 0}, 0, 128, 2, api.OK},
		{nil, 0, 0, 0, api.ErrShort},
		{[]byte{}, 0, 0, 0, api.ErrShort},
		{[]byte{5}, 1, 0, 0, api.ErrShort},
		{[]byte{128}, 0, 0, 0, api.ErrShort},
		{[]byte{128}, 1, 0, 0, api.ErrShort},
		{[]byte{255, 255, 255}, 0, 0, 0, api.ErrShort},
		{nine, 0, 0, 0, api.ErrShort},
		{slices.Concat(nine, []byte{0}), 0, 0, 0, api.ErrVarint},
		{slices.Concat(nine, []byte{1}), 0, 1 << 63, 10, api.OK},
		{slices.Concat(nine, []byte{2}), 0, 0, 0, api.ErrVarint},
		{slices.Concat(nine, []byte{127}), 0, 0, 0, api.ErrVarint},
		{slices.Concat(nine, []byte{128}), 0, 0, 0, api.ErrVarint},
		{slices.Concat(nine, []byte{129}), 0, 0, 0, api.ErrVarint},
		{slices.Concat(nine, []byte{128, 0}), 0, 0, 0, api.ErrVarint},
		{slices.Concat(nine, []byte{129, 1}), 0, 0, 0, api.ErrVarint},
		{slices.Concat(nine, []byte{1}), 1, 1 << 56, 10, api.OK},
		{slices.Concat([]byte{9, 9}, nine, []byte{1, 9}), 2, 1 << 63, 12, api.OK},
		{slices.Concat([]byte{9, 9}, nine), 2, 0, 0, api.ErrShort},
		{bytes.Repeat([]byte{255}, 9), 0, 0, 0, api.ErrShort},
		{bytes.Repeat([]byte{255}, 10), 0, 0, 0, api.ErrVarint},
		{bytes.Repeat([]byte{255}, 1000), 0, 0, 0, api.ErrVarint},
		{bytes.Repeat([]byte{255}, 1000), 990, 0, 0, api.ErrVarint},
		{bytes.Repeat([]byte{255}, 1000), 991, 0, 0, api.ErrShort},
	}
	for _, r := range rows {
		n, behind, e := Number(r.b, r.at)
		if n != r.n || behind != r.behind || e != r.e {
			t.Errorf("Number(%x, %d) = %d, %d, %d, want %d, %d, %d", r.b, r.at, n, behind, e, r.n, r.behind, r.e)
		}
		readsAsNumber(t, r.b, r.at)
	}
}

func TestNumberOfAllShortBytes(t *testing.T) {
	for x := range 256 {
		readsAsNumber(t, []byte{byte(x)}, 0)
		for y := range 256 {
			b := []byte{byte(x), byte(y)}
			readsAsNumber(t, b, 0)
			readsAsNumber(t, b, 1)
			for _, z := range []byte{0, 1, 127, 128, 255} {
				readsAsNumber(t, append(b, z), 0)
			}
		}
	}
}

func TestNumberOfLongBytes(t *testing.T) {
	var d draws
	for round := range 60000 {
		b := d.fill(round%14, 128, 129, 200, 255)
		if len(b) > 0 {
			b[len(b)-1] = []byte{0, 1, 2, 127, 128, 255}[round/14%6]
		}
		for at := range min(len(b)+1, 4) {
			readsAsNumber(t, b, at)
		}
		readsAsNumber(t, d.fill(12, 0, 1, 2, 127, 128, 129, 254, 255), round%13)
	}
}

func TestNumberLooksAtTheLengthAlone(t *testing.T) {
	b := []byte{128, 1}
	n, behind, e := Number(b[:1], 0)
	answers(t, "Number", n, behind, e, 0, 0, api.ErrShort)
	n, behind, e = Number(b[:0], 0)
	answers(t, "Number of nothing", n, behind, e, 0, 0, api.ErrShort)
	n, behind, e = Number(b[:0], 1)
	answers(t, "Number behind the end", n, behind, e, 0, 0, api.ErrArg)
}

func TestReadingWhereNoPlaceIsIsRefused(t *testing.T) {
	for _, b := range [][]byte{nil, {}, {0}, {1}, {128}, {1, 97, 0}, bytes.Repeat([]byte{255}, 20), make([]byte, 2, 50)} {
		for _, at := range noPlaces(len(b)) {
			n, behind, e := Number(b, at)
			answers(t, "Number", n, behind, e, 0, 0, api.ErrArg)
			i, behind, e := Int(b, at)
			answers(t, "Int", i, behind, e, 0, 0, api.ErrArg)
			f, behind, e := Flag(b, at)
			answers(t, "Flag", f, behind, e, false, 0, api.ErrArg)
			for _, most := range []int{-1, 0, 9, math.MaxInt, math.MinInt} {
				x, behind, e := Bytes(b, at, most)
				answers(t, "Bytes", len(x), behind, e, 0, 0, api.ErrArg)
			}
		}
	}
}

func TestReadingAtTheEndIsShort(t *testing.T) {
	for _, b := range [][]byte{nil, {}, {0}, {1, 97}, {128}, make([]byte, 2, 50)} {
		n, behind, e := Number(b, len(b))
		answers(t, "Number", n, behind, e, 0, 0, api.ErrShort)
		i, behind, e := Int(b, len(b))
		answers(t, "Int", i, behind, e, 0, 0, api.ErrShort)
		f, behind, e := Flag(b, len(b))
		answers(t, "Flag", f, behind, e, false, 0, api.ErrShort)
		for _, most := range []int{-1, 0, 9, math.MaxInt, math.MinInt} {
			x, behind, e := Bytes(b, len(b), most)
			answers(t, "Bytes", len(x), behind, e, 0, 0, api.ErrShort)
		}
	}
}

func TestIntReadsBothSidesOfNought(t *testing.T) {
	rows := []struct {
		b []byte
		n int
	}{
		{[]byte{0}, 0},
		{[]byte{1}, -1},
		{[]byte{2}, 1},
		{[]byte{3}, -2},
		{[]byte{127}, -64},
		{[]byte{128, 1}, 64},
		{[]byte{129, 1}, -65},
		{[]byte{254, 255, 255, 255, 255, 255, 255, 255, 255, 1}, math.MaxInt64},
		{[]byte{255, 255, 255, 255, 255, 255, 255, 255, 255, 1}, math.MinInt64},
		{[]byte{253, 255, 255, 255, 255, 255, 255, 255, 255, 1}, math.MinInt64 + 1},
	}
	for _, r := range rows {
		n, behind, e := Int(r.b, 0)
		answers(t, "Int", n, behind, e, r.n, len(r.b), api.OK)
	}
	for _, b := range [][]byte{{128, 0}, {129, 0}, {255, 255, 255, 255, 255, 255, 255, 255, 255, 2}, {255, 255, 255, 255, 255, 255, 255, 255, 255, 129, 1}} {
		n, behind, e := Int(b, 0)
		answers(t, "Int", n, behind, e, 0, 0, api.ErrVarint)
	}
	for _, b := range [][]byte{{129}, {255, 255, 255, 255, 255, 255, 255, 255, 255}} {
		n, behind, e := Int(b, 0)
		answers(t, "Int", n, behind, e, 0, 0, api.ErrShort)
	}
}

// P3.3

func TestPutBytesHasTheLengthAhead(t *testing.T) {
	for _, x := range [][]byte{nil, {}, make([]byte, 0, 9)} {
		if got := PutBytes(nil, x); !bytes.Equal(got, []byte{0}) {
			t.Errorf("of nothing: %x", got)
		}
	}
	if got := PutBytes([]byte{7}, []byte("ab")); !bytes.Equal(got, []byte{7, 2, 97, 98}) {
		t.Errorf("%x", got)
	}
	var d draws
	for _, many := range []int{1, 2, 126, 127, 128, 129, 16383, 16384, 65536} {
		x := d.fill(many)
		want := append(binary.AppendUvarint([]byte("ahead"), uint64(many)), x...)
		if got := PutBytes([]byte("ahead"), x); !bytes.Equal(got, want) {
			t.Errorf("of %d bytes: %x", many, got)
		}
	}
}

func TestBytes(t *testing.T) {
	long := append([]byte{128, 1}, make([]byte, 128)...)
	rows := []struct {
		b      []byte
		at     int
		most   int
		want   string
		behind int
		e      api.Errno
	}{
		{[]byte{2, 97, 98}, 0, 2, "ab", 3, api.OK},
		{[]byte{2, 97, 98}, 0, 3, "ab", 3, api.OK},
		{[]byte{2, 97, 98}, 0, math.MaxInt, "ab", 3, api.OK},
		{[]byte{2, 97, 98}, 0, 1, "", 0, api.ErrShort},
		{[]byte{2, 97, 98}, 0, 0, "", 0, api.ErrShort},
		{[]byte{2, 97, 98}, 0, -1, "", 0, api.ErrShort},
		{[]byte{2, 97, 98}, 0, math.MinInt, "", 0, api.ErrShort},
		{[]byte{9, 2, 97, 98, 99}, 1, 2, "ab", 4, api.OK},
		{[]byte{0}, 0, 0, "", 1, api.OK},
		{[]byte{0}, 0, 5, "", 1, api.OK},
		{[]byte{7, 0}, 1, 0, "", 2, api.OK},
		{[]byte{0, 97}, 0, 9, "", 1, api.OK},
		{[]byte{0}, 0, -1, "", 0, api.ErrShort},
		{[]byte{0}, 0, math.MinInt, "", 0, api.ErrShort},
		{[]byte{2, 97}, 0, 9, "", 0, api.ErrShort},
		{[]byte{2}, 0, 9, "", 0, api.ErrShort},
		{[]byte{1}, 0, 9, "", 0, api.ErrShort},
		{[]byte{3, 97, 98}, 0, math.MaxInt, "", 0, api.ErrShort},
		{[]byte{2, 97, 98}[:2], 0, 9, "", 0, api.ErrShort}, // room behind the end does not count
		{long, 0, 128, string(long[2:]), 130, api.OK},
		{long, 0, 127, "", 0, api.ErrShort},
		{long[:129], 0, 128, "", 0, api.ErrShort},
		{[]byte{128}, 0, 9, "", 0, api.ErrShort},
		{[]byte{128, 0}, 0, 9, "", 0, api.ErrVarint},
		{[]byte{128, 0}, 0, -1, "", 0, api.ErrVarint}, // ahead of what most refuses
		{[]byte{130, 0, 97, 98}, 0, 9, "", 0, api.ErrVarint},
	}
	for _, r := range rows {
		x, behind, e := Bytes(r.b, r.at, r.most)
		if string(x) != r.want || behind != r.behind || e != r.e {
			t.Errorf("Bytes(%x, %d, %d) = %x, %d, %d, want %x, %d, %d", r.b, r.at, r.most, x, behind, e, r.want, r.behind, r.e)
		}
	}
}

func TestBytesThatSayMoreThanAnyListHas(t *testing.T) {
	for _, n := range []uint64{math.MaxUint64, math.MaxUint64 - 1, 1 << 63, 1<<63 + 1, 1<<63 - 1, 1<<63 - 2, 1<<63 - 12, 1 << 32, 1<<32 + 1, 1 << 31, 1<<64 - 10} {
		b := append(PutNumber([]byte("ahead"), n), "behind"...)
		for _, most := range []int{0, 6, -1, math.MaxInt, math.MinInt} {
			x, behind, e := Bytes(b, 5, most)
			answers(t, "Bytes", len(x), behind, e, 0, 0, api.ErrShort)
		}
	}
}

func TestBytesIsNewMemory(t *testing.T) {
	for _, word := range []string{"", "a", "abc"} {
		b := append(make([]byte, 0, 50), PutBytes([]byte{9}, []byte(word))...)
		b = append(b, "behind"...)
		kept := bytes.Clone(b[:cap(b)])
		x, behind, e := Bytes(b, 1, len(word))
		answers(t, "Bytes", string(x), behind, e, word, 2+len(word), api.OK)
		again, _, _ := Bytes(b, 1, len(word))
		for i := range x {
			x[i] ^= 255
		}
		_ = append(x, 77)
		if !bytes.Equal(b[:cap(b)], kept) || string(again) != word {
			t.Errorf("%q: the answer shares what was handed in, or another answer", word)
		}
		clear(b)
		if string(again) != word {
			t.Errorf("%q: the answer changes with what was handed in", word)
		}
	}
}

func TestFlag(t *testing.T) {
	if got := PutFlag([]byte{7}, true); !bytes.Equal(got, []byte{7, 1}) {
		t.Error("true:", got)
	}
	if got := PutFlag(nil, false); !bytes.Equal(got, []byte{0}) {
		t.Error("false:", got)
	}
	for x := range 256 {
		f, behind, e := Flag([]byte{2, byte(x), 2}, 1)
		if x > 1 {
			answers(t, "Flag", f, behind, e, false, 0, api.ErrVarint)
		} else {
			answers(t, "Flag", f, behind, e, x == 1, 2, api.OK)
		}
	}
	f, behind, e := Flag([]byte{1, 1}[:1], 1)
	answers(t, "Flag with room behind the end", f, behind, e, false, 0, api.ErrShort)
}

// puts are all Put calls, of short things and of long ones.
func puts() map[string]func(out []byte) []byte {
	return map[string]func(out []byte) []byte{
		"a number":       func(out []byte) []byte { return PutNumber(out, 5) },
		"a long number":  func(out []byte) []byte { return PutNumber(out, math.MaxUint64) },
		"an int":         func(out []byte) []byte { return PutInt(out, -5) },
		"a long int":     func(out []byte) []byte { return PutInt(out, math.MinInt) },
		"no bytes":       func(out []byte) []byte { return PutBytes(out, nil) },
		"bytes":          func(out []byte) []byte { return PutBytes(out, []byte("xyz")) },
		"its own bytes":  func(out []byte) []byte { return PutBytes(out, out) },
		"a flag":         func(out []byte) []byte { return PutFlag(out, true) },
		"a flag of none": func(out []byte) []byte { return PutFlag(out, false) },
	}
}

func TestPutLeavesOutAsItIs(t *testing.T) {
	for what, put := range puts() {
		for _, many := range []int{0, 1, 9, 100} {
			var d draws
			roomy := d.fill(many + 120)
			kept := bytes.Clone(roomy)
			got := put(roomy[:many])
			if len(got) <= many || !bytes.Equal(got[:many], kept[:many]) {
				t.Fatalf("%s behind %d bytes: %x", what, many, got)
			}
			copied := bytes.Clone(got)
			again := put(roomy[:many])
			for i := range got {
				got[i] ^= 255
			}
			_ = append(got, 77)
			if !bytes.Equal(roomy, kept) {
				t.Errorf("%s behind %d bytes: out or the room behind its end was changed", what, many)
			}
			if !bytes.Equal(again, copied) {
				t.Errorf("%s behind %d bytes: two answers share memory, or differ", what, many)
			}
		}
	}
}

func TestPutBehindNothingNilOrNot(t *testing.T) {
	for what, put := range puts() {
		if a, b := put(nil), put([]byte{}); !bytes.Equal(a, b) {
			t.Errorf("%s: %x, %x", what, a, b)
		}
	}
}

func TestPutBytesAndReadingChangeNothing(t *testing.T) {
	x := append(make([]byte, 0, 20), "abc"...)
	got := PutBytes(nil, x)
	got[1] = 'z'
	_ = append(got, 7)
	if string(x) != "abc" || x[:4][3] != 0 {
		t.Error("PutBytes shares what was handed in", x)
	}
	b := []byte{3, 97, 98, 99, 128, 0, 1}
	kept := bytes.Clone(b)
	for at := range len(b) + 1 {
		Number(b, at)
		Int(b, at)
		Bytes(b, at, 9)
		Flag(b, at)
	}
	if !bytes.Equal(b, kept) {
		t.Error("what was read was changed", b)
	}
}

// P3.4

func TestWhatIsPutIsReadAgain(t *testing.T) {
	var d draws
	for _, ahead := range [][]byte{nil, {0}, {255, 255}, d.fill(200)} {
		for _, behind := range [][]byte{nil, {0}, {255, 255}, d.fill(20)} {
			for _, n := range numbers() {
				put := PutNumber(ahead, n)
				got, at, e := Number(append(put, behind...), len(ahead))
				answers(t, "Number", got, at, e, n, len(put), api.OK)
			}
			for _, n := range ints() {
				put := PutInt(ahead, n)
				got, at, e := Int(append(put, behind...), len(ahead))
				answers(t, "Int", got, at, e, n, len(put), api.OK)
			}
			for _, many := range []int{0, 1, 2, 127, 128, 129, 16384} {
				x := d.fill(many)
				put := PutBytes(ahead, x)
				got, at, e := Bytes(append(put, behind...), len(ahead), many)
				answers(t, "Bytes", string(got), at, e, string(x), len(put), api.OK)
			}
			for _, f := range []bool{true, false} {
				put := PutFlag(ahead, f)
				got, at, e := Flag(append(put, behind...), len(ahead))
				answers(t, "Flag", got, at, e, f, len(put), api.OK)
			}
		}
	}
}

func TestWhatIsReadIsPutSo(t *testing.T) {
	var d draws
	met := 0
	for round := range 20000 {
		b := d.fill(round%12, 0, 1, 2, 3, 127, 128, 129, 255)
		for at := range len(b) + 1 {
			if x, behind, e := Bytes(b, at, 9); e == api.OK {
				met++
				if !bytes.Equal(PutBytes(b[:at], x), b[:behind]) {
					t.Fatalf("Bytes(%x, %d) = %x, %d", b, at, x, behind)
				}
			}
			if f, behind, e := Flag(b, at); e == api.OK && !bytes.Equal(PutFlag(b[:at], f), b[:behind]) {
				t.Fatalf("Flag(%x, %d) = %v, %d", b, at, f, behind)
			}
			readsAsNumber(t, b, at)
		}
	}
	if met < 1000 {
		t.Error("too few to tell", met)
	}
}

func TestManyThingsBehindOneAnother(t *testing.T) {
	b := PutFlag(PutBytes(PutInt(PutNumber(Word(7), 300), -300), []byte("abc")), true)
	n, at, e := Number(b, 4)
	answers(t, "Number", n, at, e, 300, 6, api.OK)
	i, at, e := Int(b, at)
	answers(t, "Int", i, at, e, -300, 8, api.OK)
	x, at, e := Bytes(b, at, 3)
	answers(t, "Bytes", string(x), at, e, "abc", 12, api.OK)
	f, at, e := Flag(b, at)
	answers(t, "Flag", f, at, e, true, len(b), api.OK)
}

func TestABitThatIsTurnedTurnsTheCrc(t *testing.T) {
	var d draws
	for _, many := range []int{1, 2, 3, 4, 7, 8, 31, 64, 300} {
		for _, b := range [][]byte{make([]byte, many), bytes.Repeat([]byte{255}, many), d.fill(many)} {
			sum := Crc(b)
			for bit := range 8 * many {
				b[bit/8] ^= 1 << (bit % 8)
				if Crc(b) == sum {
					t.Fatalf("%d bytes, bit %d", many, bit)
				}
				b[bit/8] ^= 1 << (bit % 8)
			}
			if Crc(b) != sum {
				t.Fatal("another sum of the same bytes", many)
			}
		}
	}
	b := d.fill(api.MaxObject)
	sum := Crc(b)
	for bit := 0; bit < 8*len(b); bit += 4001 {
		b[bit/8] ^= 1 << (bit % 8)
		if Crc(b) == sum {
			t.Fatal(bit)
		}
		b[bit/8] ^= 1 << (bit % 8)
	}
}
