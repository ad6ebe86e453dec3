package stripe

import (
	"bytes"
	"hash/crc32"
	"math"
	"math/bits"
	"slices"
	"testing"

	"buttress/api"
	"buttress/matrix"
)

// draws are numbers that look like chance, the same in every run.
type draws uint64

func (d *draws) next() uint64 {
	*d = *d*6364136223846793005 + 1442695040888963407
	x := uint64(*d)
	x ^= x >> 33
	x *= 0xff51afd7ed558ccd
	return x ^ x>>29
}

// below is a number from 0 below n.
func (d *draws) below(n int) int {
	return int(d.next() >> 1 % uint64(n))
}

// fill is a list of so many bytes.
func (d *draws) fill(many int) []byte {
	list := make([]byte, many)
	for i := range list {
		list[i] = byte(d.next())
	}
	return list
}

// shuffled is what is in the list, in another order.
func shuffled[T any](d *draws, list []T) []T {
	list = slices.Clone(list)
	for i := len(list) - 1; i > 0; i-- {
		j := d.below(i + 1)
		list[i], list[j] = list[j], list[i]
	}
	return list
}

// slowMul is the product in the field: all of the polynomials' product first, then what it leaves modulo 11d.
func slowMul(a, b byte) byte {
	product := 0
	for bit := range 8 {
		if b>>bit&1 == 1 {
			product ^= int(a) << bit
		}
	}
	for bit := 14; bit >= 8; bit-- {
		if product>>bit&1 == 1 {
			product ^= 0x11d << (bit - 8)
		}
	}
	return byte(product)
}

// slowOver is 1 divided by a.
func slowOver(a byte) byte {
	for b := range 256 {
		if slowMul(a, byte(b)) == 1 {
			return byte(b)
		}
	}
	return 0
}

// slowRow is row i of a generator of k columns.
func slowRow(i, k int) []byte {
	row := make([]byte, k)
	for j := range row {
		switch {
		case i >= k:
			row[j] = slowOver(byte(i) ^ byte(j))
		case i == j:
			row[j] = 1
		}
	}
	return row
}

// slowChunk is chunk i of those that are made of these data chunks.
func slowChunk(data [][]byte, i int) []byte {
	chunk := make([]byte, len(data[0]))
	for j, factor := range slowRow(i, len(data)) {
		for p := range chunk {
			chunk[p] ^= slowMul(factor, data[j][p])
		}
	}
	return chunk
}

// slowLength counts up to the least length that holds all.
func slowLength(size, k int) int {
	length := 0
	for length*k < size {
		length++
	}
	return length
}

// pieces are those chunks with these numbers, in this order.
func pieces(chunks [][]byte, numbers ...int) []api.Piece {
	list := make([]api.Piece, len(numbers))
	for i, number := range numbers {
		list[i] = api.Piece{Index: number, Data: chunks[number]}
	}
	return list
}

// clone is the same pieces in other memory.
func clone(list []api.Piece) []api.Piece {
	other := slices.Clone(list)
	for i := range other {
		other[i].Data = bytes.Clone(other[i].Data)
	}
	return other
}

func samePieces(a, b []api.Piece) bool {
	return slices.EqualFunc(a, b, func(x, y api.Piece) bool { return x.Index == y.Index && bytes.Equal(x.Data, y.Data) })
}

// upTo are the numbers from 0 below n.
func upTo(n int) []int {
	list := make([]int, n)
	for i := range list {
		list[i] = i
	}
	return list
}

// subsets are all choices of k of the numbers below n.
func subsets(k, n int) [][]int {
	var list [][]int
	for mask := range uint(1) << n {
		if bits.OnesCount(mask) == k {
			list = append(list, slices.DeleteFunc(upTo(n), func(i int) bool { return mask>>i&1 == 0 }))
		}
	}
	return list
}

// encoded is Encode where it must not refuse.
func encoded(t *testing.T, b []byte, k, n int) [][]byte {
	t.Helper()
	chunks, e := Encode(b, k, n)
	if e != api.OK || len(chunks) != n {
		t.Fatalf("Encode of %d bytes, %d of %d: %d chunks, %d", len(b), k, n, len(chunks), e)
	}
	return chunks
}

// decodes fails the test unless Decode gives these bytes.
func decodes(t *testing.T, list []api.Piece, size, k, n int, want []byte) {
	t.Helper()
	if got, e := Decode(list, size, k, n); e != api.OK || !bytes.Equal(got, want) {
		t.Fatalf("Decode(%v, %d, %d, %d) = %v, %d, want %v", list, size, k, n, got, e, want)
	}
}

// rebuilds fails the test unless Rebuild gives these bytes.
func rebuilds(t *testing.T, list []api.Piece, size, k, n, index int, want []byte) {
	t.Helper()
	if got, e := Rebuild(list, size, k, n, index); e != api.OK || !bytes.Equal(got, want) {
		t.Fatalf("Rebuild(%v, %d, %d, %d, %d) = %v, %d, want %v", list, size, k, n, index, got, e, want)
	}
}

// refused fails the test unless Decode, and Rebuild of chunk 0, which is one whatever n is from 1 on, answer that error and nothing else.
func refused(t *testing.T, list []api.Piece, size, k, n int, want api.Errno) {
	t.Helper()
	if got, e := Decode(list, size, k, n); e != want || len(got) != 0 {
		t.Errorf("Decode(%v, %d, %d, %d) = %v, %d, want %d", list, size, k, n, got, e, want)
	}
	if got, e := Rebuild(list, size, k, n, 0); e != want || len(got) != 0 {
		t.Errorf("Rebuild(%v, %d, %d, %d, 0) = %v, %d, want %d", list, size, k, n, got, e, want)
	}
}

// noSizes are no object's.
func noSizes() []int {
	return []int{-1, -2, -65536, math.MinInt, math.MinInt + 1, api.MaxObject + 1, api.MaxObject * 2, math.MaxInt, math.MaxInt - 1}
}

// noShapes are no k and n of an object.
func noShapes() [][2]int {
	return [][2]int{
		{0, 0}, {0, 1}, {0, 4}, {-1, 4}, {-1, -1}, {2, 1}, {5, 4}, {255, 254}, {256, 256}, {1, 256}, {255, 256}, {2, 0}, {1, 0}, {1, -1}, {256, 255}, {257, 1},
		{math.MinInt, 4}, {math.MinInt, math.MinInt}, {math.MaxInt, math.MaxInt}, {1, math.MaxInt}, {1, math.MinInt}, {2, math.MinInt}, {math.MaxInt, 255}, {math.MinInt, math.MaxInt},
	}
}

// shapes are some k and n, the least and the greatest among them.
func shapes() [][2]int {
	return [][2]int{{1, 1}, {1, 2}, {1, 5}, {2, 2}, {2, 3}, {2, 4}, {3, 5}, {4, 6}, {5, 5}, {7, 12}, {16, 20}, {1, 255}, {17, 255}, {254, 255}, {255, 255}}
}

// P4.1

func TestLengthIsSizeDividedUpwards(t *testing.T) {
	rows := []struct{ size, k, want int }{
		{3, 2, 2}, {0, 5, 0}, {0, 1, 0}, {0, 255, 0}, {1, 1, 1}, {1, 255, 1}, {254, 255, 1}, {255, 255, 1}, {256, 255, 2}, {4, 2, 2}, {5, 2, 3},
		{65536, 1, 65536}, {65536, 2, 32768}, {65536, 3, 21846}, {65536, 255, 258}, {65535, 255, 257}, {65535, 1, 65535},
	}
	for _, r := range rows {
		if got, e := Length(r.size, r.k); got != r.want || e != api.OK {
			t.Errorf("Length(%d, %d) = %d, %d, want %d", r.size, r.k, got, e, r.want)
		}
	}
	for k := 1; k <= 255; k++ {
		for _, size := range []int{0, 1, k - 1, k, k + 1, 2*k - 1, 2 * k, 2*k + 1, 1000, 65535, 65536} {
			if got, e := Length(size, k); got != slowLength(size, k) || e != api.OK {
				t.Errorf("Length(%d, %d) = %d, %d, want %d", size, k, got, e, slowLength(size, k))
			}
		}
	}
}

func TestLengthRefuses(t *testing.T) {
	for _, size := range noSizes() {
		for _, k := range []int{1, 2, 255} {
			if got, e := Length(size, k); got != 0 || e != api.ErrArg {
				t.Errorf("Length(%d, %d) = %d, %d", size, k, got, e)
			}
		}
	}
	for _, k := range []int{0, -1, -255, 256, 257, 65536, math.MinInt, math.MaxInt} {
		for _, size := range []int{0, 1, 65536} {
			if got, e := Length(size, k); got != 0 || e != api.ErrArg {
				t.Errorf("Length(%d, %d) = %d, %d", size, k, got, e)
			}
		}
	}
}

func TestEncodeOfWhatIsKnown(t *testing.T) {
	rows := []struct {
		b    []byte
		k, n int
		want [][]byte
	}{
		{[]byte{1, 2, 3}, 2, 4, [][]byte{{1, 2}, {3, 0}, {slowMul(142, 1) ^ slowMul(244, 3), slowMul(142, 2)}, {slowMul(244, 1) ^ slowMul(142, 3), slowMul(244, 2)}}},
		{[]byte{7}, 1, 1, [][]byte{{7}}},
		{[]byte{7, 8}, 1, 2, [][]byte{{7, 8}, {7, 8}}},
		{nil, 2, 3, [][]byte{{}, {}, {}}},
		{[]byte{}, 1, 1, [][]byte{{}}},
		{[]byte{1, 2, 3, 4, 5}, 4, 4, [][]byte{{1, 2}, {3, 4}, {5, 0}, {0, 0}}},
		{[]byte{9}, 3, 3, [][]byte{{9}, {0}, {0}}},
	}
	for _, r := range rows {
		got := encoded(t, r.b, r.k, r.n)
		if !slices.EqualFunc(got, r.want, bytes.Equal) {
			t.Errorf("Encode(%v, %d, %d) = %v, want %v", r.b, r.k, r.n, got, r.want)
		}
	}
}

func TestEncodeCutsBytesWithNoughtsBehind(t *testing.T) {
	var d draws
	for _, s := range shapes() {
		for _, size := range []int{0, 1, 2, s[0] - 1, s[0], s[0] + 1, 3*s[0] - 1, 3 * s[0], 700} {
			b := d.fill(size)
			length := slowLength(size, s[0])
			padded := append(bytes.Clone(b), make([]byte, length*s[0]-size)...)
			chunks := encoded(t, b, s[0], s[1])
			for i := range s[0] {
				if !bytes.Equal(chunks[i], padded[i*length:(i+1)*length]) {
					t.Fatalf("%d bytes, %v: data chunk %d is %v", size, s, i, chunks[i])
				}
			}
		}
	}
}

func TestEncodeMakesParityByTheGenerator(t *testing.T) {
	var d draws
	for _, s := range shapes() {
		for _, size := range []int{0, 1, s[0], 2*s[0] + 1} {
			chunks := encoded(t, d.fill(size), s[0], s[1])
			for i := s[0]; i < s[1]; i++ {
				if want := slowChunk(chunks[:s[0]], i); !bytes.Equal(chunks[i], want) {
					t.Fatalf("%d bytes, %v: chunk %d is %v, want %v", size, s, i, chunks[i], want)
				}
			}
		}
	}
}

func TestEncodeIsApplyByteByByte(t *testing.T) {
	var d draws
	for _, s := range shapes() {
		g, e := matrix.Generator(s[0], s[1])
		if e != api.OK {
			t.Fatal(e)
		}
		chunks := encoded(t, d.fill(3*s[0]-1), s[0], s[1])
		for p := range chunks[0] {
			column := make([]byte, s[1])
			for i, chunk := range chunks {
				column[i] = chunk[p]
			}
			want, e := matrix.Apply(g, column[:s[0]])
			if e != api.OK || !bytes.Equal(column, want) {
				t.Fatalf("%v: bytes %d are %v, want %v (%d)", s, p, column, want, e)
			}
		}
	}
}

func TestEncodeOfTheLongestObject(t *testing.T) {
	var d draws
	b := d.fill(api.MaxObject)
	for _, s := range [][2]int{{1, 1}, {1, 2}, {2, 3}, {255, 255}, {200, 203}} {
		chunks := encoded(t, b, s[0], s[1])
		if length := slowLength(len(b), s[0]); len(chunks[s[1]-1]) != length {
			t.Errorf("%v: the last chunk has %d bytes, want %d", s, len(chunks[s[1]-1]), length)
		}
		if got := slices.Concat(chunks[:s[0]]...)[:len(b)]; !bytes.Equal(got, b) {
			t.Errorf("%v: the data chunks are other bytes", s)
		}
		decodes(t, pieces(chunks, upTo(s[1])[s[1]-s[0]:]...), len(b), s[0], s[1], b)
	}
}

func TestEncodeRefuses(t *testing.T) {
	for _, s := range noShapes() {
		for _, b := range [][]byte{nil, {1, 2, 3}, make([]byte, api.MaxObject+1)} {
			if got, e := Encode(b, s[0], s[1]); len(got) != 0 || e != api.ErrArg {
				t.Errorf("Encode of %d bytes, %v: %d chunks, %d", len(b), s, len(got), e)
			}
		}
	}
	for _, s := range shapes() {
		if got, e := Encode(make([]byte, api.MaxObject+1), s[0], s[1]); len(got) != 0 || e != api.ErrArg {
			t.Errorf("Encode of too many bytes, %v: %d chunks, %d", s, len(got), e)
		}
	}
}

func TestEncodeLooksAtTheLengthAlone(t *testing.T) {
	room := []byte{1, 2, 3, 4, 5, 6, 7, 8}
	chunks := encoded(t, room[:3], 2, 3)
	if want := [][]byte{{1, 2}, {3, 0}}; !slices.EqualFunc(chunks[:2], want, bytes.Equal) {
		t.Errorf("%v, want %v", chunks, want)
	}
	if !bytes.Equal(room, []byte{1, 2, 3, 4, 5, 6, 7, 8}) {
		t.Error("what was handed in was changed", room)
	}
}

func TestEncodeAnswersMemoryOfItsOwn(t *testing.T) {
	var d draws
	for _, s := range [][2]int{{1, 1}, {1, 3}, {2, 2}, {3, 5}} {
		b := d.fill(6)
		kept := bytes.Clone(b)
		chunks := encoded(t, b, s[0], s[1])
		want := encoded(t, b, s[0], s[1])
		for i := range chunks {
			_ = append(chunks[i], 1, 2, 3, 4, 5, 6)
			_ = append(chunks[i][:0], make([]byte, len(chunks[i]))...)
			want[i] = make([]byte, len(chunks[i]))
			if !slices.EqualFunc(chunks, want, bytes.Equal) || !bytes.Equal(b, kept) {
				t.Fatalf("%v: chunk %d shares its memory", s, i)
			}
		}
	}
}

// P4.2

func TestDecodeOfWhatIsKnown(t *testing.T) {
	chunks := encoded(t, []byte{1, 2, 3}, 2, 4)
	decodes(t, pieces(chunks, 3, 0), 3, 2, 4, []byte{1, 2, 3})
	refused(t, pieces(chunks, 1), 3, 2, 4, api.ErrFew)
	refused(t, pieces(chunks, 1, 1), 3, 2, 4, api.ErrPiece)
	decodes(t, []api.Piece{{Index: 0}, {Index: 2}}, 0, 2, 3, nil)
	rebuilds(t, []api.Piece{{Index: 0}, {Index: 2}}, 0, 2, 3, 1, nil)
}

func TestDecodeAndRebuildOfEachChoiceInEachOrder(t *testing.T) {
	var d draws
	for n := 1; n <= 7; n++ {
		for k := 1; k <= n; k++ {
			b := d.fill(3*k - 1)
			chunks := encoded(t, b, k, n)
			for many := k; many <= n; many++ {
				for _, numbers := range subsets(many, n) {
					list := shuffled(&d, pieces(chunks, numbers...))
					decodes(t, list, len(b), k, n, b)
					for index, want := range chunks {
						rebuilds(t, list, len(b), k, n, index, want)
					}
				}
			}
		}
	}
}

func TestTheFirstPiecesByIndexAreTakenAlone(t *testing.T) {
	var d draws
	for range 200 {
		n := 2 + d.below(9)
		k := 1 + d.below(n-1)
		b := d.fill(4 * k)
		chunks := encoded(t, b, k, n)
		numbers := slices.Sorted(slices.Values(shuffled(&d, upTo(n))[:k+1+d.below(n-k)]))
		list := clone(pieces(chunks, numbers...))
		for i := k; i < len(list); i++ {
			list[i].Data = d.fill(4)
		}
		list = shuffled(&d, list)
		decodes(t, list, len(b), k, n, b)
		for index, want := range chunks {
			rebuilds(t, list, len(b), k, n, index, want)
		}
	}
}

func TestPiecesNeedNotBeOfEncode(t *testing.T) {
	var d draws
	for range 200 {
		n := 1 + d.below(10)
		k := 1 + d.below(n)
		length := 1 + d.below(4)
		size := length*k - d.below(k)
		data := make([][]byte, k)
		for i := range data {
			data[i] = d.fill(length)
		}
		chunks := make([][]byte, n)
		for i := range chunks {
			chunks[i] = slowChunk(data, i)
		}
		list := pieces(chunks, shuffled(&d, upTo(n))[:k]...)
		decodes(t, list, size, k, n, slices.Concat(data...)[:size])
		for index, want := range chunks {
			rebuilds(t, list, size, k, n, index, want)
		}
	}
}

func TestWhatStandsBehindTheObjectIsKeptInChunks(t *testing.T) {
	list := []api.Piece{{Index: 1, Data: []byte{3, 9}}, {Index: 0, Data: []byte{1, 2}}}
	decodes(t, list, 3, 2, 4, []byte{1, 2, 3})
	rebuilds(t, list, 3, 2, 4, 1, []byte{3, 9})
	rebuilds(t, list, 3, 2, 4, 2, slowChunk([][]byte{{1, 2}, {3, 9}}, 2))
	decodes(t, append(list, api.Piece{Index: 3, Data: []byte{7, 7}}), 3, 2, 4, []byte{1, 2, 3})
}

func TestDecodeAndRebuildOfLargeShapes(t *testing.T) {
	var d draws
	for _, s := range [][2]int{{1, 255}, {20, 255}, {60, 90}, {250, 255}, {254, 255}, {255, 255}} {
		b := d.fill(2*s[0] - 1)
		chunks := encoded(t, b, s[0], s[1])
		for _, numbers := range [][]int{upTo(s[1])[s[1]-s[0]:], shuffled(&d, upTo(s[1]))[:s[0]], upTo(s[1])} {
			list := pieces(chunks, numbers...)
			decodes(t, list, len(b), s[0], s[1], b)
			for _, index := range []int{0, s[0] - 1, s[1] - 1, d.below(s[1])} {
				rebuilds(t, list, len(b), s[0], s[1], index, chunks[index])
			}
		}
	}
}

func TestDecodeAndRebuildRefuseShapesAndSizes(t *testing.T) {
	chunks := encoded(t, []byte{1, 2, 3}, 2, 4)
	for _, list := range [][]api.Piece{nil, pieces(chunks, 0, 1), pieces(chunks, 1, 1), {{Index: -1}}} {
		for _, s := range noShapes() {
			refused(t, list, 3, s[0], s[1], api.ErrArg)
		}
		for _, size := range noSizes() {
			refused(t, list, size, 2, 4, api.ErrArg)
		}
	}
}

func TestRebuildRefusesNumbers(t *testing.T) {
	chunks := encoded(t, []byte{1, 2, 3}, 2, 4)
	for _, list := range [][]api.Piece{nil, pieces(chunks, 0, 1), pieces(chunks, 1, 1), {{Index: -1}}} {
		for _, index := range []int{-1, -4, 4, 5, 255, 256, math.MinInt, math.MaxInt} {
			if got, e := Rebuild(list, 3, 2, 4, index); e != api.ErrArg || len(got) != 0 {
				t.Errorf("Rebuild(%v, 3, 2, 4, %d) = %v, %d", list, index, got, e)
			}
			if got, e := Rebuild(list, 3, 2, math.MinInt, index); e != api.ErrArg || len(got) != 0 {
				t.Errorf("Rebuild(%v, 3, 2, the least int, %d) = %v, %d", list, index, got, e)
			}
		}
	}
}

func TestDecodeAndRebuildRefusePieces(t *testing.T) {
	chunks := encoded(t, []byte{1, 2, 3}, 2, 4)
	wrong := []api.Piece{
		{Index: -1, Data: []byte{1, 2}},
		{Index: 4, Data: []byte{1, 2}},
		{Index: 255, Data: []byte{1, 2}},
		{Index: math.MinInt, Data: []byte{1, 2}},
		{Index: math.MaxInt, Data: []byte{1, 2}},
		{Index: 3, Data: []byte{1}},
		{Index: 3, Data: []byte{1, 2, 3}},
		{Index: 3},
		{Index: 0, Data: chunks[0]},
		{Index: 1, Data: []byte{9, 9}},
		{Index: 2, Data: chunks[2]},
	}
	for _, w := range wrong {
		for place := range 4 {
			refused(t, slices.Insert(pieces(chunks, 0, 1, 2), place, w), 3, 2, 4, api.ErrPiece)
		}
	}
	refused(t, []api.Piece{wrong[0]}, 3, 2, 4, api.ErrPiece)
	refused(t, []api.Piece{wrong[5]}, 3, 2, 4, api.ErrPiece)
	refused(t, pieces(chunks, 3, 2, 1, 0, 3), 3, 2, 4, api.ErrPiece)
	refused(t, pieces(chunks, 2, 2), 3, 2, 4, api.ErrPiece)
	refused(t, pieces(chunks, 0, 1), 5, 2, 4, api.ErrPiece)
	refused(t, pieces(chunks, 0, 1), 2, 2, 4, api.ErrPiece)
	refused(t, pieces(chunks, 0, 1), 0, 2, 4, api.ErrPiece)
}

func TestDecodeAndRebuildRefuseFewPieces(t *testing.T) {
	var d draws
	for _, s := range shapes() {
		b := d.fill(2 * s[0])
		chunks := encoded(t, b, s[0], s[1])
		for _, many := range []int{0, s[0] / 2, s[0] - 1} {
			refused(t, pieces(chunks, shuffled(&d, upTo(s[1]))[:many]...), len(b), s[0], s[1], api.ErrFew)
		}
	}
	refused(t, nil, 0, 1, 1, api.ErrFew)
	refused(t, []api.Piece{}, 0, 255, 255, api.ErrFew)
	// The chunk that is asked for is there, but that alone does not do.
	chunks := encoded(t, []byte{1, 2, 3}, 2, 4)
	if got, e := Rebuild(pieces(chunks, 3), 3, 2, 4, 3); e != api.ErrFew || len(got) != 0 {
		t.Error(got, e)
	}
}

func TestDecodeAndRebuildLeavePiecesAsTheyAre(t *testing.T) {
	var d draws
	b := d.fill(8)
	chunks := encoded(t, b, 2, 5)
	for _, numbers := range [][]int{{1, 0}, {4, 3}, {4, 1}, {2, 0, 1}, {4, 3, 2, 1, 0}} {
		list := clone(pieces(chunks, numbers...))
		kept := clone(list)
		got, e := Decode(list, 8, 2, 5)
		if e != api.OK || !bytes.Equal(got, b) {
			t.Fatal(got, e)
		}
		clear(got[:cap(got)])
		for index := range chunks {
			got, e := Rebuild(list, 8, 2, 5, index)
			if e != api.OK || !bytes.Equal(got, chunks[index]) {
				t.Fatal(got, e)
			}
			clear(got[:cap(got)])
		}
		if !samePieces(list, kept) {
			t.Errorf("%v became %v", kept, list)
		}
	}
}

func TestOneChunkIsAnswersOwn(t *testing.T) {
	list := []api.Piece{{Index: 0, Data: []byte{1, 2, 3}}}
	got, e := Decode(list, 3, 1, 1)
	if e != api.OK || len(got) != 3 {
		t.Fatal(got, e)
	}
	clear(got)
	if !bytes.Equal(list[0].Data, []byte{1, 2, 3}) {
		t.Error("the object is the piece's own memory")
	}
}

// P4.3

func TestHeadsSayWhatChunksAre(t *testing.T) {
	var d draws
	for _, s := range shapes() {
		size := d.below(1000)
		chunks := encoded(t, d.fill(size), s[0], s[1])
		id := api.ChunkID{Version: d.next(), Index: 77, Epoch: d.next()}
		heads, e := Heads(chunks, id, size, s[0])
		if e != api.OK || len(heads) != s[1] {
			t.Fatal(len(heads), e)
		}
		for i, h := range heads {
			sum := crc32.Checksum(chunks[i], crc32.MakeTable(crc32.Castagnoli))
			want := api.Header{ID: api.ChunkID{Version: id.Version, Index: i, Epoch: id.Epoch}, K: s[0], N: s[1], Size: size, Sum: sum}
			if h != want {
				t.Fatalf("%v, chunk %d: %v, want %v", s, i, h, want)
			}
		}
	}
}

func TestHeadsOfChunksOfAnyBytes(t *testing.T) {
	heads, e := Heads([][]byte{[]byte("123456789"), []byte("123456789"), make([]byte, 9)}, api.ChunkID{Index: -5}, 9, 1)
	if e != api.OK || len(heads) != 3 {
		t.Fatal(heads, e)
	}
	for i, sum := range []uint32{0xe3069283, 0xe3069283, crc32.Checksum(make([]byte, 9), crc32.MakeTable(crc32.Castagnoli))} {
		if want := (api.Header{ID: api.ChunkID{Index: i}, K: 1, N: 3, Size: 9, Sum: sum}); heads[i] != want {
			t.Errorf("%v, want %v", heads[i], want)
		}
	}
}

func TestHeadsRefuse(t *testing.T) {
	two := [][]byte{{1, 2}, {3, 0}}
	odd := [][]byte{{1, 2}, {3}}
	rows := []struct {
		chunks  [][]byte
		size, k int
		want    api.Errno
	}{
		{nil, 0, 0, api.ErrArg},
		{nil, 0, 1, api.ErrArg},
		{[][]byte{}, 3, 1, api.ErrArg},
		{make([][]byte, 256), 0, 1, api.ErrArg},
		{make([][]byte, 256), 0, 256, api.ErrArg},
		{make([][]byte, 255), 0, 255, api.OK},
		{make([][]byte, 255), 0, 256, api.ErrArg},
		{make([][]byte, 1), 0, 1, api.OK},
		{two, 3, 0, api.ErrArg},
		{two, 3, -1, api.ErrArg},
		{two, 3, 3, api.ErrArg},
		{two, 3, math.MinInt, api.ErrArg},
		{two, 3, math.MaxInt, api.ErrArg},
		{two, -1, 2, api.ErrArg},
		{two, 65537, 2, api.ErrArg},
		{two, math.MinInt, 2, api.ErrArg},
		{two, math.MaxInt, 2, api.ErrArg},
		{odd, 65537, 2, api.ErrArg},
		{odd, 3, 0, api.ErrArg},
		{two, 3, 2, api.OK},
		{two, 4, 2, api.OK},
		{two, 2, 1, api.OK},
		{two, 3, 1, api.ErrPiece},
		{two, 5, 2, api.ErrPiece},
		{two, 2, 2, api.ErrPiece},
		{two, 0, 2, api.ErrPiece},
		{odd, 3, 2, api.ErrPiece},
		{[][]byte{{1}, {2, 3}}, 2, 2, api.ErrPiece},
		{[][]byte{{1}, {2}, nil}, 2, 2, api.ErrPiece},
		{[][]byte{make([]byte, 65536)}, 65536, 1, api.OK},
	}
	for _, r := range rows {
		heads, e := Heads(r.chunks, api.ChunkID{Version: 1}, r.size, r.k)
		if e != r.want || e != api.OK && len(heads) != 0 || e == api.OK && len(heads) != len(r.chunks) {
			t.Errorf("Heads of %d chunks, size %d, k %d: %d heads, %d, want %d", len(r.chunks), r.size, r.k, len(heads), e, r.want)
		}
	}
}

func TestWhole(t *testing.T) {
	good := api.Chunk{Head: api.Header{ID: api.ChunkID{Version: 3, Index: 1, Epoch: 4}, K: 2, N: 4, Size: 3, Sum: crc32.Checksum([]byte{3, 0}, crc32.MakeTable(crc32.Castagnoli))}, Data: []byte{3, 0}}
	rows := []struct {
		name   string
		change func(c *api.Chunk)
		want   api.Errno
	}{
		{"as it is", func(c *api.Chunk) {}, api.OK},
		{"done", func(c *api.Chunk) { c.Done = true }, api.OK},
		{"of version 0", func(c *api.Chunk) { c.Head.ID.Version = 0 }, api.OK},
		{"of another epoch", func(c *api.Chunk) { c.Head.ID.Epoch = math.MaxUint64 }, api.OK},
		{"first", func(c *api.Chunk) { c.Head.ID.Index = 0 }, api.OK},
		{"last", func(c *api.Chunk) { c.Head.ID.Index = 3 }, api.OK},
		{"behind the last", func(c *api.Chunk) { c.Head.ID.Index = 4 }, api.ErrArg},
		{"ahead of the first", func(c *api.Chunk) { c.Head.ID.Index = -1 }, api.ErrArg},
		{"least index", func(c *api.Chunk) { c.Head.ID.Index = math.MinInt }, api.ErrArg},
		{"greatest index", func(c *api.Chunk) { c.Head.ID.Index = math.MaxInt }, api.ErrArg},
		{"k 0", func(c *api.Chunk) { c.Head.K = 0 }, api.ErrArg},
		{"k below 0", func(c *api.Chunk) { c.Head.K = -2 }, api.ErrArg},
		{"k above n", func(c *api.Chunk) { c.Head.K = 5 }, api.ErrArg},
		{"n below k", func(c *api.Chunk) { c.Head.N = 1 }, api.ErrArg},
		{"n 0", func(c *api.Chunk) { c.Head.N = 0 }, api.ErrArg},
		{"least n", func(c *api.Chunk) { c.Head.N = math.MinInt }, api.ErrArg},
		{"n 255", func(c *api.Chunk) { c.Head.N = 255 }, api.OK},
		{"n 256", func(c *api.Chunk) { c.Head.N = 256 }, api.ErrArg},
		{"k and n 256", func(c *api.Chunk) { c.Head.K, c.Head.N = 256, 256 }, api.ErrArg},
		{"size below 0", func(c *api.Chunk) { c.Head.Size = -1 }, api.ErrArg},
		{"size too great", func(c *api.Chunk) { c.Head.Size = 65537 }, api.ErrArg},
		{"least size", func(c *api.Chunk) { c.Head.Size = math.MinInt }, api.ErrArg},
		{"greatest size", func(c *api.Chunk) { c.Head.Size = math.MaxInt }, api.ErrArg},
		{"a header that may not be, and no bytes", func(c *api.Chunk) { c.Head.K, c.Data = 0, nil }, api.ErrArg},
		{"another size of that length", func(c *api.Chunk) { c.Head.Size = 4 }, api.OK},
		{"a greater size", func(c *api.Chunk) { c.Head.Size = 5 }, api.ErrPiece},
		{"a less size", func(c *api.Chunk) { c.Head.Size = 2 }, api.ErrPiece},
		{"no bytes", func(c *api.Chunk) { c.Data = nil }, api.ErrPiece},
		{"a byte less", func(c *api.Chunk) { c.Data = []byte{3} }, api.ErrPiece},
		{"a byte more", func(c *api.Chunk) { c.Data = []byte{3, 0, 0} }, api.ErrPiece},
		{"a byte more, and another sum", func(c *api.Chunk) { c.Data, c.Head.Sum = []byte{3, 0, 0}, 0 }, api.ErrPiece},
		{"another sum", func(c *api.Chunk) { c.Head.Sum++ }, api.ErrRot},
		{"other bytes", func(c *api.Chunk) { c.Data = []byte{3, 1} }, api.ErrRot},
		{"bytes the other way round", func(c *api.Chunk) { c.Data = []byte{0, 3} }, api.ErrRot},
		{"nothing at all", func(c *api.Chunk) { *c = api.Chunk{} }, api.ErrArg},
		{"an empty chunk", func(c *api.Chunk) { *c = api.Chunk{Head: api.Header{K: 1, N: 1}} }, api.OK},
		{"an empty chunk with a sum", func(c *api.Chunk) { *c = api.Chunk{Head: api.Header{K: 1, N: 1, Sum: 1}} }, api.ErrRot},
	}
	for _, r := range rows {
		c := good
		r.change(&c)
		if got := Whole(c); got != r.want {
			t.Errorf("%s: %d, want %d", r.name, got, r.want)
		}
	}
}

func TestEachBitThatTurnsIsRot(t *testing.T) {
	var d draws
	b := d.fill(100)
	chunks := encoded(t, b, 3, 5)
	heads, e := Heads(chunks, api.ChunkID{Version: 9, Epoch: 2}, len(b), 3)
	if e != api.OK {
		t.Fatal(e)
	}
	for i, h := range heads {
		for bit := range 8 * len(chunks[i]) {
			c := api.Chunk{Head: h, Data: bytes.Clone(chunks[i])}
			if got := Whole(c); got != api.OK {
				t.Fatalf("chunk %d: %d", i, got)
			}
			c.Data[bit/8] ^= 1 << (bit % 8)
			if got := Whole(c); got != api.ErrRot {
				t.Fatalf("chunk %d, bit %d: %d", i, bit, got)
			}
		}
	}
}

func TestHeadsAndWholeLeaveChunksAsTheyAre(t *testing.T) {
	var d draws
	chunks := encoded(t, d.fill(10), 2, 4)
	kept := pieces(chunks, upTo(4)...)
	kept = clone(kept)
	heads, e := Heads(chunks, api.ChunkID{}, 10, 2)
	if e != api.OK {
		t.Fatal(e)
	}
	Whole(api.Chunk{Head: heads[1], Data: chunks[1]})
	if !samePieces(kept, pieces(chunks, upTo(4)...)) {
		t.Error("chunks were changed")
	}
}

// P4.4

func TestAnyOfManyShapesAndSizes(t *testing.T) {
	var d draws
	for range 400 {
		n := 1 + d.below(24)
		k := 1 + d.below(n)
		b := d.fill(d.below(300))
		chunks := encoded(t, b, k, n)
		if got := slices.Concat(chunks[:k]...); !bytes.Equal(got[:len(b)], b) || len(bytes.Trim(got[len(b):], "\x00")) != 0 {
			t.Fatalf("%d of %d: the first chunks are %v, not %v", k, n, got, b)
		}
		list := pieces(chunks, shuffled(&d, upTo(n))[:k+d.below(n-k+1)]...)
		decodes(t, list, len(b), k, n, b)
		for index, want := range chunks {
			rebuilds(t, list, len(b), k, n, index, want)
		}
		heads, e := Heads(chunks, api.ChunkID{Version: d.next(), Epoch: d.next()}, len(b), k)
		if e != api.OK {
			t.Fatal(e)
		}
		for i, h := range heads {
			if e := Whole(api.Chunk{Head: h, Data: chunks[i]}); e != api.OK {
				t.Fatalf("%d of %d, chunk %d: %d", k, n, i, e)
			}
		}
	}
}
