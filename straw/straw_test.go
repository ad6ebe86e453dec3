package straw

import (
	"hash/fnv"
	"math"
	"math/big"
	"math/bits"
	"slices"
	"strings"
	"testing"

	"buttress/api"
)

// draws are numbers that look like chance, the same in every run.
type draws uint64

func (d *draws) next() uint64 {
	*d = *d*6364136223846793005 + 1442695040888963407
	x := uint64(*d)
	x ^= x >> 33
	x *= 0xff51afd7ed558ccd
	return x ^ x>>29
}

// below is a number from 0 below n.
func (d *draws) below(n int) int {
	return int(d.next() >> 1 % uint64(n))
}

// wide is a whole number, as large as it may become.
func wide(x uint64) *big.Int {
	return new(big.Int).SetUint64(x)
}

// cut is what x leaves modulo 2^64.
func cut(x *big.Int) uint64 {
	return new(big.Int).And(x, wide(math.MaxUint64)).Uint64()
}

// slowMix goes as the document says it, in numbers that do not wrap round.
func slowMix(x uint64) uint64 {
	x = cut(new(big.Int).Mul(wide(x^x/(1<<30)), wide(0xbf58476d1ce4e5b9)))
	x = cut(new(big.Int).Mul(wide(x^x/(1<<27)), wide(0x94d049bb133111eb)))
	return x ^ x/(1<<31)
}

// slowHash is Hash, of slowMix.
func slowHash(a, b, c uint64) uint64 {
	return slowMix(slowMix(slowMix(cut(new(big.Int).Add(wide(a), wide(0x9e3779b97f4a7c15))))^b) ^ c)
}

// numbers are single bits, those beside them, and some by chance.
func numbers() []uint64 {
	list := []uint64{0, math.MaxUint64}
	for bit := range 64 {
		list = append(list, 1<<bit, 1<<bit-1, ^uint64(1<<bit))
	}
	var d draws
	for range 1000 {
		list = append(list, d.next())
	}
	return list
}

// P10.1

func TestMixOfWhatIsKnown(t *testing.T) {
	// What a well-known row of chance numbers, which mixes in this way, begins with from the seed 0.
	rows := map[uint64]uint64{
		0:                  0,
		0x9e3779b97f4a7c15: 0xe220a8397b1dcdaf,
		0x3c6ef372fe94f82a: 0x6e789e6aa1b965f4,
	}
	for x, want := range rows {
		if got := Mix(x); got != want {
			t.Errorf("Mix(%x) = %x, want %x", x, got, want)
		}
	}
}

func TestMix(t *testing.T) {
	for _, x := range numbers() {
		if got, want := Mix(x), slowMix(x); got != want {
			t.Errorf("Mix(%x) = %x, want %x", x, got, want)
		}
	}
}

func TestHash(t *testing.T) {
	list := numbers()
	for _, x := range list {
		for _, row := range [][3]uint64{{x, 0, 0}, {0, x, 0}, {0, 0, x}, {x, x, x}, {x, 1, math.MaxUint64}} {
			if got, want := Hash(row[0], row[1], row[2]), slowHash(row[0], row[1], row[2]); got != want {
				t.Errorf("Hash(%x) = %x, want %x", row, got, want)
			}
		}
	}
	var d draws
	for range 5000 {
		a, b, c := list[d.below(len(list))], list[d.below(len(list))], list[d.below(len(list))]
		if got, want := Hash(a, b, c), slowHash(a, b, c); got != want {
			t.Errorf("Hash(%x, %x, %x) = %x, want %x", a, b, c, got, want)
		}
	}
}

func TestHashOfOtherPlacesIsAnother(t *testing.T) {
	rows := [][3]uint64{{1, 2, 3}, {1, 3, 2}, {2, 1, 3}, {2, 3, 1}, {3, 1, 2}, {3, 2, 1}}
	met := map[uint64]int{}
	for _, r := range rows {
		met[Hash(r[0], r[1], r[2])]++
	}
	if len(met) != len(rows) {
		t.Error(met)
	}
}

// slowText is Mix of the library's own sum, which begins and goes on in the same way.
func slowText(s string) uint64 {
	sum := fnv.New64a()
	sum.Write([]byte(s))
	return slowMix(sum.Sum64())
}

func TestText(t *testing.T) {
	if got := Text(""); got != slowMix(0xcbf29ce484222325) {
		t.Errorf("of nothing: %x", got)
	}
	if got := Text("a"); got != slowMix(0xaf63dc4c8601ec8c) {
		t.Errorf("of a: %x", got)
	}
	texts := []string{
		"foobar",
		"\x00",
		"\x00\x00",
		"\xff\xfe\x80",           // bytes that are no runes
		"\u00e4\u4e16\U0001f600", // runes of two, three and four bytes
		"ba", "ab",               // places count
		strings.Repeat("k", 64),      // the longest key
		strings.Repeat("\xff", 1000), // longer ones
	}
	for x := range 256 {
		texts = append(texts, string([]byte{byte(x)}), string([]byte{'k', byte(x), 0}))
	}
	var d draws
	for many := range 200 {
		b := make([]byte, many)
		for i := range b {
			b[i] = byte(d.next())
		}
		texts = append(texts, string(b))
	}
	for _, s := range texts {
		if got, want := Text(s), slowText(s); got != want {
			t.Errorf("Text(%q) = %x, want %x", s, got, want)
		}
	}
}

// P10.2

// slowLn goes as the document says it, in numbers of any size, and with each bit at its own place.
func slowLn(u int) int {
	e := 0
	for 1<<(e+1) <= u {
		e++
	}
	y := new(big.Int).Lsh(big.NewInt(int64(u)), uint(31-e))
	two := new(big.Int).Lsh(big.NewInt(1), 32)
	sum := e * 16777216
	for bit := 23; bit >= 0; bit-- {
		y.Mul(y, y)
		y.Rsh(y, 31)
		if y.Cmp(two) >= 0 {
			sum += 1 << bit
			y.Rsh(y, 1)
		}
	}
	return sum
}

func TestLnOfWhatIsKnown(t *testing.T) {
	rows := [][2]int{{1, 0}, {2, 16777216}, {3, 26591258}, {4, 33554432}, {32768, 15 * 16777216}, {65536, 268435456}}
	for _, r := range rows {
		if got := Ln(r[0]); got != r[1] {
			t.Errorf("Ln(%d) = %d, want %d", r[0], got, r[1])
		}
	}
}

func TestLnOfAll(t *testing.T) {
	for u := 1; u <= 65536; u++ {
		got := Ln(u)
		if want := slowLn(u); got != want {
			t.Fatalf("Ln(%d) = %d, want %d", u, got, want)
		}
		// What is dropped at each of the 24 squares makes it one less at most.
		if exact := math.Log2(float64(u)) * 16777216; float64(got) > exact+0.001 || float64(got) < exact-2 {
			t.Fatalf("Ln(%d) = %d, the logarithm is %f", u, got, exact)
		}
	}
}

func TestLnOfWhatHasNone(t *testing.T) {
	for _, u := range []int{0, -1, -2, -65536, math.MinInt, math.MinInt + 1, 65537, 65538, 131072, 1 << 31, 1 << 32, 1<<32 + 1, math.MaxInt - 1, math.MaxInt} {
		if got := Ln(u); got != 0 {
			t.Errorf("Ln(%d) = %d", u, got)
		}
	}
}

// slowCost is Cost, in numbers of any size.
func slowCost(h uint64, weight int) int {
	if weight < 1 {
		return 9223372036854775807
	}
	if weight > 65535 {
		weight = 65535
	}
	lack := 268435456 - slowLn(int(h&65535)+1)
	sum := new(big.Int).Mul(big.NewInt(int64(lack)), big.NewInt(65536))
	return int(sum.Div(sum, big.NewInt(int64(weight))).Int64())
}

func TestCostOfWhatIsKnown(t *testing.T) {
	rows := []struct {
		h      uint64
		weight int
		want   int
	}{
		{65535, 1, 0},
		{65535, 65535, 0},
		{0, 1, 1 << 44},
		{0, 2, 1 << 43},
		{0, 3, 5864062014805}, // downwards: a third of 2^44 is that and a third
		{0, 65535, 268439552}, // 2^28 and 2^12, and 2^12 of 65535
		{1, 1, 15 << 40},
		{65536, 1, 1 << 44}, // no more than 16 bits of h count
		{1<<63 + 65535, 7, 0},
		{math.MaxUint64, 1, 0},
	}
	for _, r := range rows {
		if got := Cost(r.h, r.weight); got != r.want {
			t.Errorf("Cost(%d, %d) = %d, want %d", r.h, r.weight, got, r.want)
		}
	}
}

func TestCost(t *testing.T) {
	weights := []int{1, 2, 3, 7, 100, 255, 256, 32767, 32768, 65534, 65535}
	var d draws
	for h := range uint64(65536) {
		high := d.next() << 16
		weight := weights[d.below(len(weights))]
		if d.below(2) == 0 {
			weight = 1 + d.below(65535)
		}
		want := slowCost(h, weight)
		if got := Cost(h, weight); got != want {
			t.Fatalf("Cost(%d, %d) = %d, want %d", h, weight, got, want)
		}
		if got := Cost(high+h, weight); got != want {
			t.Fatalf("Cost(%d, %d) = %d, want %d", high+h, weight, got, want)
		}
	}
}

func TestCostWithoutAWeightIsTheGreatest(t *testing.T) {
	for _, h := range numbers() {
		for _, weight := range []int{0, -1, -65535, math.MinInt, math.MinInt + 1} {
			if got := Cost(h, weight); got != 1<<63-1 {
				t.Errorf("Cost(%d, %d) = %d", h, weight, got)
			}
		}
	}
}

func TestCostOfTooGreatAWeightIsThatOfTheGreatest(t *testing.T) {
	for _, h := range numbers() {
		want := slowCost(h, 65535)
		for _, weight := range []int{65536, 65537, 131070, 1 << 32, math.MaxInt - 1, math.MaxInt} {
			if got := Cost(h, weight); got != want {
				t.Errorf("Cost(%d, %d) = %d, want %d", h, weight, got, want)
			}
		}
	}
}

// P10.3

// slowChoose goes through the places from the end on, and asks for weights by themselves.
func slowChoose(ids, weights []int, x, round uint64) int {
	chosen := -1
	for i := len(ids) - 1; i >= 0; i-- {
		if weights[i] < 1 {
			continue
		}
		if chosen < 0 || slowCost(slowHash(x, round, uint64(ids[i])), weights[i]) <= slowCost(slowHash(x, round, uint64(ids[chosen])), weights[chosen]) {
			chosen = i
		}
	}
	return chosen
}

// chooses fails the test unless Choose answers that place.
func chooses(t *testing.T, ids, weights []int, x, round uint64, want int) {
	t.Helper()
	if got, e := Choose(ids, weights, x, round); got != want || e != api.OK {
		t.Fatalf("Choose(%v, %v, %d, %d) = %d, %d, want %d", ids, weights, x, round, got, e, want)
	}
}

// ids are so many rising numbers from 1 on.
func ids(many int) []int {
	list := make([]int, many)
	for i := range list {
		list[i] = i + 1
	}
	return list
}

// weights are so many by chance: noughts, small ones, any, and seldom some that are none.
func (d *draws) weights(many int) []int {
	list := make([]int, many)
	for i := range list {
		switch d.below(8) {
		case 0:
		case 1, 2, 3:
			list[i] = 1 + d.below(4)
		case 4:
			list[i] = 65530 + d.below(10)
		case 5:
			list[i] = -d.below(3)
		default:
			list[i] = d.below(65536)
		}
	}
	return list
}

func TestChooseOfWhatIsKnown(t *testing.T) {
	chooses(t, nil, nil, 7, 0, -1)
	chooses(t, []int{}, nil, 7, 0, -1)
	chooses(t, nil, []int{}, 7, 0, -1)
	for x := range uint64(20) {
		chooses(t, []int{1, 2}, []int{0, 5}, x, x/3, 1)
		chooses(t, []int{1, 2}, []int{5, 0}, x, x/3, 0)
		chooses(t, []int{1, 2, 3}, []int{-5, 1, math.MinInt}, x, x/3, 1)
		chooses(t, []int{9}, []int{math.MaxInt}, x, x/3, 0)
	}
}

func TestChooseIsTheLeastCost(t *testing.T) {
	var d draws
	for range 3000 {
		many := d.below(33)
		list, w := ids(many), d.weights(many)
		for i := range list {
			if d.below(10) == 0 {
				list[i] = int(d.next()) // any id goes, also one below 0
			}
		}
		x, round := d.next()>>d.below(64), d.next()>>d.below(64)
		chooses(t, list, w, x, round, slowChoose(list, w, x, round))
	}
}

func TestChooseByEachOfItsNumbers(t *testing.T) {
	list, w := ids(20), slices.Repeat([]int{3}, 20)
	met := [3]map[int]int{{}, {}, {}}
	for n := range uint64(200) {
		shifted := ids(20)
		for i := range shifted {
			shifted[i] -= int(n) * 20 // below 0, too
		}
		chooses(t, list, w, n, 5, slowChoose(list, w, n, 5))
		chooses(t, list, w, 5, n, slowChoose(list, w, 5, n))
		chooses(t, shifted, w, 5, 5, slowChoose(shifted, w, 5, 5))
		met[0][slowChoose(list, w, n, 5)]++
		met[1][slowChoose(list, w, 5, n)]++
		met[2][slowChoose(shifted, w, 5, 5)]++
	}
	for _, m := range met {
		if len(m) < 15 {
			t.Error("choices do not hang on that number", m)
		}
	}
}

func TestChooseIsTheFirstOfSeveral(t *testing.T) {
	for x := range uint64(50) {
		chooses(t, []int{4, 4, 4}, []int{2, 2, 2}, x, 1, 0)
		chooses(t, []int{4, 4, 4}, []int{0, 2, 2}, x, 1, 1)
		chooses(t, []int{4, 4}, []int{65535, 65536}, x, 1, 0)
		chooses(t, []int{4, 4}, []int{math.MaxInt, 65535}, x, 1, 0)
	}
	// The greatest straw costs nothing, whatever the weight is.
	round := uint64(0)
	for Hash(7, round, 4)%65536 != 65535 {
		round++
	}
	chooses(t, []int{4, 4}, []int{1, 65535}, 7, round, 0)
	chooses(t, []int{4, 4}, []int{65535, 1}, 7, round, 0)
	chooses(t, []int{4, 4, 4}, []int{0, 1, 65535}, 7, round, 1)
}

func TestChooseWithoutAWeight(t *testing.T) {
	for many := range 40 {
		chooses(t, ids(many), make([]int, many), 7, 1, -1)
		chooses(t, ids(many), slices.Repeat([]int{-1}, many), 7, 1, -1)
		chooses(t, ids(many), slices.Repeat([]int{math.MinInt}, many), 7, 1, -1)
	}
}

func TestChooseOfUnlikeLengthsIsRefused(t *testing.T) {
	rows := [][2][]int{
		{nil, {1}},
		{{1}, nil},
		{{1, 2}, {1}},
		{{1}, {1, 2}},
		{{1, 2}, {0}},
		{ids(33), ids(32)},
		{make([]int, 1, 2), {1, 2}}, // room behind the end does not count
		{{1, 2}, make([]int, 1, 2)},
	}
	for _, r := range rows {
		if got, e := Choose(r[0], r[1], 7, 0); got != 0 || e != api.ErrArg {
			t.Errorf("Choose(%v, %v) = %d, %d", r[0], r[1], got, e)
		}
	}
}

func TestChooseOnlyReads(t *testing.T) {
	list, w := append(make([]int, 0, 9), 3, 1, 2), append(make([]int, 0, 9), 5, 0, 6)
	first, _ := Choose(list, w, 7, 1)
	second, e := Choose(list, w, 7, 1)
	if first != second || e != api.OK {
		t.Error("another answer the second time", first, second, e)
	}
	if !slices.Equal(list, []int{3, 1, 2}) || !slices.Equal(w, []int{5, 0, 6}) || list[:4][3] != 0 || w[:4][3] != 0 {
		t.Error("what was handed in was changed", list, w)
	}
}

func TestChooseOfMany(t *testing.T) {
	many := 1 << 20
	list, w := ids(many), make([]int, many)
	w[many-1] = 1
	chooses(t, list, w, 7, 1, many-1)
	w[5] = 65535
	want := many - 1
	if slowCost(slowHash(7, 1, 6), 65535) <= slowCost(slowHash(7, 1, uint64(many)), 1) {
		want = 5
	}
	chooses(t, list, w, 7, 1, want)
}

// P10.4

func TestStrawsMoveNoMoreThanTheyMust(t *testing.T) {
	var d draws
	moved, stayed := 0, 0
	for range 20000 {
		many := 1 + d.below(32)
		list, w := ids(many), d.weights(many)
		x, round := uint64(d.below(64)), uint64(d.below(256))
		before, _ := Choose(list, w, x, round)
		at := d.below(many)
		old := w[at]
		w[at] = d.weights(1)[0]
		after, e := Choose(list, w, x, round)
		if e != api.OK {
			t.Fatal(e)
		}
		if after == before {
			stayed++
			continue
		}
		moved++
		if w[at] > old && after != at || w[at] <= old && before != at {
			t.Fatalf("%d of weight %d has %d: from %d to %d", at, old, w[at], before, after)
		}
	}
	if moved < 500 || stayed < 500 {
		t.Error("that asks little:", moved, stayed)
	}
}

func TestAChoiceThatLosesItsWeightMoves(t *testing.T) {
	var d draws
	for range 2000 {
		many := 2 + d.below(20)
		list, w := ids(many), slices.Repeat([]int{1 + d.below(9)}, many)
		x := d.next()
		before, _ := Choose(list, w, x, 0)
		w[before] = 0
		if after, e := Choose(list, w, x, 0); after == before || after < 0 || e != api.OK {
			t.Fatal(before, after, e)
		}
	}
}

func TestChoicesAreByWeight(t *testing.T) {
	list, w := ids(4), []int{1, 2, 4, 0}
	var many [4]int
	for x := range uint64(7000) {
		at, _ := Choose(list, w, x, 0)
		many[at]++
	}
	for i, n := range many {
		if want := 1000 * w[i]; n < want*9/10 || n > want*11/10 {
			t.Error("of weight", w[i], "chosen", n, "times in 7000")
		}
	}
}

func TestLnRises(t *testing.T) {
	for u := 1; u < 65536; u++ {
		if Ln(u) >= Ln(u+1) {
			t.Fatal(u, Ln(u), Ln(u+1))
		}
		if want := bits.Len(uint(u)) - 1; Ln(u)>>24 != want {
			t.Fatal(u, Ln(u))
		}
	}
}
