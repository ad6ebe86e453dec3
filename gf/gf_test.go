package gf

import (
	"bytes"
	"math"
	"testing"

	"buttress/api"
)

// product multiplies as the document says it: the product of polynomials first, then what is left modulo 11d.
func product(a, b byte) byte {
	wide := 0
	for bit := range 8 {
		if b>>bit&1 == 1 {
			wide ^= int(a) << bit
		}
	}
	for bit := 14; bit >= 8; bit-- {
		if wide>>bit&1 == 1 {
			wide ^= 0x11d << (bit - 8)
		}
	}
	return byte(wide)
}

// power is a times itself n times, for n from 0 on.
func power(a byte, n int) byte {
	p := byte(1)
	for range n {
		p = product(p, a)
	}
	return p
}

// inverse is the one element whose product with a, which is not 0, is 1.
func inverse(t *testing.T, a byte) byte {
	t.Helper()
	found, many := byte(0), 0
	for b := range 256 {
		if product(a, byte(b)) == 1 {
			found = byte(b)
			many++
		}
	}
	if many != 1 {
		t.Fatalf("%d has %d inverses", a, many)
	}
	return found
}

// P1.1

func TestMulIsTheProductModuloThePolynomial(t *testing.T) {
	if Mul(2, 128) != 29 || Mul(3, 7) != 9 {
		t.Error("example 1", Mul(2, 128), Mul(3, 7))
	}
	for a := range 256 {
		for b := range 256 {
			if got, want := Mul(byte(a), byte(b)), product(byte(a), byte(b)); got != want {
				t.Fatalf("Mul(%d, %d) = %d, want %d", a, b, got, want)
			}
		}
	}
}

func TestDivGivesWhatTimesTheDivisorIsTheDividend(t *testing.T) {
	if got, e := Div(1, 2); got != 142 || e != api.OK {
		t.Error("example 1", got, e)
	}
	for a := range 256 {
		for b := 1; b < 256; b++ {
			got, e := Div(byte(a), byte(b))
			if e != api.OK || product(got, byte(b)) != byte(a) {
				t.Fatalf("Div(%d, %d) = %d, %d", a, b, got, e)
			}
		}
	}
}

func TestDivByNoughtIsRefused(t *testing.T) {
	for a := range 256 {
		if got, e := Div(byte(a), 0); got != 0 || e != api.ErrZero {
			t.Errorf("Div(%d, 0) = %d, %d", a, got, e)
		}
	}
}

func TestPowFromNoughtOn(t *testing.T) {
	for a := range 256 {
		want := byte(1)
		for n := range 600 {
			if got := Pow(byte(a), n); got != want {
				t.Fatalf("Pow(%d, %d) = %d, want %d", a, n, got, want)
			}
			want = product(want, byte(a))
		}
	}
}

func TestPowBelowNought(t *testing.T) {
	if got := Pow(2, -1); got != 142 {
		t.Error("example 1", got)
	}
	for a := 1; a < 256; a++ {
		over := inverse(t, byte(a))
		want := over
		for n := -1; n >= -600; n-- {
			if got := Pow(byte(a), n); got != want {
				t.Fatalf("Pow(%d, %d) = %d, want %d", a, n, got, want)
			}
			want = product(want, over)
		}
	}
}

func TestPowOfNought(t *testing.T) {
	if got := Pow(0, 0); got != 1 {
		t.Error("Pow(0, 0) =", got)
	}
	for _, n := range []int{1, 2, 254, 255, 256, 510, math.MaxInt, -1, -2, -254, -255, -256, -510, math.MinInt, math.MinInt + 1} {
		if got := Pow(0, n); got != 0 {
			t.Errorf("Pow(0, %d) = %d", n, got)
		}
	}
}

// ends are powers at the ends of int, and powers from 0 on by which every element but 0 gives the same: 2^8 is 1 modulo 255, so the greatest int (2^63 - 1, or 2^31 - 1) is 127 there, and the least one -128.
func ends() [][2]int {
	return [][2]int{
		{math.MaxInt, 127},
		{math.MaxInt - 1, 126},
		{math.MinInt, 127},
		{math.MinInt + 1, 128},
		{math.MaxInt32, 127},
		{math.MinInt32, 127},
	}
}

func TestPowAtTheEndsOfInt(t *testing.T) {
	for a := 1; a < 256; a++ {
		for _, row := range ends() {
			if got, want := Pow(byte(a), row[0]), power(byte(a), row[1]); got != want {
				t.Errorf("Pow(%d, %d) = %d, want %d", a, row[0], got, want)
			}
		}
	}
}

// P1.2

func TestExpIsThePowerOfTwo(t *testing.T) {
	if got := Exp(8); got != 29 {
		t.Error("example 1", got)
	}
	up, down := byte(1), byte(1)
	half := inverse(t, 2)
	for n := range 1000 {
		if Exp(n) != up || Exp(-n) != down {
			t.Fatalf("Exp(%d) = %d, want %d; Exp(%d) = %d, want %d", n, Exp(n), up, -n, Exp(-n), down)
		}
		up, down = product(up, 2), product(down, half)
	}
	for _, row := range ends() {
		if got, want := Exp(row[0]), power(2, row[1]); got != want {
			t.Errorf("Exp(%d) = %d, want %d", row[0], got, want)
		}
	}
}

func TestLogIsTheLeastPower(t *testing.T) {
	if got, e := Log(29); got != 8 || e != api.OK {
		t.Error("example 1, 29", got, e)
	}
	if got, e := Log(1); got != 0 || e != api.OK {
		t.Error("example 1, 1", got, e)
	}
	for a := 1; a < 256; a++ {
		want := 0
		for power(2, want) != byte(a) {
			want++
		}
		if got, e := Log(byte(a)); got != want || e != api.OK {
			t.Errorf("Log(%d) = %d, %d, want %d", a, got, e, want)
		}
	}
}

func TestLogOfNoughtIsRefused(t *testing.T) {
	if got, e := Log(0); got != 0 || e != api.ErrZero {
		t.Error(got, e)
	}
}

// P1.3

func TestEval(t *testing.T) {
	if got := Eval([]byte{1, 0, 3}, 2); got != 7 {
		t.Error("example 2", got)
	}
	p := []byte{7, 0, 255, 1, 128, 29}
	kept := bytes.Clone(p)
	for many := range len(p) + 1 {
		for x := range 256 {
			want := byte(0)
			for i, c := range p[:many] {
				want ^= product(c, power(byte(x), many-1-i))
			}
			if got := Eval(p[:many], byte(x)); got != want {
				t.Errorf("Eval(%v, %d) = %d, want %d", p[:many], x, got, want)
			}
		}
	}
	if !bytes.Equal(p, kept) {
		t.Error("the coefficients were changed", p)
	}
}

func TestEvalOfNoCoefficients(t *testing.T) {
	for x := range 256 {
		if Eval(nil, byte(x)) != 0 || Eval([]byte{}, byte(x)) != 0 {
			t.Error(x)
		}
	}
}

// fill is a list of so many bytes, different ones beside each other.
func fill(many, step int) []byte {
	list := make([]byte, many)
	for i := range list {
		list[i] = byte(i*step + i/256 + 1)
	}
	return list
}

func TestMixAddsAMultiple(t *testing.T) {
	if got, e := Mix([]byte{1, 2}, []byte{1, 1}, 3); e != api.OK || !bytes.Equal(got, []byte{2, 1}) {
		t.Error("example 2", got, e)
	}
	for _, many := range []int{1, 2, 7, 8, 9, 255, 256, 257, 1000} {
		out, in := fill(many, 3), fill(many, 7)
		for c := range 256 {
			got, e := Mix(out, in, byte(c))
			if e != api.OK || len(got) != many {
				t.Fatal(many, c, len(got), e)
			}
			for i := range got {
				if want := out[i] ^ product(in[i], byte(c)); got[i] != want {
					t.Fatalf("%d bytes, c %d, place %d: %d, want %d", many, c, i, got[i], want)
				}
			}
		}
	}
}

func TestMixOfNothing(t *testing.T) {
	for _, lists := range [][2][]byte{{nil, nil}, {{}, {}}, {nil, {}}, {{}, nil}} {
		if got, e := Mix(lists[0], lists[1], 5); len(got) != 0 || e != api.OK {
			t.Error(lists, got, e)
		}
	}
}

func TestMixOfUnlikeLengthsIsRefused(t *testing.T) {
	lists := [][2][]byte{
		{{1}, nil},
		{nil, {1}},
		{{1, 2}, {1}},
		{{1}, {1, 2}},
		{fill(300, 3), fill(299, 3)},
		{make([]byte, 1, 2), {1, 2}}, // room behind the end does not count
		{{1, 2}, make([]byte, 1, 2)},
	}
	for _, l := range lists {
		for _, c := range []byte{0, 1, 255} {
			if got, e := Mix(l[0], l[1], c); len(got) != 0 || e != api.ErrArg {
				t.Error(l, c, got, e)
			}
		}
	}
}

func TestMixIsNewMemory(t *testing.T) {
	for _, c := range []byte{0, 1, 2, 255} {
		out, in := append(make([]byte, 0, 20), fill(10, 3)...), append(make([]byte, 0, 20), fill(10, 7)...)
		got, _ := Mix(out, in, c)
		if !bytes.Equal(out, fill(10, 3)) || !bytes.Equal(in, fill(10, 7)) {
			t.Error("what was handed in was changed by c", c)
		}
		for i := range got {
			got[i] ^= 255
		}
		_ = append(got, 77)
		if !bytes.Equal(out, fill(10, 3)) || !bytes.Equal(in, fill(10, 7)) {
			t.Error("the answer shares what was handed in, c", c)
		}
		if out[:11][10] != 0 || in[:11][10] != 0 {
			t.Error("the answer shares the room behind the end, c", c)
		}
	}
}

func TestMixOfOneListTwice(t *testing.T) {
	list := fill(10, 3)
	got, e := Mix(list, list, 1)
	if e != api.OK || !bytes.Equal(got, make([]byte, 10)) || !bytes.Equal(list, fill(10, 3)) {
		t.Error(got, e, list)
	}
}

// P1.4

// products are those of all pairs, as Mul tells them.
func products() *[256][256]byte {
	var rows [256][256]byte
	for a := range 256 {
		for b := range 256 {
			rows[a][b] = Mul(byte(a), byte(b))
		}
	}
	return &rows
}

func TestMulCommutes(t *testing.T) {
	rows := products()
	for a := range 256 {
		for b := range 256 {
			if rows[a][b] != rows[b][a] {
				t.Fatal(a, b)
			}
		}
	}
}

func TestMulIsAssociativeAndSpreadsOverSums(t *testing.T) {
	rows := products()
	for a := range 256 {
		for b := range 256 {
			for c := range 256 {
				if rows[rows[a][b]][c] != rows[a][rows[b][c]] {
					t.Fatal("not associative", a, b, c)
				}
				if rows[a][b^c] != rows[a][b]^rows[a][c] {
					t.Fatal("does not spread", a, b, c)
				}
			}
		}
	}
}

func TestEachElementButNoughtHasAnInverse(t *testing.T) {
	for a := 1; a < 256; a++ {
		over, e := Div(1, byte(a))
		if e != api.OK || Mul(byte(a), over) != 1 || over != Pow(byte(a), -1) {
			t.Error(a, over, e)
		}
	}
}

func TestExpHasThePeriod255AndMeetsEachElementButNought(t *testing.T) {
	met := map[byte]int{}
	for n := range 255 {
		met[Exp(n)]++
	}
	if len(met) != 255 || met[0] != 0 {
		t.Error("not each element but 0:", len(met), met[0])
	}
	for n := -600; n <= 600; n++ {
		if Exp(n) != Exp(n+255) {
			t.Error("another one after 255:", n)
		}
	}
}

func TestLogOfAProductIsTheSumOfLogs(t *testing.T) {
	for a := 1; a < 256; a++ {
		for b := 1; b < 256; b++ {
			la, _ := Log(byte(a))
			lb, _ := Log(byte(b))
			l, e := Log(Mul(byte(a), byte(b)))
			if e != api.OK || l != (la+lb)%255 {
				t.Fatal(a, b, la, lb, l, e)
			}
		}
	}
}
