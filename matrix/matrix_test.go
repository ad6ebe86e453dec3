package matrix

import (
	"bytes"
	"math"
	"slices"
	"testing"

	"buttress/api"
)

// The tests' own arithmetic: it is worked out from the polynomials, not by package gf.

// product is that of a and b as polynomials, modulo 11d.
func product(a, b byte) byte {
	wide := 0
	for bit := range 8 {
		if b>>bit&1 == 1 {
			wide ^= int(a) << bit
		}
	}
	for bit := 14; bit >= 8; bit-- {
		if wide>>bit&1 == 1 {
			wide ^= 0x11d << (bit - 8)
		}
	}
	return byte(wide)
}

// inverses are those of all elements but 0, found by trying.
func inverses() [256]byte {
	var list [256]byte
	for a := 1; a < 256; a++ {
		for list[a]++; product(byte(a), list[a]) != 1; list[a]++ {
		}
	}
	return list
}

// times is the product of two matrices that fit, by sums of products.
func times(a, b [][]byte) [][]byte {
	m := make([][]byte, len(a))
	for i := range m {
		m[i] = make([]byte, len(b[0]))
		for j := range m[i] {
			for l := range b {
				m[i][j] ^= product(a[i][l], b[l][j])
			}
		}
	}
	return m
}

// without is m without a row and a column.
func without(m [][]byte, row, column int) [][]byte {
	var rows [][]byte
	for i, r := range m {
		if i != row {
			rows = append(rows, slices.Concat(r[:column], r[column+1:]))
		}
	}
	return rows
}

// determinant is that of a small square matrix, by its first row.
func determinant(m [][]byte) byte {
	if len(m) == 0 {
		return 1
	}
	var sum byte
	for j, c := range m[0] {
		if c != 0 {
			sum ^= product(c, determinant(without(m, 0, j)))
		}
	}
	return sum
}

// adjugate over the determinant is the inverse of a small square matrix whose determinant is not 0.
func adjugate(m [][]byte, over byte) [][]byte {
	inverse := make([][]byte, len(m))
	for i := range inverse {
		inverse[i] = make([]byte, len(m))
		for j := range inverse[i] {
			inverse[i][j] = product(over, determinant(without(m, j, i)))
		}
	}
	return inverse
}

// subsets are all rising lists of so many numbers below n.
func subsets(many, n int) [][]int {
	if many == 0 {
		return [][]int{nil}
	}
	var all [][]int
	for last := many - 1; last < n; last++ {
		for _, s := range subsets(many-1, last) {
			all = append(all, append(slices.Clone(s), last))
		}
	}
	return all
}

// minorsRank is the number of rows of the greatest square, cut out of m, whose determinant is not 0.
func minorsRank(m [][]byte) int {
	for many := min(len(m), len(m[0])); many > 0; many-- {
		for _, rows := range subsets(many, len(m)) {
			for _, columns := range subsets(many, len(m[0])) {
				var square [][]byte
				for _, r := range rows {
					var line []byte
					for _, c := range columns {
						line = append(line, m[r][c])
					}
					square = append(square, line)
				}
				if determinant(square) != 0 {
					return many
				}
			}
		}
	}
	return 0
}

// draws gives bytes that look like chance, always the same ones.
type draws uint32

func (d *draws) next() byte {
	*d = *d*1664525 + 1013904223
	return byte(*d >> 24)
}

// fill is a matrix of such bytes, each taken by the mask: under a narrow one many are 0 or like others.
func (d *draws) fill(rows, columns int, mask byte) [][]byte {
	m := make([][]byte, rows)
	for i := range m {
		m[i] = make([]byte, columns)
		for j := range m[i] {
			m[i][j] = d.next() & mask
		}
	}
	return m
}

// unit is the identity.
func unit(n int) [][]byte {
	m := make([][]byte, n)
	for i := range m {
		m[i] = make([]byte, n)
		m[i][i] = 1
	}
	return m
}

// sized is a matrix of ones, or what is none, of that size.
func sized(rows, columns int) [][]byte {
	m := make([][]byte, rows)
	for i := range m {
		m[i] = bytes.Repeat([]byte{1}, columns)
	}
	return m
}

// copied is m in memory of its own.
func copied(m [][]byte) [][]byte {
	c := make([][]byte, len(m))
	for i := range m {
		c[i] = slices.Clone(m[i])
	}
	return c
}

func same(a, b [][]byte) bool {
	return slices.EqualFunc(a, b, bytes.Equal)
}

// noMatrices are rows that make no matrix, by what is wrong with them.
func noMatrices() map[string][][]byte {
	long := sized(255, 255)
	long[254] = long[254][:254]
	late := sized(3, 5)
	late[2] = append(late[2], 1)
	hole := sized(3, 2)
	hole[1] = nil
	return map[string][][]byte{
		"nil":                            nil,
		"no rows":                        {},
		"a row that is nil":              {nil},
		"a row of none":                  {{}},
		"three rows of none":             {{}, {}, {}},
		"255 rows of none":               sized(255, 0),
		"256 rows":                       sized(256, 1),
		"256 rows of 255":                sized(256, 255),
		"256 rows of none":               sized(256, 0),
		"1000 rows":                      sized(1000, 2),
		"256 columns":                    sized(1, 256),
		"255 rows of 256":                sized(255, 256),
		"256 rows of 256":                sized(256, 256),
		"1000 columns":                   sized(2, 1000),
		"a longer second row":            {{1}, {1, 2}},
		"a shorter second row":           {{1, 2}, {1}},
		"a second row of none":           {{1, 2}, {}},
		"a first row of none":            {{}, {1, 2}},
		"a row in the middle that's nil": hole,
		"a last row that is longer":      late,
		"a last row that is shorter":     long,
		"rows of 255 and 256":            {make([]byte, 255), make([]byte, 256)},
		"room behind the end is none":    {make([]byte, 2), make([]byte, 1, 2)},
	}
}

// call is a call whose answer is a matrix, or nothing but an error.
type call func() ([][]byte, api.Errno)

// refuses fails the test unless the call answers nothing but that error.
func refuses(t *testing.T, name string, want api.Errno, c call) {
	t.Helper()
	if m, e := c(); len(m) != 0 || e != want {
		t.Errorf("%s: %v, %d, want %d", name, m, e, want)
	}
}

// answers fails the test unless the call answers that matrix.
func answers(t *testing.T, name string, want [][]byte, c call) {
	t.Helper()
	if m, e := c(); e != api.OK || !same(m, want) {
		t.Errorf("%s: %v, %d, want %v", name, m, e, want)
	}
}

// applied is Apply as a call whose answer is a matrix of one row.
func applied(m [][]byte, v []byte) call {
	return func() ([][]byte, api.Errno) {
		column, e := Apply(m, v)
		if len(column) == 0 {
			return nil, e
		}
		return [][]byte{column}, e
	}
}

func multiplied(a, b [][]byte) call {
	return func() ([][]byte, api.Errno) { return Mul(a, b) }
}

func inverted(m [][]byte) call {
	return func() ([][]byte, api.Errno) { return Invert(m) }
}

func picked(m [][]byte, rows []int) call {
	return func() ([][]byte, api.Errno) { return Pick(m, rows) }
}

func generated(k, n int) call {
	return func() ([][]byte, api.Errno) { return Generator(k, n) }
}

// whole is m with what stands in the room behind the ends of its list and of its rows.
func whole(m [][]byte) [][]byte {
	list := make([][]byte, cap(m))
	for i, row := range m[:cap(m)] {
		list[i] = slices.Clone(row[:cap(row)])
	}
	return list
}

// newMemory fails the test if the call changes what was handed in, or if its answer shares memory with that, or one row of it with another, also in the room behind their ends.
func newMemory(t *testing.T, name string, c call, handed ...[][]byte) {
	t.Helper()
	var kept [][][]byte
	for _, h := range handed {
		kept = append(kept, whole(h))
	}
	m, e := c()
	if e != api.OK || len(m) == 0 {
		t.Fatalf("%s: %v, %d", name, m, e)
	}
	want := copied(m)
	for i := range m {
		for j := range m[i] {
			m[i][j] ^= 255
			want[i][j] ^= 255
		}
		room := m[i][len(m[i]):cap(m[i])]
		for j := range room {
			room[j] ^= 255
		}
		if !same(m, want) {
			t.Fatalf("%s: row %d shares memory with another", name, i)
		}
	}
	clear(m[:cap(m)])
	for i, h := range handed {
		if !same(whole(h), kept[i]) {
			t.Fatalf("%s: what was handed in was changed, or the answer shares memory with it", name)
		}
	}
}

// roomy is m with room behind the end of each row, which is nobody's.
func roomy(m [][]byte) [][]byte {
	list := make([][]byte, len(m), len(m)+3)
	for i, row := range m {
		list[i] = append(make([]byte, 0, len(row)+9), row...)
	}
	return list
}

// P2.1

func TestCheckTellsRowsAndColumns(t *testing.T) {
	for _, s := range [][2]int{{1, 1}, {1, 2}, {2, 1}, {3, 5}, {1, 255}, {255, 1}, {254, 255}, {255, 255}} {
		if rows, columns, e := Check(sized(s[0], s[1])); rows != s[0] || columns != s[1] || e != api.OK {
			t.Error(s, rows, columns, e)
		}
	}
	if rows, columns, e := Check(make([][]byte, 0, 5)); rows != 0 || columns != 0 || e != api.ErrMatrix {
		t.Error("room behind the end:", rows, columns, e)
	}
}

func TestCheckRefusesWhatIsNoMatrix(t *testing.T) {
	for name, m := range noMatrices() {
		if rows, columns, e := Check(m); rows != 0 || columns != 0 || e != api.ErrMatrix {
			t.Error(name, rows, columns, e)
		}
	}
}

func TestIdentity(t *testing.T) {
	for n := 1; n <= 255; n++ {
		m, e := Identity(n)
		if e != api.OK || !same(m, unit(n)) {
			t.Fatal(n, m, e)
		}
	}
}

func TestIdentityOfNoSuchSizeIsRefused(t *testing.T) {
	for _, n := range []int{0, -1, -255, 256, 257, 512, math.MaxInt, math.MinInt} {
		refuses(t, "Identity", api.ErrArg, func() ([][]byte, api.Errno) { return Identity(n) })
	}
}

func TestAllCallsRefuseWhatIsNoMatrixAheadOfTheirOtherErrors(t *testing.T) {
	for name, bad := range noMatrices() {
		fits := sized(min(len(bad), 255), 3)
		if len(fits) == 0 {
			fits = sized(1, 1)
		}
		for _, other := range [][][]byte{fits, sized(1, 1), sized(7, 9), unit(2), bad} {
			refuses(t, "Mul of "+name+" on the left", api.ErrMatrix, multiplied(bad, other))
			refuses(t, "Mul of "+name+" on the right", api.ErrMatrix, multiplied(other, bad))
		}
		columns := 0
		if len(bad) > 0 {
			columns = len(bad[0])
		}
		for _, v := range [][]byte{nil, {}, {1}, make([]byte, columns), make([]byte, columns+1)} {
			refuses(t, "Apply of "+name, api.ErrMatrix, applied(bad, v))
		}
		refuses(t, "Invert of "+name, api.ErrMatrix, inverted(bad))
		if rank, e := Rank(bad); rank != 0 || e != api.ErrMatrix {
			t.Error("Rank of", name, rank, e)
		}
		for _, rows := range [][]int{nil, {}, {0}, {-1}, {300}, make([]int, 256)} {
			refuses(t, "Pick of "+name, api.ErrMatrix, picked(bad, rows))
		}
	}
}

func TestAnswersAreNewMemory(t *testing.T) {
	var d draws
	for _, n := range []int{1, 2, 5, 30} {
		m, other, one := roomy(d.fill(n, n, 255)), roomy(d.fill(n, n+1, 255)), roomy(unit(n))
		slices.Reverse(one)
		v := append(make([]byte, 0, n+9), m[0]...)
		newMemory(t, "Mul", multiplied(m, other), m, other)
		newMemory(t, "Mul by the identity", multiplied(m, one), m, one)
		newMemory(t, "Mul of the identity", multiplied(one, m), m, one)
		newMemory(t, "Mul of one matrix twice", multiplied(m, m), m)
		newMemory(t, "Apply", applied(m, v), m, [][]byte{v})
		newMemory(t, "Apply of the identity", applied(one, v), one, [][]byte{v})
		newMemory(t, "Apply to a row of the matrix", applied(m, m[0]), m)
		newMemory(t, "Invert", inverted(m), m)
		newMemory(t, "Invert of the identity turned", inverted(one), one)
		newMemory(t, "Pick", picked(m, []int{n - 1, 0, n / 2, 0, 0, n - 1}), m)
		newMemory(t, "Identity", func() ([][]byte, api.Errno) { return Identity(n) })
		newMemory(t, "Generator", generated(n, n+3))
	}
}

func TestCheckAndRankChangeNothing(t *testing.T) {
	m := roomy([][]byte{{0, 2, 4}, {0, 4, 9}, {7, 7, 7}})
	kept := whole(m)
	rows, columns, e := Check(m)
	if rows != 3 || columns != 3 || e != api.OK || !same(whole(m), kept) {
		t.Error("Check", rows, columns, e, m)
	}
	if rank, e := Rank(m); rank != 3 || e != api.OK || !same(whole(m), kept) {
		t.Error("Rank", rank, e, m)
	}
}

func TestTheSameCallAnswersTheSame(t *testing.T) {
	first, _ := Generator(3, 6)
	kept := copied(first)
	for i := range first {
		clear(first[i])
	}
	answers(t, "Generator again", kept, generated(3, 6))
}

func TestRefusedCallsChangeNothing(t *testing.T) {
	m := [][]byte{{0, 2, 4}, {0, 4, 8}, {7, 7, 7}}
	kept := copied(m)
	rows := []int{2, 0, 3}
	refuses(t, "Invert", api.ErrSingular, inverted(m))
	refuses(t, "Pick", api.ErrArg, picked(m, rows))
	refuses(t, "Mul", api.ErrArg, multiplied(m, m[:2]))
	refuses(t, "Apply", api.ErrArg, applied(m, m[0][:2]))
	if !same(m, kept) || !slices.Equal(rows, []int{2, 0, 3}) {
		t.Error(m, rows)
	}
}

// P2.2

func TestMulIsTheProduct(t *testing.T) {
	answers(t, "by hand", [][]byte{{29 ^ 3, 2}, {5, 0}}, multiplied([][]byte{{2, 1}, {0, 3}}, [][]byte{{128, 1}, {3, 0}}))
	answers(t, "2 by 1 of 1 by 3", [][]byte{{2, 4, 6}, {3, 6, 5}}, multiplied([][]byte{{2}, {3}}, [][]byte{{1, 2, 3}}))
	var d draws
	for range 300 {
		rows, inner, columns := int(d.next()%9)+1, int(d.next()%9)+1, int(d.next()%9)+1
		a, b := d.fill(rows, inner, 255), d.fill(inner, columns, 255)
		answers(t, "by chance", times(a, b), multiplied(a, b))
	}
}

func TestMulAtTheEndsOfSizes(t *testing.T) {
	var d draws
	for _, s := range [][3]int{{1, 1, 1}, {1, 255, 1}, {255, 1, 255}, {255, 2, 1}, {1, 2, 255}, {255, 255, 1}, {1, 255, 255}, {60, 255, 61}} {
		a, b := d.fill(s[0], s[1], 255), d.fill(s[1], s[2], 255)
		answers(t, "Mul", times(a, b), multiplied(a, b))
	}
	m := d.fill(255, 255, 255)
	answers(t, "255 by 255", m, multiplied(m, unit(255)))
	answers(t, "255 by 255", m, multiplied(unit(255), m))
}

func TestMulOfWhatDoesNotFitIsRefused(t *testing.T) {
	for _, s := range [][4]int{{1, 1, 2, 1}, {2, 3, 2, 3}, {2, 2, 3, 2}, {1, 2, 1, 2}, {255, 254, 255, 255}, {255, 255, 254, 255}, {1, 255, 1, 255}} {
		refuses(t, "Mul", api.ErrArg, multiplied(sized(s[0], s[1]), sized(s[2], s[3])))
	}
}

func TestApplyIsEachRowsSumOfProducts(t *testing.T) {
	answers(t, "by hand", [][]byte{{29 ^ 3, 5}}, applied([][]byte{{2, 1}, {0, 3}}, []byte{128, 3}))
	var d draws
	for _, s := range [][2]int{{1, 1}, {1, 255}, {255, 1}, {2, 3}, {3, 2}, {7, 7}, {255, 255}} {
		m, v := d.fill(s[0], s[1], 255), d.fill(1, s[1], 255)[0]
		want := make([]byte, s[0])
		for i := range want {
			for j := range v {
				want[i] ^= product(m[i][j], v[j])
			}
		}
		answers(t, "by chance", [][]byte{want}, applied(m, v))
	}
}

func TestApplyToAColumnThatDoesNotFitIsRefused(t *testing.T) {
	m := sized(2, 3)
	for _, v := range [][]byte{nil, {}, {1}, {1, 2}, {1, 2, 3, 4}, make([]byte, 2, 3), make([]byte, 256)} {
		refuses(t, "Apply", api.ErrArg, applied(m, v))
	}
	refuses(t, "Apply", api.ErrArg, applied(sized(255, 255), make([]byte, 256)))
	refuses(t, "Apply", api.ErrArg, applied(sized(255, 255), make([]byte, 254)))
}

func TestInvertOfOneElement(t *testing.T) {
	over := inverses()
	refuses(t, "Invert of 0", api.ErrSingular, inverted([][]byte{{0}}))
	for a := 1; a < 256; a++ {
		answers(t, "Invert", [][]byte{{over[a]}}, inverted([][]byte{{byte(a)}}))
	}
}

func TestInvertAgainstDeterminants(t *testing.T) {
	refuses(t, "example 2", api.ErrSingular, inverted([][]byte{{1, 1}, {1, 1}}))
	over := inverses()
	var d draws
	met := [2]int{}
	for round := range 4000 {
		n := round%5 + 1
		m := d.fill(n, n, []byte{255, 1, 3, 128}[round/5%4])
		if det := determinant(m); det == 0 {
			met[0]++
			refuses(t, "singular", api.ErrSingular, inverted(m))
		} else {
			met[1]++
			answers(t, "with an inverse", adjugate(m, over[det]), inverted(m))
		}
	}
	if met[0] < 500 || met[1] < 500 {
		t.Error("too few of one sort to tell", met)
	}
}

func TestInvertWhereRowsMustBeExchanged(t *testing.T) {
	turn := [][]byte{{0, 0, 1}, {1, 0, 0}, {0, 1, 0}}
	answers(t, "a turn", [][]byte{{0, 1, 0}, {0, 0, 1}, {1, 0, 0}}, inverted(turn))
	answers(t, "noughts on the diagonal", [][]byte{{0, 142}, {1, 0}}, inverted([][]byte{{0, 1}, {2, 0}}))
	for n := 1; n <= 255; n += 127 {
		m := unit(n)
		slices.Reverse(m)
		answers(t, "from behind", m, inverted(m))
	}
}

func TestInvertOfTheGreatest(t *testing.T) {
	var d draws
	m := d.fill(255, 255, 255)
	inverse, e := Invert(m)
	if e != api.OK {
		t.Fatal(e)
	}
	answers(t, "from the right", unit(255), multiplied(m, inverse))
	answers(t, "from the left", unit(255), multiplied(inverse, m))
	copy(m[254], m[0])
	refuses(t, "a row twice", api.ErrSingular, inverted(m))
	clear(m[254])
	refuses(t, "a row of noughts", api.ErrSingular, inverted(m))
}

func TestInvertOfWhatIsNotSquareIsRefused(t *testing.T) {
	for _, s := range [][2]int{{1, 2}, {2, 1}, {254, 255}, {255, 254}, {1, 255}, {255, 1}, {3, 4}} {
		refuses(t, "ones", api.ErrArg, inverted(sized(s[0], s[1])))
		var d draws
		refuses(t, "by chance", api.ErrArg, inverted(d.fill(s[0], s[1], 255)))
	}
}

func TestRank(t *testing.T) {
	rows := []struct {
		m    [][]byte
		want int
	}{
		{[][]byte{{1, 1}, {1, 1}}, 1},
		{[][]byte{{0}}, 0},
		{[][]byte{{7}}, 1},
		{[][]byte{{0, 0, 0}, {0, 0, 0}}, 0},
		{[][]byte{{0, 0, 0}, {0, 0, 9}}, 1},
		{[][]byte{{0, 1}, {1, 0}}, 2},
		{[][]byte{{1, 2}, {2, 4}, {3, 6}}, 1},
		{[][]byte{{0, 1, 2}, {0, 2, 4}}, 1},
		{[][]byte{{1, 0, 1}, {0, 1, 1}, {1, 1, 0}}, 2},
		{[][]byte{{1, 2, 3, 4}}, 1},
		{[][]byte{{1}, {2}, {3}}, 1},
		{[][]byte{{128, 1}, {29, 2}}, 1}, // the second one is twice the first
	}
	for _, r := range rows {
		if rank, e := Rank(r.m); rank != r.want || e != api.OK {
			t.Error(r.m, rank, e)
		}
	}
}

func TestRankAgainstDeterminants(t *testing.T) {
	var d draws
	met := [5]int{}
	for round := range 3000 {
		m := d.fill(int(d.next()%4)+1, int(d.next()%5)+1, []byte{255, 1, 3, 128}[round%4])
		want := minorsRank(m)
		met[want]++
		if rank, e := Rank(m); rank != want || e != api.OK {
			t.Fatal(m, rank, e, want)
		}
	}
	for _, many := range met {
		if many < 50 {
			t.Error("too few of one rank to tell", met)
		}
	}
}

func TestRankAtTheEndsOfSizes(t *testing.T) {
	var d draws
	for _, s := range [][3]int{{255, 255, 255}, {255, 255, 254}, {255, 255, 1}, {255, 1, 1}, {1, 255, 1}, {255, 100, 60}, {100, 255, 60}} {
		// a product over so many columns has no greater rank; by these draws it has no less
		m := times(d.fill(s[0], s[2], 255), d.fill(s[2], s[1], 255))
		if rank, e := Rank(m); rank != s[2] || e != api.OK {
			t.Error(s, rank, e)
		}
	}
	for _, s := range [][2]int{{255, 255}, {255, 1}, {1, 255}} {
		if rank, e := Rank(sized(s[0], s[1])); rank != 1 || e != api.OK {
			t.Error("ones", s, rank, e)
		}
	}
}

func TestPickGivesRowsInThatOrder(t *testing.T) {
	m := [][]byte{{1, 2}, {3, 4}, {5, 6}}
	answers(t, "one", [][]byte{{1, 2}}, picked(m, []int{0}))
	answers(t, "the last", [][]byte{{5, 6}}, picked(m, []int{2}))
	answers(t, "all, turned", [][]byte{{5, 6}, {1, 2}, {3, 4}}, picked(m, []int{2, 0, 1}))
	answers(t, "one twice", [][]byte{{3, 4}, {3, 4}, {1, 2}, {3, 4}}, picked(m, []int{1, 1, 0, 1}))
	answers(t, "room behind the end", [][]byte{{3, 4}}, picked(m, append(make([]int, 0, 300), 1)))
	var d draws
	great := d.fill(255, 255, 255)
	rows, want := make([]int, 255), make([][]byte, 255)
	for i := range rows {
		rows[i] = 254 - i
		want[i] = great[254-i]
	}
	answers(t, "255 of 255", want, picked(great, rows))
	answers(t, "255 of 1", slices.Repeat([][]byte{{9}}, 255), picked([][]byte{{9}}, make([]int, 255)))
	if rows[0] != 254 || rows[254] != 0 {
		t.Error("the numbers were changed", rows)
	}
}

func TestPickOfRowsThatAreNotThereIsRefused(t *testing.T) {
	m := [][]byte{{1, 2}, {3, 4}, {5, 6}}
	for _, rows := range [][]int{
		nil, {}, make([]int, 0, 5),
		{-1}, {3}, {0, 3}, {0, 1, 2, -1}, {3, 0}, {4}, {255}, {256}, {258},
		{math.MinInt}, {math.MaxInt}, {0, 0, math.MinInt},
		make([]int, 256), make([]int, 257), make([]int, 1000), append(make([]int, 255), 3),
	} {
		refuses(t, "Pick", api.ErrArg, picked(m, rows))
	}
	refuses(t, "of 255", api.ErrArg, picked(sized(255, 1), []int{255}))
	refuses(t, "of 255", api.ErrArg, picked(sized(255, 1), make([]int, 256)))
	refuses(t, "of 1", api.ErrArg, picked(sized(1, 255), []int{1}))
	answers(t, "of 255, the last", [][]byte{{1}}, picked(sized(255, 1), []int{254}))
}

// P2.3

// generator is built as the document says it.
func generator(k, n int, over [256]byte) [][]byte {
	m := make([][]byte, n)
	for i := range m {
		m[i] = make([]byte, k)
		for j := range m[i] {
			switch {
			case i >= k:
				m[i][j] = over[i^j]
			case i == j:
				m[i][j] = 1
			}
		}
	}
	return m
}

func TestGenerator(t *testing.T) {
	answers(t, "example 1", [][]byte{{1, 0}, {0, 1}, {142, 244}, {244, 142}}, generated(2, 4))
	over := inverses()
	for n := 1; n <= 24; n++ {
		for k := 1; k <= n; k++ {
			answers(t, "Generator", generator(k, n, over), generated(k, n))
		}
	}
	for _, n := range []int{127, 128, 129, 254, 255} {
		for _, k := range []int{1, 2, 63, 64, 126, 127, n - 1, n} {
			answers(t, "Generator", generator(k, n, over), generated(k, n))
		}
	}
}

func TestGeneratorOfNoSuchSizeIsRefused(t *testing.T) {
	for _, s := range [][2]int{
		{0, 0}, {0, 1}, {0, 255}, {2, 1}, {255, 254}, {1, 256}, {255, 256}, {256, 256}, {256, 255}, {256, 1}, {257, 300},
		{-1, 1}, {-1, -1}, {1, 0}, {1, -1}, {-2, 255}, {1, 257}, {1, 512},
		{math.MinInt, math.MaxInt}, {math.MinInt, math.MinInt}, {1, math.MaxInt}, {math.MaxInt, math.MaxInt}, {math.MaxInt, 1}, {1, math.MinInt},
	} {
		refuses(t, "Generator", api.ErrArg, generated(s[0], s[1]))
	}
}

// P2.4

func TestTheInverseOfTheInverseIsTheMatrix(t *testing.T) {
	var d draws
	for n := 1; n <= 40; n++ {
		m := d.fill(n, n, 255)
		inverse, e := Invert(m)
		if e == api.ErrSingular {
			continue
		}
		answers(t, "the inverse of the inverse", m, inverted(inverse))
		answers(t, "from the right", unit(n), multiplied(m, inverse))
		answers(t, "from the left", unit(n), multiplied(inverse, m))
	}
}

func TestTheInverseOfAProduct(t *testing.T) {
	var d draws
	done := 0
	for round := range 120 {
		n := round%30 + 1
		a, b := d.fill(n, n, 255), d.fill(n, n, 255)
		ofA, eA := Invert(a)
		ofB, eB := Invert(b)
		both, e := Mul(a, b)
		if e != api.OK {
			t.Fatal(e)
		}
		if eA != api.OK || eB != api.OK {
			refuses(t, "one has no inverse", api.ErrSingular, inverted(both))
			continue
		}
		want, _ := Mul(ofB, ofA)
		answers(t, "the other way round", want, inverted(both))
		done++
	}
	if done < 100 {
		t.Error("too few to tell", done)
	}
}

// invertible fails the test unless these rows of the generator have an inverse, which gives back from what Apply makes of data the data.
func invertible(t *testing.T, g [][]byte, rows []int) {
	t.Helper()
	square, e := Pick(g, rows)
	if e != api.OK {
		t.Fatal(rows, e)
	}
	inverse, e := Invert(square)
	if e != api.OK {
		t.Fatalf("%d rows of %d, %v: %d", len(rows), len(g), rows, e)
	}
	if rank, e := Rank(square); rank != len(rows) || e != api.OK {
		t.Fatal(rows, rank, e)
	}
	d := draws(len(g))
	data := d.fill(1, len(rows), 255)[0]
	chunks, _ := Apply(square, data)
	if again, e := Apply(inverse, chunks); e != api.OK || !bytes.Equal(again, data) {
		t.Fatal(rows, again, e)
	}
}

func TestOfAGeneratorEveryKRowsHaveAnInverse(t *testing.T) {
	for n := 1; n <= 9; n++ {
		for k := 1; k <= n; k++ {
			g, _ := Generator(k, n)
			for _, rows := range subsets(k, n) {
				invertible(t, g, rows)
				slices.Reverse(rows)
				invertible(t, g, rows)
			}
		}
	}
}

func TestOfGreatGeneratorsKRowsHaveAnInverse(t *testing.T) {
	g, _ := Generator(1, 255)
	for i := range 255 {
		invertible(t, g, []int{i})
	}
	g, _ = Generator(2, 255)
	for _, rows := range subsets(2, 255) {
		invertible(t, g, rows)
	}
	for _, k := range []int{100, 127, 128, 200, 254, 255} {
		g, _ = Generator(k, 255)
		last, spread := make([]int, k), make([]int, k)
		for i := range k {
			last[i] = 254 - i
			spread[i] = i * 255 / k
		}
		invertible(t, g, last)
		invertible(t, g, spread)
	}
}
