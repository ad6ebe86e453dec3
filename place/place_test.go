package place

import (
	"math"
	"slices"
	"strings"
	"testing"

	"buttress/api"
	"buttress/straw"
)

// draws are numbers that look like chance, the same in every run.
type draws uint64

func (d *draws) next() uint64 {
	*d = *d*6364136223846793005 + 1442695040888963407
	x := uint64(*d)
	x ^= x >> 33
	x *= 0xff51afd7ed558ccd
	return x ^ x>>29
}

// below is a number from 0 below n.
func (d *draws) below(n int) int {
	return int(d.next() >> 1 % uint64(n))
}

// weight is one that may be: 0, small, great, or any.
func (d *draws) weight() int {
	switch d.below(6) {
	case 0:
		return 0
	case 1, 2:
		return 1 + d.below(4)
	case 3:
		return api.MaxWeight - d.below(3)
	}
	return d.below(api.MaxWeight + 1)
}

// members are some of those that may be, in a map that may be.
func (d *draws) members() api.Map {
	m := api.Map{Epoch: d.next()}
	share := 1 + d.below(8)
	for id := 1; id <= api.MaxNodes; id++ {
		if d.below(8) < share {
			m.Members = append(m.Members, api.Member{ID: id, Weight: d.weight()})
		}
	}
	return m
}

// of is a map of members, told as ids and weights by turns.
func of(epoch uint64, list ...int) api.Map {
	m := api.Map{Epoch: epoch}
	for i := 0; i < len(list); i += 2 {
		m.Members = append(m.Members, api.Member{ID: list[i], Weight: list[i+1]})
	}
	return m
}

// even is a map of members 1 to many, all of one weight.
func even(many int, weight int) api.Map {
	m := api.Map{}
	for id := 1; id <= many; id++ {
		m.Members = append(m.Members, api.Member{ID: id, Weight: weight})
	}
	return m
}

// same tells whether two maps are the same.
func same(a, b api.Map) bool {
	return a.Epoch == b.Epoch && slices.Equal(a.Members, b.Members)
}

// bad are maps that may not be.
func bad() map[string]api.Map {
	crowd := even(api.MaxNodes, 1)
	crowd.Members = append(crowd.Members, api.Member{ID: api.MaxNodes + 1, Weight: 1})
	twice := even(api.MaxNodes, 1)
	twice.Members = append(twice.Members, api.Member{ID: api.MaxNodes, Weight: 1})
	return map[string]api.Map{
		"id 0":              of(1, 0, 1),
		"id 0 ahead":        of(1, 0, 1, 1, 1, 2, 1),
		"id -1":             of(1, -1, 1, 1, 1),
		"the least id":      of(1, math.MinInt, 1, 1, 1),
		"id 33":             of(1, 33, 1),
		"id 33 behind":      of(1, 1, 1, 2, 1, 33, 1),
		"the greatest id":   of(1, 1, 1, math.MaxInt, 1),
		"an id twice":       of(1, 1, 1, 1, 1),
		"an id twice, late": of(1, 1, 1, 2, 1, 3, 1, 3, 2),
		"ids that fall":     of(1, 2, 1, 1, 1),
		"ids that turn":     of(1, 1, 1, 3, 1, 2, 1),
		"weight -1":         of(1, 1, -1),
		"weight -1 behind":  of(1, 1, 5, 2, 5, 3, -1),
		"the least weight":  of(1, 1, math.MinInt),
		"weight 65536":      of(1, 1, 65536),
		"a great weight":    of(1, 1, 1, 2, math.MaxInt, 3, 1),
		"33 members":        crowd,
		"33, one twice":     twice,
		"zero members":      {Members: make([]api.Member, 2)},
		"a million members": {Members: slices.Repeat([]api.Member{{ID: 1, Weight: 1}}, 1<<20)},
	}
}

// P11.1

func TestCheckOfMapsThatMayBe(t *testing.T) {
	rows := map[string]api.Map{
		"nothing":             {},
		"an empty list":       {Members: []api.Member{}},
		"one":                 of(0, 1, 1),
		"the last one":        of(0, 32, 1),
		"without a weight":    of(0, 7, 0),
		"the greatest weight": of(0, 7, 65535),
		"gaps":                of(math.MaxUint64, 1, 0, 5, 65535, 6, 1, 32, 3),
		"all, of no weight":   even(32, 0),
		"all, of any":         even(32, 65535),
	}
	for name, m := range rows {
		if e := Check(m); e != api.OK {
			t.Error(name, e)
		}
	}
	var d draws
	for range 2000 {
		if m := d.members(); Check(m) != api.OK {
			t.Fatal(m)
		}
	}
}

func TestCheckOfMapsThatMayNotBe(t *testing.T) {
	for name, m := range bad() {
		if e := Check(m); e != api.ErrMap {
			t.Error(name, e)
		}
	}
}

func TestCheckOfOneChange(t *testing.T) {
	var d draws
	for range 5000 {
		m := d.members()
		if len(m.Members) == 0 {
			continue
		}
		at := d.below(len(m.Members))
		one := &m.Members[at]
		want := api.ErrMap
		switch d.below(6) {
		case 0:
			one.ID = -d.below(40)
		case 1:
			one.ID = 33 + d.below(40)
		case 2:
			one.Weight = -1 - d.below(70000)
		case 3:
			one.Weight = 65536 + d.below(70000)
		case 4:
			one.Weight, want = d.below(65536), api.OK
		default:
			// One that stands twice, one behind the other.
			m.Members = slices.Insert(m.Members, at, *one)
		}
		if e := Check(m); e != want {
			t.Fatal(m, e)
		}
	}
}

func TestWithOfWhatIsKnown(t *testing.T) {
	rows := []struct {
		m          api.Map
		id, weight int
		want       api.Map
	}{
		{api.Map{}, 1, 1, of(1, 1, 1)},
		{api.Map{}, 32, 0, of(1, 32, 0)},
		{api.Map{Members: []api.Member{}}, 5, 65535, of(1, 5, 65535)},
		{of(7, 1, 1, 2, 1, 3, 0), 3, 9, of(8, 1, 1, 2, 1, 3, 9)},
		{of(7, 1, 1, 2, 1, 3, 4), 1, 0, of(8, 1, 0, 2, 1, 3, 4)},
		{of(7, 1, 1, 2, 1, 3, 4), 2, 65535, of(8, 1, 1, 2, 65535, 3, 4)},
		{of(7, 1, 1, 2, 1), 2, 1, of(8, 1, 1, 2, 1)}, // the epoch alone
		{of(7, 3, 1, 9, 2), 1, 5, of(8, 1, 5, 3, 1, 9, 2)},
		{of(7, 3, 1, 9, 2), 4, 5, of(8, 3, 1, 4, 5, 9, 2)},
		{of(7, 3, 1, 9, 2), 32, 5, of(8, 3, 1, 9, 2, 32, 5)},
		{of(7, 3, 1, 9, 2), 32, 0, of(8, 3, 1, 9, 2, 32, 0)},
		{of(math.MaxUint64, 3, 1), 3, 2, of(0, 3, 2)},
		{of(math.MaxUint64-1, 3, 1), 4, 2, of(math.MaxUint64, 3, 1, 4, 2)},
	}
	for _, r := range rows {
		if got, e := With(r.m, r.id, r.weight); e != api.OK || !same(got, r.want) {
			t.Errorf("With(%v, %d, %d) = %v, %d, want %v", r.m, r.id, r.weight, got, e, r.want)
		}
	}
}

func TestWith(t *testing.T) {
	var d draws
	for range 5000 {
		m := d.members()
		id, weight := 1+d.below(32), d.weight()
		var now [33]int
		for i := range now {
			now[i] = -1
		}
		for _, one := range m.Members {
			now[one.ID] = one.Weight
		}
		now[id] = weight
		want := api.Map{Epoch: m.Epoch + 1}
		for i, w := range now {
			if w >= 0 {
				want.Members = append(want.Members, api.Member{ID: i, Weight: w})
			}
		}
		if got, e := With(m, id, weight); e != api.OK || !same(got, want) || Check(got) != api.OK {
			t.Fatalf("With(%v, %d, %d) = %v, %d, want %v", m, id, weight, got, e, want)
		}
	}
}

func TestWithOfMapsThatMayNotBe(t *testing.T) {
	for name, m := range bad() {
		// The map goes ahead of id and weight.
		for _, r := range [][2]int{{1, 1}, {0, 1}, {1, -1}, {33, 65536}} {
			if got, e := With(m, r[0], r[1]); e != api.ErrMap || !same(got, api.Map{}) {
				t.Error(name, r, got, e)
			}
		}
	}
}

func TestWithOfOnesThatMayNotBe(t *testing.T) {
	rows := [][2]int{{0, 1}, {-1, 1}, {33, 1}, {math.MinInt, 1}, {math.MaxInt, 1}, {1, -1}, {1, 65536}, {1, math.MinInt}, {1, math.MaxInt}, {3, -1}, {3, 65536}, {0, -1}}
	for _, m := range []api.Map{{}, of(7, 1, 1, 2, 1), even(32, 1)} {
		for _, r := range rows {
			if got, e := With(m, r[0], r[1]); e != api.ErrArg || !same(got, api.Map{}) {
				t.Error(m, r, got, e)
			}
		}
	}
}

func TestWithIsNewMemory(t *testing.T) {
	for _, id := range []int{1, 2, 4, 9, 10} {
		m := of(3, 2, 5, 4, 6, 9, 7)
		m.Members = append(make([]api.Member, 0, 9), m.Members...)
		behind := m.Members[:9]
		got, e := With(m, id, 8)
		if e != api.OK {
			t.Fatal(e)
		}
		for i := range got.Members {
			got.Members[i] = api.Member{ID: 30, Weight: 30}
		}
		_ = append(got.Members, api.Member{ID: 31})
		if !same(m, of(3, 2, 5, 4, 6, 9, 7)) || !slices.Equal(behind[3:], make([]api.Member, 6)) {
			t.Error("what was handed in was changed", id, m, behind)
		}
	}
}

func TestWeights(t *testing.T) {
	rows := []struct {
		m    api.Map
		want int
	}{
		{api.Map{}, 0},
		{of(1, 1, 0), 0},
		{of(1, 1, 1), 1},
		{of(1, 1, 1, 2, 0, 3, 65535), 2},
		{even(32, 0), 0},
		{even(32, 1), 32},
		// Of whatever map:
		{of(1, 1, -1), 0},
		{of(1, 1, math.MinInt, 2, math.MaxInt), 1},
		{of(1, 5, 1, 5, 1, 5, 1), 3},
		{of(1, 9, 2, 0, 2, -4, 2, 99, 0, 33, 65536), 4},
		{even(100, 7), 100},
		{even(1<<20, 7), 1 << 20},
	}
	for _, r := range rows {
		if got := Weights(r.m); got != r.want {
			t.Errorf("of %d members, %d, want %d", len(r.m.Members), got, r.want)
		}
	}
	// What room the list has behind its end does not count.
	m := even(5, 1)
	m.Members = m.Members[:2]
	if got := Weights(m); got != 2 {
		t.Error(got)
	}
}

// P11.2

func TestGroupOfWhatIsKnown(t *testing.T) {
	groups := []int{1, 2, 3, 7, 63, 64}
	rows := map[string][]int{
		"":                       {0, 1, 0, 5, 12, 27},
		"a":                      {0, 0, 1, 3, 31, 56},
		"b":                      {0, 1, 0, 2, 30, 5},
		"key":                    {0, 0, 0, 6, 27, 60},
		"\xff\x00":               {0, 1, 0, 4, 60, 29},
		strings.Repeat("k", 64):  {0, 1, 2, 3, 38, 11},
		strings.Repeat("k", 100): {0, 1, 1, 2, 58, 37}, // longer than a key
	}
	for key, want := range rows {
		for i, n := range groups {
			if got, e := Group(key, n); got != want[i] || e != api.OK {
				t.Errorf("Group(%q, %d) = %d, %d, want %d", key, n, got, e, want[i])
			}
		}
	}
}

func TestGroup(t *testing.T) {
	var d draws
	for range 2000 {
		key := make([]byte, d.below(70))
		for i := range key {
			key[i] = byte(d.next())
		}
		for n := 1; n <= 64; n++ {
			want := int(straw.Text(string(key)) % uint64(n))
			if got, e := Group(string(key), n); got != want || e != api.OK || got < 0 || got >= n {
				t.Fatalf("Group(%q, %d) = %d, %d, want %d", key, n, got, e, want)
			}
		}
	}
}

func TestGroupOfCountsThatMayNotBe(t *testing.T) {
	for _, n := range []int{0, -1, -64, 65, 66, 128, 1 << 32, math.MinInt, math.MinInt + 1, math.MaxInt} {
		for _, key := range []string{"", "a", "b"} {
			if got, e := Group(key, n); got != 0 || e != api.ErrArg {
				t.Errorf("Group(%q, %d) = %d, %d", key, n, got, e)
			}
		}
	}
}

func TestGroupsAreAllMet(t *testing.T) {
	met := make([]int, 64)
	for i := range 6400 {
		g, _ := Group(strings.Repeat("x", i%64)+string(rune(i)), 64)
		met[g]++
	}
	for g, many := range met {
		if many < 50 || many > 200 {
			t.Error(g, many)
		}
	}
}

// slowNodes goes through all members in each round, and marks those that are chosen; it asks the costs by itself.
func slowNodes(m api.Map, group int, n int) []int {
	var row []int
	gone := make([]bool, len(m.Members))
	for round := range n {
		chosen, least := -1, math.MaxInt
		for i, one := range m.Members {
			if gone[i] || one.Weight < 1 {
				continue
			}
			cost := straw.Cost(straw.Hash(uint64(group), uint64(round), uint64(one.ID)), one.Weight)
			if cost < least {
				chosen, least = i, cost
			}
		}
		gone[chosen] = true
		row = append(row, m.Members[chosen].ID)
	}
	return row
}

// lies fails the test unless Nodes answers that row.
func lies(t *testing.T, m api.Map, group int, want []int) {
	t.Helper()
	if got, e := Nodes(m, group, len(want)); e != api.OK || !slices.Equal(got, want) {
		t.Fatalf("Nodes(%v, %d, %d) = %v, %d, want %v", m, group, len(want), got, e, want)
	}
}

func TestNodesOfWhatIsKnown(t *testing.T) {
	three := even(3, 1)
	lies(t, three, 0, []int{1, 3, 2})
	lies(t, three, 1, []int{3, 2, 1})
	lies(t, three, 2, []int{1, 3, 2})
	lies(t, three, 63, []int{2, 1, 3})
	mixed := of(9, 1, 5, 2, 0, 4, 65535, 7, 1, 9, 300, 12, 300, 31, 40, 32, 7)
	lies(t, mixed, 0, []int{4, 12, 9, 31, 32, 7, 1})
	lies(t, mixed, 1, []int{4, 9, 12, 31, 32, 1, 7})
	lies(t, mixed, 17, []int{4, 12, 9, 31, 32, 1, 7})
	lies(t, mixed, 63, []int{4, 9, 12, 31, 1, 32, 7})
	lies(t, even(32, 1000), 5, []int{8, 15, 5, 27, 18, 20, 6, 12, 16, 32, 2, 29, 1, 7, 19, 13, 17, 23, 28, 11, 10, 30, 26, 22, 24, 31, 14, 9, 21, 4, 25, 3})
	lies(t, of(0, 32, 65535), 63, []int{32})
	lies(t, of(0, 1, 0, 2, 1, 3, 0), 0, []int{2})
}

func TestNodesAreAllThree(t *testing.T) {
	for g := range 64 {
		row, e := Nodes(even(3, 1), g, 3)
		slices.Sort(row)
		if e != api.OK || !slices.Equal(row, []int{1, 2, 3}) {
			t.Error(g, row, e)
		}
		if row, e := Nodes(even(3, 1), g, 4); len(row) > 0 || e != api.ErrNodes {
			t.Error(g, row, e)
		}
	}
}

func TestNodes(t *testing.T) {
	var d draws
	for range 3000 {
		m := d.members()
		most := Weights(m)
		if most == 0 {
			continue
		}
		group := d.below(64)
		lies(t, m, group, slowNodes(m, group, 1+d.below(most)))
		lies(t, m, group, slowNodes(m, group, most))
	}
}

func TestNodesHangOnTheirGroupNotOnTheEpoch(t *testing.T) {
	met := map[int]int{}
	m := even(20, 7)
	for g := range 64 {
		row, _ := Nodes(m, g, 3)
		met[row[0]]++
		m.Epoch = uint64(g) * 0x123456789abcdef
		lies(t, m, g, row)
	}
	if len(met) < 15 {
		t.Error(met)
	}
}

func TestNodesAreTheFirstOfSeveral(t *testing.T) {
	// Those of one weight whose hashes end alike cost the same. Others, of great weight, go ahead of them till that round.
	ties := 0
	for g := range 64 {
		for round := range 12 {
			met := map[uint64]int{}
			for id := 1; id <= api.MaxNodes; id++ {
				end := straw.Hash(uint64(g), uint64(round), uint64(id)) % 65536
				first, ok := met[end]
				met[end] = id
				if !ok {
					continue
				}
				m := of(1)
				for other := 1; other <= api.MaxNodes && len(m.Members) < round; other++ {
					if other != first && other != id {
						m.Members = append(m.Members, api.Member{ID: other, Weight: 65535})
					}
				}
				for _, one := range []int{id, first} {
					at, _ := slices.BinarySearchFunc(m.Members, one, func(x api.Member, id int) int { return x.ID - id })
					m.Members = slices.Insert(m.Members, at, api.Member{ID: one, Weight: 1})
				}
				row := slowNodes(m, g, round+1)
				if row[round] == id || slices.Contains(row[:round], first) || slices.Contains(row[:round], id) {
					continue
				}
				ties++
				for range 20 {
					lies(t, m, g, append(row[:round:round], first))
				}
			}
		}
	}
	if ties == 0 {
		t.Error("none of them cost the same")
	}
}

func TestNodesAreTheSameAgain(t *testing.T) {
	var d draws
	for range 50 {
		m := d.members()
		most := Weights(m)
		if most == 0 {
			continue
		}
		first, _ := Nodes(m, 7, most)
		for range 20 {
			lies(t, m, 7, first)
		}
	}
}

func TestNodesOfMapsThatMayNotBe(t *testing.T) {
	for name, m := range bad() {
		// The map goes ahead of group and n, and of how many have a weight.
		for _, r := range [][2]int{{0, 1}, {-1, 1}, {64, 1}, {0, 0}, {0, 256}, {0, 255}} {
			if row, e := Nodes(m, r[0], r[1]); len(row) > 0 || e != api.ErrMap {
				t.Error(name, r, row, e)
			}
		}
	}
}

func TestNodesOfArgumentsThatMayNotBe(t *testing.T) {
	rows := [][2]int{{-1, 1}, {64, 1}, {65, 1}, {math.MinInt, 1}, {math.MaxInt, 1}, {0, 0}, {0, -1}, {0, 256}, {0, 257}, {0, math.MinInt}, {0, math.MaxInt}, {-1, 0}, {64, 256}, {-1, 33}}
	for _, m := range []api.Map{{}, even(3, 0), even(32, 1)} {
		for _, r := range rows {
			if row, e := Nodes(m, r[0], r[1]); len(row) > 0 || e != api.ErrArg {
				t.Error(r, row, e)
			}
		}
	}
}

func TestNodesOfTooFew(t *testing.T) {
	rows := []struct {
		m api.Map
		n int
	}{
		{api.Map{}, 1},
		{api.Map{}, 255},
		{even(32, 0), 1},
		{even(1, 1), 2},
		{even(3, 1), 4},
		{of(1, 1, 1, 2, 1, 3, 0), 3}, // one of them has no weight
		{even(32, 65535), 33},
		{even(32, 65535), 255},
	}
	for _, r := range rows {
		for _, g := range []int{0, 31, 63} {
			if row, e := Nodes(r.m, g, r.n); len(row) > 0 || e != api.ErrNodes {
				t.Errorf("Nodes(%v, %d, %d) = %v, %d", r.m, g, r.n, row, e)
			}
		}
	}
}

func TestNodesIsNewMemory(t *testing.T) {
	m := of(3, 2, 5, 4, 6, 9, 7)
	m.Members = append(make([]api.Member, 0, 9), m.Members...)
	row, _ := Nodes(m, 1, 3)
	want := slices.Clone(row)
	for i := range row {
		row[i] = 99
	}
	if !same(m, of(3, 2, 5, 4, 6, 9, 7)) || m.Members[:4][3].ID != 0 {
		t.Error("what was handed in was changed", m)
	}
	lies(t, m, 1, want)
}

// P11.3

func TestMoves(t *testing.T) {
	rows := []struct {
		a, b []int
		want int
	}{
		{nil, nil, 0},
		{nil, []int{}, 0},
		{[]int{1}, nil, 1},
		{[]int{}, []int{0}, 1}, // a place that is not there is not a 0
		{[]int{0, 0}, []int{0}, 1},
		{[]int{1, 2}, []int{1, 2}, 0},
		{[]int{1, 2}, []int{2, 1}, 2}, // places count, not who is there
		{[]int{1, 2}, []int{1, 3, 4}, 2},
		{[]int{1, 2}, []int{3, 1, 2}, 3},
		{[]int{1, 2, 3}, []int{1, 2}, 1},
		{[]int{1, 2, 3}, []int{9, 2, 8}, 2},
		{[]int{7, 7, 7}, []int{7}, 2},
		{[]int{-1, math.MinInt}, []int{1, math.MaxInt}, 2}, // any ids
		{[]int{-1, math.MinInt}, []int{-1, math.MinInt}, 0},
		{make([]int, 5), make([]int, 1<<20), 1<<20 - 5},
	}
	for _, r := range rows {
		if got := Moves(r.a, r.b); got != r.want {
			t.Errorf("Moves(%v, %v) = %d, want %d", r.a, r.b, got, r.want)
		}
		if got := Moves(r.b, r.a); got != r.want {
			t.Errorf("Moves(%v, %v) = %d, want %d", r.b, r.a, got, r.want)
		}
	}
	// What room a row has behind its end is no place.
	a := []int{1, 2, 3}
	if got := Moves(a[:1], a); got != 2 {
		t.Error(got)
	}
	if !slices.Equal(a, []int{1, 2, 3}) {
		t.Error("what was handed in was changed", a)
	}
}

func TestMovesByChance(t *testing.T) {
	var d draws
	for range 2000 {
		a, b := make([]int, d.below(20)), make([]int, d.below(20))
		for i := range a {
			a[i] = d.below(3)
		}
		for i := range b {
			b[i] = d.below(3)
		}
		want := 0
		for i := range 20 {
			if i < len(a) && i < len(b) && a[i] == b[i] || i >= len(a) && i >= len(b) {
				continue
			}
			want++
		}
		if got := Moves(a, b); got != want {
			t.Fatalf("Moves(%v, %v) = %d, want %d", a, b, got, want)
		}
	}
}

// P11.4

func TestNodesAreUnlikeAndHaveWeights(t *testing.T) {
	var d draws
	for range 2000 {
		m := d.members()
		weight := map[int]int{}
		for _, one := range m.Members {
			weight[one.ID] = one.Weight
		}
		most, group := Weights(m), d.below(64)
		var before []int
		for n := 1; n <= most; n++ {
			row, e := Nodes(m, group, n)
			if e != api.OK || len(row) != n || !slices.Equal(row[:n-1], before) {
				t.Fatal(m, group, n, row, before, e)
			}
			if weight[row[n-1]] < 1 || slices.Contains(before, row[n-1]) {
				t.Fatal(m, group, n, row)
			}
			before = row
		}
	}
}

func TestAGreaterWeightMovesNoMoreThanItMust(t *testing.T) {
	var d draws
	stayed, first, came, moved := 0, 0, 0, 0
	for range 20000 {
		m := d.members()
		most, group, id := Weights(m), d.below(64), 1+d.below(32)
		old := 0
		for _, one := range m.Members {
			if one.ID == id {
				old = one.Weight
			}
		}
		if most == 0 || old == api.MaxWeight {
			continue
		}
		n := 1 + d.below(most)
		before, _ := Nodes(m, group, n)
		with, e := With(m, id, old+1+d.below(api.MaxWeight-old))
		if e != api.OK {
			t.Fatal(e)
		}
		after, e := Nodes(with, group, n)
		if e != api.OK {
			t.Fatal(e)
		}
		if after[0] != before[0] && after[0] != id {
			t.Fatal("the first one is another", m, with, before, after)
		}
		gone := 0
		for _, one := range before {
			if !slices.Contains(after, one) {
				gone++
			}
		}
		if gone > 1 {
			t.Fatal("more than one is gone", m, with, before, after)
		}
		switch {
		case slices.Equal(before, after):
			stayed++
		case after[0] != before[0]:
			first++
		case gone == 1:
			came++
		default:
			moved++
		}
	}
	if min(stayed, first, came, moved) < 300 {
		t.Error("that asks little:", stayed, first, came, moved)
	}
}

func TestGroupsLieByWeight(t *testing.T) {
	m := of(1, 1, 100, 2, 200, 3, 400, 4, 0)
	var many [5]int
	for g := range 64 {
		row, _ := Nodes(m, g, 1)
		many[row[0]]++
	}
	if many[4] != 0 || many[3] <= many[1] || many[1]+many[2]+many[3] != 64 {
		t.Error(many)
	}
}
