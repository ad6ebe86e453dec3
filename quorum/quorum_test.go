package quorum

import (
	"math"
	"slices"
	"testing"
	"time"

	"buttress/api"
)

// draws are numbers that look like chance, the same in every run.
type draws uint64

func (d *draws) next() uint64 {
	*d = *d*6364136223846793005 + 1442695040888963407
	x := uint64(*d)
	x ^= x >> 33
	x *= 0xff51afd7ed558ccd
	return x ^ x>>29
}

// below is a number from 0 below n.
func (d *draws) below(n int) int {
	return int(d.next() >> 1 % uint64(n))
}

// row is at most n ids from 0 to most, in any order, some of them perhaps twice.
func (d *draws) row(n int, most int) []int {
	row := make([]int, d.below(n+1))
	for i := range row {
		row[i] = d.below(most + 1)
	}
	return row
}

// conf is one that may be.
func (d *draws) conf() api.Conf {
	for {
		var parts [api.MaxNodes + 1]int
		share := 1 + d.below(6)
		for id := 1; id <= api.MaxNodes; id++ {
			if d.below(6) < share {
				parts[id] = d.below(3)
			}
		}
		if c := made(parts); len(c.Voters) > 0 {
			return c
		}
	}
}

// What a node is in a configuration.
const (
	neither = 0
	learner = 1
	voter   = 2
)

// made is the configuration in which the nodes are what parts says.
func made(parts [api.MaxNodes + 1]int) api.Conf {
	var c api.Conf
	for id, part := range parts {
		switch part {
		case learner:
			c.Learners = append(c.Learners, id)
		case voter:
			c.Voters = append(c.Voters, id)
		}
	}
	return c
}

// parts is what the nodes are in a configuration that may be.
func parts(c api.Conf) [api.MaxNodes + 1]int {
	var list [api.MaxNodes + 1]int
	for _, id := range c.Voters {
		list[id] = voter
	}
	for _, id := range c.Learners {
		list[id] = learner
	}
	return list
}

// small are all configurations that may be of the nodes 1 to n.
func small(n int) []api.Conf {
	many := 1
	for range n {
		many *= 3
	}
	var list []api.Conf
	for code := range many {
		var parts [api.MaxNodes + 1]int
		for id := 1; id <= n; id++ {
			parts[id] = code % 3
			code /= 3
		}
		if c := made(parts); len(c.Voters) > 0 {
			list = append(list, c)
		}
	}
	return list
}

// voters is a configuration without learners.
func voters(ids ...int) api.Conf {
	return api.Conf{Voters: ids}
}

// up are the numbers from one to another, by ones.
func up(from int, to int) []int {
	var row []int
	for id := from; id <= to; id++ {
		row = append(row, id)
	}
	return row
}

// same tells whether two configurations have the same elements.
func same(a, b api.Conf) bool {
	return slices.Equal(a.Voters, b.Voters) && slices.Equal(a.Learners, b.Learners)
}

// clone is a configuration in memory of its own.
func clone(c api.Conf) api.Conf {
	return api.Conf{Voters: slices.Clone(c.Voters), Learners: slices.Clone(c.Learners)}
}

// bad are configurations that may not be.
func bad() map[string]api.Conf {
	return map[string]api.Conf{
		"nothing":                {},
		"empty":                  {Voters: []int{}, Learners: []int{}},
		"learners alone":         {Learners: []int{1, 2}},
		"a voter 0":              voters(0, 1),
		"a voter below 0":        voters(-1, 1),
		"the least voter":        voters(math.MinInt, 1),
		"a voter 33":             voters(1, 33),
		"the greatest voter":     voters(1, math.MaxInt),
		"voters 1 to 33":         voters(up(1, 33)...),
		"a voter twice":          voters(1, 2, 2),
		"the first voter twice":  voters(1, 1),
		"voters fall":            voters(2, 1),
		"the last voter falls":   voters(1, 2, 5, 4),
		"a learner 0":            {Voters: []int{1}, Learners: []int{0}},
		"a learner below 0":      {Voters: []int{1}, Learners: []int{-7, 2}},
		"the least learner":      {Voters: []int{1}, Learners: []int{math.MinInt}},
		"a learner 33":           {Voters: []int{1}, Learners: []int{33}},
		"the greatest learner":   {Voters: []int{1}, Learners: []int{2, math.MaxInt}},
		"learners 2 to 33":       {Voters: []int{1}, Learners: up(2, 33)},
		"a learner twice":        {Voters: []int{1}, Learners: []int{2, 2}},
		"learners fall":          {Voters: []int{1}, Learners: []int{3, 2}},
		"the last learner falls": {Voters: []int{1}, Learners: []int{2, 4, 3}},
		"one is both":            {Voters: []int{1}, Learners: []int{1}},
		"the last one is both":   {Voters: []int{1, 2, 32}, Learners: []int{3, 32}},
		"one amid is both":       {Voters: []int{1, 4, 9}, Learners: []int{3, 4, 10}},
		"all are both":           {Voters: up(1, 32), Learners: up(1, 32)},
		"many":                   voters(make([]int, 1<<20)...),
	}
}

// P12.1

func TestCheck(t *testing.T) {
	rows := []api.Conf{
		voters(1),
		voters(32),
		voters(1, 2),
		voters(7, 9, 31),
		voters(up(1, 32)...),
		{Voters: []int{1}, Learners: []int{}},
		{Voters: []int{1}, Learners: []int{32}},
		{Voters: []int{32}, Learners: []int{1}},
		{Voters: []int{1, 3}, Learners: []int{2, 4}},
		{Voters: []int{17}, Learners: slices.Concat(up(1, 16), up(18, 32))},
		{Voters: up(2, 32), Learners: []int{1}},
	}
	for _, c := range rows {
		if e := Check(c); e != api.OK {
			t.Errorf("Check(%v) = %d", c, e)
		}
	}
	for name, c := range bad() {
		if e := Check(c); e != api.ErrConf {
			t.Error(name, e)
		}
	}
	// What room a list has behind its end does not count.
	list := []int{1, 2, 2, 0}
	if e := Check(api.Conf{Voters: list[:2], Learners: list[:0]}); e != api.OK {
		t.Error(e)
	}
}

// slowCheck counts, node by node, how often each is named, and asks for each place whether it is above the one ahead.
func slowCheck(c api.Conf) api.Errno {
	met := map[int]int{}
	for _, row := range [][]int{c.Voters, c.Learners} {
		for i, id := range row {
			met[id]++
			if i > 0 && row[i-1] >= id {
				return api.ErrConf
			}
		}
	}
	for id, many := range met {
		if many > 1 || id < 1 || id > 32 {
			return api.ErrConf
		}
	}
	if len(c.Voters) < 1 {
		return api.ErrConf
	}
	return api.OK
}

func TestCheckByChance(t *testing.T) {
	var d draws
	met := map[api.Errno]int{}
	for range 100000 {
		c := api.Conf{Voters: d.row(4, 34), Learners: d.row(4, 34)}
		if d.below(4) > 0 {
			slices.Sort(c.Voters)
			slices.Sort(c.Learners)
		}
		want := slowCheck(c)
		met[want]++
		if got := Check(c); got != want {
			t.Fatalf("Check(%v) = %d, want %d", c, got, want)
		}
	}
	if min(met[api.OK], met[api.ErrConf]) < 10000 {
		t.Error("that asks little:", met)
	}
}

func TestVotes(t *testing.T) {
	rows := []struct {
		c    api.Conf
		id   int
		want bool
	}{
		{voters(1, 2, 3), 1, true},
		{voters(1, 2, 3), 2, true},
		{voters(1, 2, 3), 3, true},
		{voters(1, 2, 3), 4, false},
		{voters(1, 2, 3), 0, false},
		{voters(1, 2, 3), -1, false},
		{voters(1, 2, 3), math.MaxInt, false},
		{voters(32), 32, true},
		{api.Conf{Voters: []int{1}, Learners: []int{2}}, 1, true},
		{api.Conf{Voters: []int{1}, Learners: []int{2}}, 2, false},
		{api.Conf{}, 0, false},
		{api.Conf{}, 1, false},
		// Of what may not be, too:
		{voters(3, 1, 2), 3, true},
		{voters(3, 1, 2), 1, true},
		{voters(3, 1, 2), 2, true},
		{voters(9, 9), 9, true},
		{voters(0, -5, 33), 0, true},
		{voters(0, -5, 33), -5, true},
		{voters(0, -5, 33), 33, true},
		{voters(0, -5, 33), 32, false},
		{voters(math.MinInt, math.MaxInt), math.MinInt, true},
		{api.Conf{Voters: []int{1}, Learners: []int{1}}, 1, true},
		{api.Conf{Learners: []int{1}}, 1, false},
	}
	for _, r := range rows {
		if got := Votes(r.c, r.id); got != r.want {
			t.Errorf("Votes(%v, %d) = %v", r.c, r.id, got)
		}
	}
	list := []int{1, 2, 3}
	if Votes(voters(list[:2]...), 3) {
		t.Error("what is behind a list's end votes")
	}
}

func TestMajority(t *testing.T) {
	three, four := voters(1, 2, 3), voters(1, 2, 3, 4)
	rows := []struct {
		c    api.Conf
		acks []int
		want bool
	}{
		{three, []int{1, 1, 9}, false},
		{three, []int{3, 1}, true},
		{three, nil, false},
		{three, []int{}, false},
		{three, []int{2}, false},
		{three, []int{2, 2, 2, 2}, false},
		{three, []int{0, -1, 4, 5, 6}, false},
		{three, []int{9, 3, 9, 2, 9}, true},
		{three, []int{1, 2, 3}, true},
		{four, []int{1, 4}, false}, // half of them is not more than half
		{four, []int{4, 2, 3}, true},
		{voters(1), nil, false},
		{voters(1), []int{2}, false},
		{voters(1), []int{1}, true},
		{voters(1, 2), []int{2}, false},
		{voters(1, 2), []int{2, 1}, true},
		{voters(up(1, 32)...), up(1, 16), false},
		{voters(up(1, 32)...), up(16, 32), true},
		{voters(up(1, 31)...), up(17, 40), false},
		{voters(up(1, 31)...), up(16, 40), true},
		// Learners have no voice.
		{api.Conf{Voters: []int{1, 2, 3}, Learners: []int{4, 5}}, []int{1, 4, 5}, false},
		{api.Conf{Voters: []int{1, 2, 3}, Learners: []int{4, 5}}, []int{1, 2}, true},
		{api.Conf{Learners: []int{1}}, []int{1}, false},
		// Without voters nobody is more than half of them.
		{api.Conf{}, nil, false},
		{api.Conf{}, []int{0, 1, 2}, false},
		// Of Voters each element counts, in whatever order.
		{voters(5, 5, 1), []int{5}, true},
		{voters(5, 1, 5), []int{5}, true},
		{voters(5, 1, 5), []int{1}, false},
		{voters(1, 1, 2, 2), []int{1, 1, 1}, false},
		{voters(3, 1, 2), []int{2, 3}, true},
		{voters(3, 3, 3, 1, 2, 4), []int{3}, false},
		{voters(3, 3, 3, 1, 2, 4), []int{3, 4}, true},
		{voters(0, -8, 77), []int{77, 0}, true},
		{voters(math.MinInt, math.MaxInt), []int{math.MaxInt, math.MinInt}, true},
		{voters(math.MinInt, math.MaxInt), []int{math.MaxInt}, false},
	}
	for _, r := range rows {
		if got := Majority(r.c, r.acks); got != r.want {
			t.Errorf("Majority(%v, %v) = %v", r.c, r.acks, got)
		}
	}
	list := []int{3, 1, 2}
	if Majority(three, list[:1]) {
		t.Error("what is behind a list's end has a voice")
	}
}

// slowMajority asks each voter whether one of acks is its own.
func slowMajority(c api.Conf, acks []int) bool {
	many := 0.0
	for _, id := range c.Voters {
		if slices.Contains(acks, id) {
			many++
		}
	}
	return many > float64(len(c.Voters))/2
}

func TestMajorityByChance(t *testing.T) {
	var d draws
	met := map[bool]int{}
	for range 100000 {
		c, acks := api.Conf{Voters: d.row(9, 9), Learners: d.row(3, 9)}, d.row(12, 11)
		voters, asked := clone(c), slices.Clone(acks)
		want := slowMajority(c, acks)
		met[want]++
		if got := Majority(c, acks); got != want {
			t.Fatalf("Majority(%v, %v) = %v", c, acks, got)
		}
		if !same(c, voters) || !slices.Equal(acks, asked) {
			t.Fatal("what was handed in was changed", c, acks)
		}
	}
	if min(met[true], met[false]) < 10000 {
		t.Error("that asks little:", met)
	}
}

// peers are peers told as ids and Matches by turns; what else they are does not count.
func peers(list ...uint64) []api.Peer {
	var row []api.Peer
	for i := 0; i < len(list); i += 2 {
		row = append(row, api.Peer{ID: int(list[i]), Match: list[i+1], Next: uint64(100 - i), Heard: i%4 == 0})
	}
	return row
}

func TestMatched(t *testing.T) {
	three := voters(1, 2, 3)
	greatest := uint64(math.MaxUint64)
	rows := []struct {
		c     api.Conf
		peers []api.Peer
		want  uint64
	}{
		{three, peers(1, 5, 2, 3), 3},
		{three, nil, 0},
		{three, peers(1, 5), 0},
		{three, peers(1, 5, 2, 3, 3, 9), 5},
		{three, peers(1, 5, 2, 5, 3, 5), 5},
		{three, peers(3, 7, 1, 7), 7},
		{three, peers(1, 0, 2, 0, 3, 8), 0},
		{voters(1), peers(1, 4), 4},
		{voters(2), peers(1, 4), 0},
		{voters(1, 2), peers(1, 4, 2, 6), 4},
		{voters(1, 2, 3, 4), peers(1, 1, 2, 2, 3, 3, 4, 4), 2},
		{voters(1, 2, 3, 4, 5), peers(5, 1, 4, 2, 3, 3, 2, 4, 1, 5), 3},
		{three, peers(1, greatest, 2, greatest-1, 3, 0), greatest - 1},
		{three, peers(1, greatest, 2, 1<<63, 3, 1), 1 << 63},
		// Learners and others do not count.
		{api.Conf{Voters: []int{1, 2, 3}, Learners: []int{4, 5}}, peers(1, 5, 4, 9, 5, 9), 0},
		{three, peers(1, 5, 9, 8, 8, 8), 0},
		{api.Conf{}, peers(1, 5), 0},
		{api.Conf{}, nil, 0},
		{api.Conf{Learners: []int{1}}, peers(1, 5), 0},
		// Of several of one id the first one counts.
		{voters(1), peers(1, 4, 1, 9), 4},
		{voters(1), peers(1, 9, 1, 4), 9},
		{voters(1), peers(2, 1, 1, 0, 1, 9, 2, 7, 1, 3), 0},
		{three, peers(3, 2, 1, 6, 3, 8, 1, 1), 2},
		// Of Voters each element counts, in whatever order.
		{voters(5, 1, 5), peers(5, 7, 1, 3), 7},
		{voters(1, 1, 2, 2), peers(1, 7, 2, 3), 3},
		{voters(3, 2, 1), peers(1, 5, 2, 3), 3},
		{voters(math.MinInt, 0, math.MaxInt), []api.Peer{{ID: math.MaxInt, Match: 6}, {ID: 0, Match: 4}, {ID: math.MinInt, Match: 2}}, 4},
		{voters(math.MinInt, math.MaxInt), []api.Peer{{ID: math.MaxInt, Match: 6}, {ID: math.MinInt, Match: 2}}, 2},
		{voters(math.MinInt, math.MinInt, 1), []api.Peer{{ID: math.MinInt, Match: 6}}, 6},
	}
	for _, r := range rows {
		if got := Matched(r.c, r.peers); got != r.want {
			t.Errorf("Matched(%v, %v) = %d, want %d", r.c, r.peers, got, r.want)
		}
	}
	list := peers(1, 5, 2, 3)
	if got := Matched(three, list[:1]); got != 0 {
		t.Error("what is behind a list's end counts", got)
	}
}

// slowMatched tries 0 and every Match that there is.
func slowMatched(c api.Conf, list []api.Peer) uint64 {
	greatest := uint64(0)
	for _, try := range list {
		many := 0
		for _, id := range c.Voters {
			at := slices.IndexFunc(list, func(one api.Peer) bool { return one.ID == id })
			if at >= 0 && list[at].Match >= try.Match {
				many++
			}
		}
		if many > len(c.Voters)-many {
			greatest = max(greatest, try.Match)
		}
	}
	return greatest
}

func TestMatchedByChance(t *testing.T) {
	var d draws
	some := 0
	for range 100000 {
		c := api.Conf{Voters: d.row(9, 8), Learners: d.row(3, 8)}
		list := make([]api.Peer, d.below(20))
		for i := range list {
			list[i] = api.Peer{ID: d.below(9), Match: uint64(d.below(12)), Next: d.next(), Heard: d.below(2) == 0}
		}
		voters, asked := clone(c), slices.Clone(list)
		want := slowMatched(c, list)
		if want > 0 {
			some++
		}
		if got := Matched(c, list); got != want {
			t.Fatalf("Matched(%v, %v) = %d, want %d", c, list, got, want)
		}
		if !same(c, voters) || !slices.Equal(list, asked) {
			t.Fatal("what was handed in was changed", c, list)
		}
	}
	if some < 10000 {
		t.Error("that asks little:", some)
	}
}

func TestLongRowsEnd(t *testing.T) {
	// Element by element that would take long.
	const many = 1 << 20
	row, acks, list := make([]int, many), make([]int, many), make([]api.Peer, many)
	for i := range row {
		row[i], acks[i], list[i] = 3*i, -2*i, api.Peer{ID: 3 * (many - i), Match: uint64(i)}
	}
	begin := time.Now()
	c := voters(row...)
	if Majority(c, acks) || !Majority(c, row) || !Majority(c, row[many/2-1:]) || Majority(c, row[many/2:]) {
		t.Error("majorities")
	}
	if got := Matched(c, list); got != many/2-1 {
		t.Error(got)
	}
	if Check(c) != api.ErrConf || Meets(c, c) || !Votes(c, 3*many-3) {
		t.Error("of what may not be")
	}
	if took := time.Since(begin); took > time.Minute {
		t.Error(took)
	}
}

// P12.2

// slowStep is what the nodes are behind a step, node by node; false if it may not be.
func slowStep(list [api.MaxNodes + 1]int, s api.ConfStep) ([api.MaxNodes + 1]int, bool) {
	many := 0
	for _, part := range list {
		if part == voter {
			many++
		}
	}
	part := list[s.Node]
	switch s.Kind {
	case api.StepLearn:
		list[s.Node] = learner
		return list, part == neither
	case api.StepVote:
		list[s.Node] = voter
		return list, part == learner
	case api.StepGo:
		list[s.Node] = neither
		return list, part == learner || part == voter && many > 1
	}
	return list, false
}

// steps fails the test unless a step from a configuration that may be comes to what slowStep says.
func steps(t *testing.T, c api.Conf, s api.ConfStep) {
	t.Helper()
	before := clone(c)
	got, e := Step(c, s)
	list, ok := slowStep(parts(c), s)
	switch {
	case !same(c, before):
		t.Fatal("what was handed in was changed", before, c)
	case !ok && (e != api.ErrConf || !same(got, api.Conf{})):
		t.Fatalf("Step(%v, %v) = %v, %d, want none", c, s, got, e)
	case ok && (e != api.OK || !same(got, made(list)) || Check(got) != api.OK):
		t.Fatalf("Step(%v, %v) = %v, %d, want %v", c, s, got, e, made(list))
	}
}

func TestStepOfWhatIsKnown(t *testing.T) {
	c := api.Conf{Voters: []int{2, 5}, Learners: []int{3, 9}}
	rows := []struct {
		s    api.ConfStep
		want api.Conf
	}{
		{api.ConfStep{Kind: api.StepLearn, Node: 1}, api.Conf{Voters: []int{2, 5}, Learners: []int{1, 3, 9}}},
		{api.ConfStep{Kind: api.StepLearn, Node: 4}, api.Conf{Voters: []int{2, 5}, Learners: []int{3, 4, 9}}},
		{api.ConfStep{Kind: api.StepLearn, Node: 32}, api.Conf{Voters: []int{2, 5}, Learners: []int{3, 9, 32}}},
		{api.ConfStep{Kind: api.StepVote, Node: 3}, api.Conf{Voters: []int{2, 3, 5}, Learners: []int{9}}},
		{api.ConfStep{Kind: api.StepVote, Node: 9}, api.Conf{Voters: []int{2, 5, 9}, Learners: []int{3}}},
		{api.ConfStep{Kind: api.StepGo, Node: 3}, api.Conf{Voters: []int{2, 5}, Learners: []int{9}}},
		{api.ConfStep{Kind: api.StepGo, Node: 2}, api.Conf{Voters: []int{5}, Learners: []int{3, 9}}},
		{api.ConfStep{Kind: api.StepGo, Node: 5}, api.Conf{Voters: []int{2}, Learners: []int{3, 9}}},
	}
	for _, r := range rows {
		if got, e := Step(c, r.s); e != api.OK || !same(got, r.want) {
			t.Errorf("Step(%v, %v) = %v, %d, want %v", c, r.s, got, e, r.want)
		}
	}
}

func TestStepOfOnesThatMayNotBe(t *testing.T) {
	c := api.Conf{Voters: []int{2, 5}, Learners: []int{3, 9}}
	one := api.Conf{Voters: []int{7}, Learners: []int{8}}
	rows := []struct {
		c api.Conf
		s api.ConfStep
	}{
		{voters(1), api.ConfStep{Kind: api.StepGo, Node: 1}}, // the last voter
		{one, api.ConfStep{Kind: api.StepGo, Node: 7}},       // there is a learner, but no other voter
		{one, api.ConfStep{Kind: api.StepGo, Node: 1}},       // it is neither
		{c, api.ConfStep{Kind: api.StepGo, Node: 4}},
		{c, api.ConfStep{Kind: api.StepLearn, Node: 2}}, // it votes
		{c, api.ConfStep{Kind: api.StepLearn, Node: 3}}, // it learns
		{c, api.ConfStep{Kind: api.StepVote, Node: 5}},  // it votes
		{c, api.ConfStep{Kind: api.StepVote, Node: 4}},  // it is neither
		{voters(up(1, 32)...), api.ConfStep{Kind: api.StepLearn, Node: 33}},
	}
	for _, r := range rows {
		if got, e := Step(r.c, r.s); e != api.ErrConf || !same(got, api.Conf{}) {
			t.Errorf("Step(%v, %v) = %v, %d", r.c, r.s, got, e)
		}
	}
	for _, kind := range []api.StepKind{0, 4, -1, math.MinInt, math.MaxInt} {
		for node := 0; node <= 10; node++ {
			if got, e := Step(c, api.ConfStep{Kind: kind, Node: node}); e != api.ErrConf || !same(got, api.Conf{}) {
				t.Error(kind, node, got, e)
			}
		}
	}
	for _, node := range []int{0, -1, 33, 34, math.MinInt, math.MaxInt} {
		for kind := range api.StepKind(5) {
			if got, e := Step(c, api.ConfStep{Kind: kind, Node: node}); e != api.ErrConf || !same(got, api.Conf{}) {
				t.Error(kind, node, got, e)
			}
		}
	}
}

func TestStepFromConfsThatMayNotBe(t *testing.T) {
	for name, c := range bad() {
		for kind := range api.StepKind(5) {
			for node := -1; node <= 34; node++ {
				if got, e := Step(c, api.ConfStep{Kind: kind, Node: node}); e != api.ErrConf || !same(got, api.Conf{}) {
					t.Fatal(name, kind, node, got, e)
				}
			}
		}
	}
}

func TestStep(t *testing.T) {
	for _, c := range small(5) {
		for kind := range api.StepKind(5) {
			for node := 1; node <= 6; node++ {
				steps(t, c, api.ConfStep{Kind: kind, Node: node})
			}
		}
	}
	var d draws
	for range 50000 {
		steps(t, d.conf(), api.ConfStep{Kind: api.StepKind(d.below(5)), Node: 1 + d.below(32)})
	}
}

func TestStepsFromNoneToAllAndBack(t *testing.T) {
	c := voters(16)
	step := func(kind api.StepKind, node int) {
		next, e := Step(c, api.ConfStep{Kind: kind, Node: node})
		if e != api.OK {
			t.Fatal(c, kind, node, e)
		}
		c = next
	}
	for id := 32; id >= 1; id-- {
		if id != 16 {
			step(api.StepLearn, id)
		}
	}
	for id := 1; id <= 32; id++ {
		if id != 16 {
			step(api.StepVote, id)
		}
	}
	if !same(c, voters(up(1, 32)...)) {
		t.Fatal(c)
	}
	for id := 1; id <= 31; id++ {
		step(api.StepGo, id)
	}
	if !same(c, voters(32)) {
		t.Fatal(c)
	}
}

func TestStepIsNewMemory(t *testing.T) {
	for _, s := range []api.ConfStep{{Kind: api.StepLearn, Node: 4}, {Kind: api.StepVote, Node: 3}, {Kind: api.StepGo, Node: 3}, {Kind: api.StepGo, Node: 2}} {
		all := []int{2, 5, 77, 78, 3, 9, 79, 80}
		c := api.Conf{Voters: all[:2], Learners: all[4:6]}
		got, e := Step(c, s)
		if e != api.OK {
			t.Fatal(e)
		}
		want := clone(got)
		_, _ = append(got.Voters, 99, 99, 99, 99), append(got.Learners, 98, 98, 98, 98)
		if !same(got, want) {
			t.Error("one list of the answer runs into the other", s, got, want)
		}
		for i := range got.Voters {
			got.Voters[i] = 55
		}
		if !slices.Equal(got.Learners, want.Learners) {
			t.Error("two lists of the answer share memory", s)
		}
		for i := range got.Learners {
			got.Learners[i] = 66
		}
		if !slices.Equal(all, []int{2, 5, 77, 78, 3, 9, 79, 80}) {
			t.Error("what was handed in was changed", s, all)
		}
		all[0] = 1
		if !slices.Equal(got.Voters, slices.Repeat([]int{55}, len(got.Voters))) {
			t.Error("what was handed in was kept", s)
		}
	}
}

// P12.3

// mask is a row's ids as bits.
func mask(row []int) uint64 {
	bits := uint64(0)
	for _, id := range row {
		bits |= 1 << id
	}
	return bits
}

// majorities are all rows of a configuration's voters, as bits, that Majority takes for one.
func majorities(c api.Conf) []uint64 {
	var list []uint64
	for code := range 1 << len(c.Voters) {
		var row []int
		for i, id := range c.Voters {
			if code>>i&1 == 1 {
				row = append(row, id)
			}
		}
		if Majority(c, row) {
			list = append(list, mask(row))
		}
	}
	return list
}

// slowMeets holds each majority against each.
func slowMeets(a, b []uint64) bool {
	for _, one := range a {
		for _, other := range b {
			if one&other == 0 {
				return false
			}
		}
	}
	return true
}

func TestMeetsOfWhatIsKnown(t *testing.T) {
	rows := []struct {
		a, b api.Conf
		want bool
	}{
		{voters(1, 2), voters(3, 4), false},
		{voters(1), voters(1), true},
		{voters(1), voters(2), false},
		{voters(1, 2), voters(1), true},
		{voters(1, 2), voters(2, 3), true},
		{voters(1, 2, 3), voters(1), false},
		{voters(1, 2, 3), voters(1, 2), true},
		{voters(1, 2, 3), voters(2, 3, 4), false},
		{voters(1, 2, 3), voters(1, 2, 3, 4), true},
		{voters(1, 2, 3), voters(1, 2, 3, 4, 5), false},
		{voters(1, 2, 3, 4), voters(1, 2, 3, 4, 5), true},
		{voters(1, 2, 3, 4), voters(1, 2, 3, 5), true},
		{voters(1, 2, 3, 4), voters(1, 2, 5, 6), false},
		{voters(up(1, 32)...), voters(up(1, 32)...), true},
		{voters(up(1, 32)...), voters(up(1, 31)...), true},
		{voters(up(1, 32)...), voters(up(1, 30)...), true},
		{voters(up(1, 32)...), voters(up(1, 29)...), false},
		{voters(up(1, 31)...), voters(up(1, 29)...), false},
		{voters(up(1, 32)...), voters(up(17, 32)...), false},
		{voters(up(1, 16)...), voters(up(17, 32)...), false},
		// Learners have no voice.
		{api.Conf{Voters: []int{1}, Learners: []int{2, 3}}, api.Conf{Voters: []int{2}, Learners: []int{1, 3}}, false},
		{api.Conf{Voters: []int{1, 2}, Learners: []int{3, 4}}, api.Conf{Voters: []int{3, 4}, Learners: []int{1, 2}}, false},
		{api.Conf{Voters: []int{1, 2}, Learners: []int{3, 4}}, api.Conf{Voters: []int{1, 2}, Learners: []int{5}}, true},
	}
	for _, r := range rows {
		if got := Meets(r.a, r.b); got != r.want {
			t.Errorf("Meets(%v, %v) = %v", r.a, r.b, got)
		}
		if got := Meets(r.b, r.a); got != r.want {
			t.Errorf("Meets(%v, %v) = %v", r.b, r.a, got)
		}
	}
}

func TestMeets(t *testing.T) {
	list := small(5)
	for _, wide := range [][]int{{1, 2, 3, 4, 5, 6, 7}, {1, 2, 3, 4, 5, 6}, {4, 5, 6, 7, 8, 9, 10}, {2, 4, 6, 8, 10, 32}, {1, 3, 5, 7, 9, 11, 32}, {1, 2, 3, 4, 6, 7, 8}} {
		list = append(list, voters(wide...))
	}
	sides := make([][]uint64, len(list))
	for i, c := range list {
		sides[i] = majorities(c)
	}
	met := map[bool]int{}
	for i, a := range list {
		for j, b := range list {
			want := slowMeets(sides[i], sides[j])
			met[want]++
			if got := Meets(a, b); got != want {
				t.Fatalf("Meets(%v, %v) = %v", a, b, got)
			}
		}
	}
	if min(met[true], met[false]) < 10000 {
		t.Error("that asks little:", met)
	}
}

func TestMeetsOfWhatMayNotBe(t *testing.T) {
	for name, c := range bad() {
		good := voters(1)
		if Meets(c, c) || Meets(c, good) || Meets(good, c) {
			t.Error(name)
		}
	}
}

// P12.4

func TestTwoMajoritiesMeet(t *testing.T) {
	var d draws
	list := small(6)
	for range 3000 {
		list = append(list, d.conf())
	}
	made := 0
	for _, c := range list {
		if !Meets(c, c) {
			t.Fatal("not itself:", c)
		}
		for kind := api.StepLearn; kind <= api.StepGo; kind++ {
			for node := 1; node <= api.MaxNodes; node++ {
				next, e := Step(c, api.ConfStep{Kind: kind, Node: node})
				if e != api.OK {
					continue
				}
				made++
				if !Meets(c, next) || !Meets(next, c) {
					t.Fatal(c, kind, node, next)
				}
			}
		}
	}
	if made < 50000 {
		t.Error("that asks little:", made)
	}
}

func TestMatchedIsWhatAMajorityHas(t *testing.T) {
	var d draws
	some := 0
	for range 20000 {
		c := d.conf()
		var list []api.Peer
		for id := 1; id <= api.MaxNodes; id++ {
			if d.below(5) > 0 {
				list = append(list, api.Peer{ID: id, Match: uint64(d.below(50))})
			}
		}
		// have are those whose Match is at least that; one that is not told of has 0.
		have := func(least uint64) []int {
			var row []int
			for id := 1; id <= api.MaxNodes; id++ {
				at := slices.IndexFunc(list, func(one api.Peer) bool { return one.ID == id })
				if least == 0 || at >= 0 && list[at].Match >= least {
					row = append(row, id)
				}
			}
			return row
		}
		m := Matched(c, list)
		if m > 0 {
			some++
		}
		if !Majority(c, have(m)) || Majority(c, have(m+1)) {
			t.Fatal(c, list, m)
		}
	}
	if some < 10000 {
		t.Error("that asks little:", some)
	}
}
