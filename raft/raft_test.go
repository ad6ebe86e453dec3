package raft_test

import (
	"math"
	"strconv"
	"testing"

	"buttress/api"
	"buttress/raft"
)

const (
	end  = uint64(1) << 62
	told = uint64(1) << 61
)

// P13.1

// good are states that may be, at the edges of what may.
func good() map[string]api.Raft {
	made := map[string]api.Raft{"a follower": node(), "a leader": leader(), "behind a snapshot": short()}
	edge := func(name string, how func(*api.Raft)) { made[name] = short(how) }
	edge("the last node", func(r *api.Raft) { r.ID = 32 })
	edge("twice the beat", func(r *api.Raft) { r.Election, r.Beat = 2, 1 })
	edge("an odd election", func(r *api.Raft) { r.Election, r.Beat = 11, 5 })
	edge("the longest election", func(r *api.Raft) { r.Election, r.Beat = 1000, 500 })
	edge("the longest times", func(r *api.Raft) { r.Elapsed, r.Timeout = 2000, 2000 })
	edge("no times", func(r *api.Raft) { r.Elapsed, r.Timeout = 0, 0 })
	edge("the last vote, lead, target", func(r *api.Raft) { r.Vote, r.Lead, r.Target = 32, 32, 32 })
	edge("no vote, lead, target", func(r *api.Raft) { r.Vote, r.Lead, r.Target = 0, 0, 0 })
	edge("no node of its own configuration", func(r *api.Raft) { r.BaseConf = voters(7) })
	edge("nothing in the log", func(r *api.Raft) { r.Log, r.Commit, r.Peers = nil, 3, nil })
	edge("a term ahead of the log", func(r *api.Raft) { r.Term = 1000 })
	edge("the greatest term", func(r *api.Raft) { r.Term = end - 1 })
	edge("entries of the greatest term", func(r *api.Raft) { r.Term, r.Log = end-1, entries(4, end-1, end-1) })
	edge("entries of the base's term", func(r *api.Raft) { r.Log = entries(4, 2, 2) })
	edge("the base in the last term", func(r *api.Raft) { r.BaseTerm = 3 })
	edge("the greatest index", func(r *api.Raft) {
		r.Base, r.Commit, r.Peers = end-3, end-3, nil
		r.Log = entries(end-2, 3, 3)
	})
	edge("the greatest base", func(r *api.Raft) { r.Base, r.Commit, r.Log, r.Peers = end-1, end-1, nil, nil })
	edge("all committed", func(r *api.Raft) { r.Commit = 5 })
	edge("nothing committed", func(r *api.Raft) { r.Commit = 3 })
	edge("a configuration", func(r *api.Raft) { r.Log[1] = changes(5, 3, voters(2)) })
	edge("an entry of no kind", func(r *api.Raft) { r.Log[1].Kind = 77 })
	edge("a configuration in another's entry", func(r *api.Raft) { r.Log[1].Conf = voters(2, 1) })
	edge("the last peer", func(r *api.Raft) { r.Peers[2].ID = 32 })
	edge("peers at the ends", func(r *api.Raft) {
		r.Peers = []api.Peer{{ID: 2, Next: 1}, {ID: 3, Next: 6, Match: 5, Heard: true}}
	})
	edge("votes and readings of any kind", func(r *api.Raft) {
		r.Votes = []int{-7, 99, 99}
		r.Readings = []api.Reading{{ID: 1, Index: math.MaxUint64, Ctx: 9, Acks: []int{0, 0, -1}}, {}}
		r.Ctx = math.MaxUint64
	})
	for role := api.Follower; role <= api.Leader; role++ {
		edge("the role "+strconv.Itoa(int(role)), func(r *api.Raft) { r.Role = role })
	}
	made["term 0"] = api.Raft{ID: 1, Election: 2, Beat: 1, BaseConf: voters(1)}
	made["a base in term 0"] = api.Raft{ID: 1, Election: 2, Beat: 1, BaseConf: voters(1), Base: 9, Commit: 9}
	return made
}

// wrong are states of which each has one thing that may not be.
func wrong() map[string]api.Raft {
	made := map[string]api.Raft{"nothing": {}}
	edge := func(name string, how func(*api.Raft)) { made[name] = short(how) }
	for _, id := range []int{0, -1, 33, math.MinInt, math.MaxInt} {
		of := " " + strconv.Itoa(id)
		edge("the id"+of, func(r *api.Raft) { r.ID = id })
		edge("the peer"+of, func(r *api.Raft) { r.Peers = []api.Peer{{ID: id, Next: 1}} })
		if id != 0 {
			edge("the vote"+of, func(r *api.Raft) { r.Vote = id })
			edge("the lead"+of, func(r *api.Raft) { r.Lead = id })
			edge("the target"+of, func(r *api.Raft) { r.Target = id })
		}
	}
	for _, ticks := range []int{-1, 0, 3, 6, 1001, 2001, math.MinInt, math.MaxInt, math.MaxInt/2 + 1, math.MaxInt/2 + 2} {
		of := " " + strconv.Itoa(ticks)
		if ticks != 3 {
			edge("a beat of"+of, func(r *api.Raft) { r.Beat = ticks })
		}
		if ticks != 6 {
			edge("an election of"+of, func(r *api.Raft) { r.Election = ticks })
		}
		if ticks < 0 || ticks > 2000 {
			edge("elapsed"+of, func(r *api.Raft) { r.Elapsed = ticks })
			edge("a timeout of"+of, func(r *api.Raft) { r.Timeout = ticks })
		}
	}
	edge("less than twice the beat", func(r *api.Raft) { r.Election, r.Beat = 11, 6 })
	for _, role := range []int{-1, 4, math.MinInt, math.MaxInt} {
		edge("the role "+strconv.Itoa(role), func(r *api.Raft) { r.Role = api.Role(role) })
	}
	edge("a term at the end", func(r *api.Raft) { r.Term = end })
	edge("the greatest number for a term", func(r *api.Raft) { r.Term = math.MaxUint64 })
	edge("the base's term above the term", func(r *api.Raft) { r.BaseTerm, r.Log, r.Commit, r.Peers = 4, nil, 3, nil })
	edge("the first entry's term below the base's", func(r *api.Raft) { r.Log[0].Term = 1 })
	edge("terms fall", func(r *api.Raft) { r.Log[1].Term = 2 })
	edge("an entry's term above the term", func(r *api.Raft) { r.Log[1].Term = 4 })
	edge("a gap behind the base", func(r *api.Raft) { r.Log = entries(5, 3, 3) })
	edge("the base again", func(r *api.Raft) { r.Log = entries(3, 3, 3, 3) })
	edge("a gap", func(r *api.Raft) { r.Log[1].Index = 6 })
	edge("an index twice", func(r *api.Raft) { r.Log[1].Index = 4 })
	edge("a configuration that may not be", func(r *api.Raft) { r.Log[0] = changes(4, 3, voters(2, 1)) })
	edge("no voters", func(r *api.Raft) { r.Log[1] = changes(5, 3, api.Conf{Learners: []int{1}}) })
	edge("a base's configuration that may not be", func(r *api.Raft) { r.BaseConf = voters() })
	edge("a base's, behind one that may", func(r *api.Raft) { r.BaseConf, r.Log[1] = voters(), changes(5, 3, voters(1)) })
	edge("committed below the base", func(r *api.Raft) { r.Commit = 2 })
	edge("committed behind the end", func(r *api.Raft) { r.Commit = 6 })
	edge("the greatest number committed", func(r *api.Raft) { r.Commit = math.MaxUint64 })
	for _, base := range []uint64{end, math.MaxUint64, math.MaxUint64 - 1} {
		of := " " + strconv.FormatUint(base, 10)
		edge("the base"+of, func(r *api.Raft) { r.Base, r.Commit, r.Log, r.Peers = base, base, nil, nil })
		edge("entries behind the base"+of, func(r *api.Raft) {
			r.Base, r.Commit, r.Peers = base, base, nil
			r.Log = entries(base+1, 3, 3)
		})
		edge("taken round from the base"+of, func(r *api.Raft) {
			r.Base, r.Commit, r.Peers = base, 0, nil
			r.Log = entries(base+1, 3, 3)
		})
	}
	edge("an index at the end", func(r *api.Raft) {
		r.Base, r.Commit, r.Peers = end-2, end-2, nil
		r.Log = entries(end-1, 3, 3)
	})
	edge("a peer twice", func(r *api.Raft) { r.Peers[1].ID = 1 })
	edge("peers fall", func(r *api.Raft) { r.Peers[0].ID, r.Peers[1].ID = 2, 1 })
	edge("next 0", func(r *api.Raft) { r.Peers[1].Next = 0 })
	edge("next too far", func(r *api.Raft) { r.Peers[1].Next = 7 })
	edge("the greatest next", func(r *api.Raft) { r.Peers[2].Next = math.MaxUint64 })
	edge("match too far", func(r *api.Raft) { r.Peers[1].Match = 6 })
	edge("the greatest match", func(r *api.Raft) { r.Peers[0].Match = math.MaxUint64 })
	made["an entry in term 0"] = node(func(r *api.Raft) { r.Term, r.Log, r.Commit = 0, entries(1, 0), 0 })
	return made
}

func TestCheck(t *testing.T) {
	for name, r := range good() {
		if e := raft.Check(r); e != api.OK || !slowCheck(r) {
			t.Error(name, e)
		}
	}
	for name, r := range wrong() {
		if e := raft.Check(r); e != api.ErrArg || slowCheck(r) {
			t.Error(name, e)
		}
	}
	// What room a list has behind its end does not count.
	r := node()
	r.Log = append(r.Log, entry(99, 99))[:5]
	r.Peers = make([]api.Peer, 0, 7)
	if e := raft.Check(r); e != api.OK {
		t.Error(e)
	}
}

func TestWhatMayNotBeIsRefused(t *testing.T) {
	for name, r := range wrong() {
		if got := raft.Kept(r); !alike(got, api.Kept{}) {
			t.Error("Kept", name, got)
		}
		if got := raft.Conf(r); !alike(got, api.Conf{}) {
			t.Error("Conf", name, got)
		}
		if index, term := raft.Last(r); index != 0 || term != 0 {
			t.Error("Last", name, index, term)
		}
		for _, index := range []uint64{0, r.Base, 4, 5} {
			if term, ok := raft.Term(r, index); ok || term != 0 {
				t.Error("Term", name, index, term, ok)
			}
		}
		for kind := api.InKind(0); kind <= 8; kind++ {
			in := api.In{Kind: kind, Index: r.Commit, Msg: api.Msg{Kind: api.MsgNow, From: 2, To: r.ID, Term: r.Term}}
			if got, out := raft.Step(r, in); !alike(got, api.Raft{}) || !alike(out, api.Out{Err: api.ErrArg}) {
				t.Error("Step", name, kind, got, out)
			}
		}
	}
}

func TestLastTermConf(t *testing.T) {
	for name, r := range good() {
		term, ok := raft.Term(r, r.Base)
		if !ok || term != r.BaseTerm {
			t.Error(name, "at the base:", term, ok)
		}
		last := r.Base
		for _, e := range r.Log {
			if term, ok := raft.Term(r, e.Index); !ok || term != e.Term {
				t.Error(name, e.Index, term, ok)
			}
			last, term = e.Index, e.Term
		}
		if at, behind := raft.Last(r); at != last || behind != term {
			t.Error(name, "last:", at, behind)
		}
		for _, index := range []uint64{last + 1, last + 2, r.Base - 1, math.MaxUint64, end} {
			if term, ok := raft.Term(r, index); ok || term != 0 {
				t.Error(name, "at", index, term, ok)
			}
		}
		if r.Base > 0 {
			if term, ok := raft.Term(r, 0); ok || term != 0 {
				t.Error(name, "at 0:", term, ok)
			}
		}
	}
	rows := []struct {
		r    api.Raft
		want api.Conf
	}{
		{node(), voters(1, 2, 3)},
		{short(), api.Conf{Voters: []int{1, 2, 3}, Learners: []int{4}}},
		{node(func(r *api.Raft) { r.Log[0] = changes(1, 1, voters(7)) }), voters(7)},
		{node(func(r *api.Raft) { r.Log[0], r.Log[4] = changes(1, 1, voters(7)), changes(5, 3, voters(8)) }), voters(8)},
		{node(func(r *api.Raft) { r.Log[0], r.Log[2] = changes(1, 1, voters(7)), changes(3, 2, voters(8)) }), voters(8)},
		// Of another kind's entry that does not count.
		{node(func(r *api.Raft) { r.Log[4].Conf = voters(8) }), voters(1, 2, 3)},
	}
	for _, row := range rows {
		row.r = roomy(row.r)
		got := raft.Conf(row.r)
		if !alike(got, row.want) || !apart([]any{row.r}, []any{got}) {
			t.Error(row.r, got)
		}
	}
}

func TestNew(t *testing.T) {
	c := roomy(api.Conf{Voters: []int{1, 3}, Learners: []int{2}})
	for _, row := range [][3]int{{1, 2, 1}, {32, 1000, 500}, {7, 10, 2}, {2, 1000, 1}, {5, 3, 1}} {
		got, e := raft.New(row[0], row[1], row[2], c)
		want := api.Raft{ID: row[0], Election: row[1], Beat: row[2], BaseConf: c, Timeout: row[1]}
		if e != api.OK || !alike(got, want) || !apart([]any{c}, []any{got}) {
			t.Error(row, got, e)
		}
	}
	refused := func(id int, election int, beat int, c api.Conf) {
		t.Helper()
		if got, e := raft.New(id, election, beat, c); e != api.ErrArg || !alike(got, api.Raft{}) {
			t.Error(id, election, beat, c, got, e)
		}
	}
	for _, row := range [][3]int{{0, 10, 2}, {33, 10, 2}, {-1, 10, 2}, {1, 1, 1}, {1, 3, 2}, {1, 1001, 2}, {1, 10, 0}, {1, 10, -1}, {1, 10, 6}, {1, 0, 0}, {1, -2, -1}, {1, math.MinInt, math.MinInt}, {1, 10, math.MaxInt}} {
		refused(row[0], row[1], row[2], c)
	}
	for _, c := range []api.Conf{{}, voters(2, 1), voters(0), voters(33), {Voters: []int{1}, Learners: []int{1}}, {Learners: []int{1}}} {
		refused(1, 10, 2, c)
	}
}

func TestKeptAndAgain(t *testing.T) {
	for name, r := range good() {
		r = roomy(r)
		k := raft.Kept(r)
		want := api.Kept{Term: r.Term, Vote: r.Vote, Base: r.Base, BaseTerm: r.BaseTerm, BaseConf: r.BaseConf, Snap: r.Snap, Log: r.Log}
		if !alike(k, want) || !apart([]any{r}, []any{k}) {
			t.Error("Kept", name, k)
		}
		k = roomy(k)
		got, e := raft.Again(r.ID, r.Election, r.Beat, k)
		back := api.Raft{
			ID: r.ID, Election: r.Election, Beat: r.Beat, Term: r.Term, Vote: r.Vote,
			Base: r.Base, BaseTerm: r.BaseTerm, BaseConf: r.BaseConf, Snap: r.Snap, Log: r.Log,
			Commit: r.Base, Timeout: r.Election,
		}
		if e != api.OK || !alike(got, back) || !apart([]any{k}, []any{got}) {
			t.Error("Again", name, got, e)
		}
	}
	k := raft.Kept(short())
	refused := func(what string, id int, election int, beat int, k api.Kept) {
		t.Helper()
		if got, e := raft.Again(id, election, beat, k); e != api.ErrArg || !alike(got, api.Raft{}) {
			t.Error(what, got, e)
		}
	}
	refused("no id", 0, 10, 2, k)
	refused("a late id", 33, 10, 2, k)
	refused("no beat", 1, 10, 0, k)
	refused("a short election", 1, 3, 2, k)
	refused("a long election", 1, 1001, 2, k)
	refused("nothing", 1, 10, 2, api.Kept{})
	// What was kept has no times, peers or roles: of the states that may not be, those count whose fault is in what it has.
	for name, r := range wrong() {
		k := api.Kept{Term: r.Term, Vote: r.Vote, Base: r.Base, BaseTerm: r.BaseTerm, BaseConf: r.BaseConf, Snap: r.Snap, Log: r.Log}
		may := slowCheck(api.Raft{
			ID: 1, Election: 10, Beat: 2, Term: r.Term, Vote: r.Vote, Base: r.Base, BaseTerm: r.BaseTerm, BaseConf: r.BaseConf, Log: r.Log, Commit: r.Base,
		})
		got, e := raft.Again(1, 10, 2, k)
		if may != (e == api.OK) {
			t.Error(name, got, e)
		}
		if !may {
			refused(name, 1, 10, 2, k)
		}
	}
}
