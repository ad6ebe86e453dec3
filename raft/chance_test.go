package raft_test

import (
	"math"
	"slices"
	"testing"

	"buttress/api"
	"buttress/raft"
)

// P13.1 and P13.2, by chance: of all states, and of all that comes.

// edge is a number that is seldom well.
func (d *draws) edge() uint64 {
	list := []uint64{0, 1, told - 1, told, told + 1, end - 2, end - 1, end, end + 1, math.MaxUint64 - 1, math.MaxUint64}
	return list[d.below(len(list))]
}

// row is at most n ids, in any order, some perhaps twice.
func (d *draws) row(n int, most int) []int {
	row := make([]int, d.below(n+1))
	for i := range row {
		row[i] = d.below(most + 1)
	}
	return row
}

// conf is a configuration of some of six nodes, that may be.
func (d *draws) conf() api.Conf {
	var c api.Conf
	for id := 1; id <= 6; id++ {
		switch d.below(5) {
		case 0, 1, 2:
			c.Voters = append(c.Voters, id)
		case 3:
			c.Learners = append(c.Learners, id)
		}
	}
	if len(c.Voters) == 0 || d.one(6) {
		return voters(1 + d.below(6))
	}
	return c
}

// odd is a configuration that may not be, mostly.
func (d *draws) odd() api.Conf {
	return api.Conf{Voters: d.row(3, 33), Learners: d.row(3, 33)}
}

// entry is an entry of an index and a term.
func (d *draws) entry(index uint64, term uint64) api.Entry {
	e := api.Entry{Index: index, Term: term, Kind: api.EntryKind(d.below(3))}
	switch {
	case d.one(20):
		e.Kind = 7
		e.Conf = d.odd()
	case e.Kind == api.EntCmd:
		e.Cmd = command(d.next() % 1000)
	case e.Kind == api.EntConf:
		e.Conf = d.conf()
	}
	return e
}

// log are entries behind one of an index and a term, up to a term.
func (d *draws) log(index uint64, term uint64, most uint64) []api.Entry {
	n := d.below(7)
	if d.one(15) {
		n += 14 + d.below(24)
	}
	var row []api.Entry
	for range n {
		index++
		if d.one(3) {
			term = d.from(term, most)
		}
		row = append(row, d.entry(index, term))
	}
	return row
}

// state is a state that may be.
func (d *draws) state() api.Raft {
	r := api.Raft{ID: 1 + d.below(6), Beat: 1 + d.below(3), Ctx: uint64(d.below(5)), BaseConf: d.conf()}
	r.Election = 2*r.Beat + d.below(5)
	r.Role = api.Role(d.below(4))
	if r.Term = uint64(d.below(5)); d.one(3) {
		r.Base = uint64(d.below(5))
		r.Snap = []byte{1, byte(d.below(9))}
	}
	r.BaseTerm = d.from(0, r.Term)
	if r.Term > 0 {
		r.Log = d.log(r.Base, r.BaseTerm, r.Term)
	}
	last := r.Base + uint64(len(r.Log))
	if r.Commit = d.from(r.Base, last); d.one(4) {
		r.Commit = last
	}
	r.Vote, r.Lead = d.below(7), d.below(7)
	r.Elapsed, r.Timeout = d.below(2*r.Election), d.below(2*r.Election)
	r.Votes = d.row(4, 7)
	share := 1 + d.below(5)
	for id := 1; id <= 7; id++ {
		if d.below(5) < share {
			r.Peers = append(r.Peers, api.Peer{ID: id, Next: d.from(1, last+1), Match: d.from(0, last), Heard: d.one(2)})
		}
	}
	for range d.below(4) {
		r.Readings = append(r.Readings, api.Reading{ID: d.next() % 100, Index: d.next() % 9, Ctx: uint64(d.below(6)), Acks: d.row(4, 7)})
	}
	if d.one(3) {
		r.Target = d.below(7)
	}
	return r
}

// spoil changes one thing of a state, which mostly may not be then.
func (d *draws) spoil(r *api.Raft) {
	number := int(d.edge())
	if d.one(2) {
		number = d.below(40) - 3
	}
	if d.one(6) {
		number = []int{1000, 1001, 2000, 2001, 500, 501}[d.below(6)]
	}
	places := []*int{&r.ID, &r.Election, &r.Beat, &r.Vote, &r.Lead, &r.Target, &r.Elapsed, &r.Timeout, (*int)(&r.Role)}
	counts := []*uint64{&r.Term, &r.Base, &r.BaseTerm, &r.Commit}
	for i := range r.Log {
		if i == 0 || i == len(r.Log)-1 || d.one(4) {
			counts = append(counts, &r.Log[i].Index, &r.Log[i].Term)
		}
	}
	for i := range r.Peers {
		places = append(places, &r.Peers[i].ID)
		counts = append(counts, &r.Peers[i].Next, &r.Peers[i].Match)
	}
	switch d.below(6) {
	case 0, 1:
		*places[d.below(len(places))] = number
	case 2, 3:
		*counts[d.below(len(counts))] = d.edge()
	case 4:
		at := counts[d.below(len(counts))]
		*at = *at - 1 + uint64(d.below(3))
	case 5:
		if len(r.Log) > 0 && d.one(2) {
			r.Log[d.below(len(r.Log))].Conf = d.odd()
		} else {
			r.BaseConf = d.odd()
		}
	}
}

// ending is the last index of a state's log, and its term.
func ending(r api.Raft) (uint64, uint64) {
	if len(r.Log) == 0 {
		return r.Base, r.BaseTerm
	}
	e := r.Log[len(r.Log)-1]
	return e.Index, e.Term
}

// near is a number not far from another, but for once in a while.
func (d *draws) near(n uint64) uint64 {
	switch d.below(8) {
	case 0:
		return n + 1
	case 1:
		return n - min(n, 1)
	case 2:
		return uint64(d.below(9))
	case 3:
		if d.one(5) {
			return d.edge()
		}
	}
	return n
}

// message is one that may come to a state.
func (d *draws) message(r api.Raft) api.Msg {
	last, term := ending(r)
	m := api.Msg{
		Kind: api.MsgKind(1 + d.below(8)), From: 1 + d.below(6), To: r.ID, Term: d.near(r.Term),
		Index: d.near(last), LogTerm: d.near(term), Commit: d.near(r.Commit), Ctx: uint64(d.below(7)),
		Ok: !d.one(3), Force: d.one(3), Conf: d.conf(), Data: []byte{byte(d.below(9))},
	}
	if len(r.Log) > 0 && !d.one(3) {
		e := r.Log[d.below(len(r.Log))]
		if at := r.Commit - r.Base; at > 0 && at <= uint64(len(r.Log)) && d.one(2) {
			e = r.Log[at-1]
		}
		m.Index, m.LogTerm = e.Index, e.Term
	} else if d.one(2) {
		m.Index, m.LogTerm = r.Base, r.BaseTerm
	}
	if d.one(4) {
		m.LogTerm = d.near(m.LogTerm)
	}
	m.Entries = d.entries(r, m)
	d.twist(&m)
	return m
}

// entries are what may stand in a message behind its Index: some that the state has, and others.
func (d *draws) entries(r api.Raft, m api.Msg) []api.Entry {
	var row []api.Entry
	term := m.LogTerm
	for _, e := range r.Log {
		if e.Index > m.Index {
			if d.one(4) {
				break
			}
			if !d.one(20) {
				row = append(row, e)
				term = max(term, e.Term)
			}
		}
	}
	if term <= m.Term && m.Term < told && !d.one(3) {
		if d.one(2) {
			term = m.Term
		}
		row = append(row, d.log(m.Index+uint64(len(row)), term, m.Term)...)
	}
	return row
}

// twist makes a message strange, once in a while.
func (d *draws) twist(m *api.Msg) {
	switch d.below(60) {
	case 0:
		m.To = d.below(35) - 1
	case 1:
		m.From = d.below(36) - 2
	case 2:
		m.Kind = api.MsgKind(d.below(25) - 2)
	case 3:
		m.Conf = d.odd()
	case 4:
		m.Entries = append(m.Entries, d.entry(d.edge(), m.Term))
	case 5:
		m.Entries = append(m.Entries, d.entry(m.Index+uint64(len(m.Entries))+1, d.near(m.Term)))
	case 6:
		if len(m.Entries) > 0 {
			m.Entries[d.below(len(m.Entries))].Conf = d.odd()
		}
	case 7:
		m.Commit = d.edge()
	}
}

// in is what may come to a state.
func (d *draws) in(r api.Raft) api.In {
	in := api.In{
		Kind: api.InKind(1 + d.below(7)), Draw: d.below(30) - 3, Cmd: command(d.next() % 1000),
		Step: api.ConfStep{Kind: api.StepKind(d.below(5)), Node: d.below(8)}, Read: d.next() % 1000,
		Node: d.below(8), Index: d.near(r.Commit), Data: []byte{5},
	}
	switch {
	case d.one(40):
		in.Kind = api.InKind(d.below(12) - 2)
	case !d.one(3):
		in.Kind = api.InMsg
	}
	in.Msg = d.message(r)
	return in
}

// suit gives a state the role of whom that may come to, mostly.
func (d *draws) suit(r *api.Raft, in api.In) {
	if d.one(4) {
		return
	}
	switch {
	case in.Kind > api.InMsg && in.Kind < api.InSnap:
		r.Role = api.Leader
	case in.Kind != api.InMsg:
	case in.Msg.Kind == api.MsgPreYes:
		r.Role = api.Preparing
	case in.Msg.Kind == api.MsgVoteYes:
		r.Role = api.Candidate
	case in.Msg.Kind == api.MsgAck:
		r.Role = api.Leader
	default:
		r.Role = api.Follower
	}
}

func TestCheckByChance(t *testing.T) {
	var d draws
	met := map[bool]int{}
	for range 100000 {
		r := d.state()
		if !d.one(4) {
			r = deep(r)
			d.spoil(&r)
		}
		want := api.OK
		if !slowCheck(r) {
			want = api.ErrArg
		}
		met[want == api.OK]++
		if got := raft.Check(r); got != want {
			t.Fatalf("Check(%+v) = %d, want %d", r, got, want)
		}
	}
	if min(met[true], met[false]) < 25000 {
		t.Error("that asks little:", met)
	}
}

func TestStepsByChance(t *testing.T) {
	var d draws
	met := map[string]int{}
	for range 80000 {
		r := d.state()
		if d.one(50) {
			d.spoil(&r)
		}
		in := d.in(r)
		d.suit(&r, in)
		want, wants := slowStep(r, in)
		got, out := raft.Step(r, in)
		if d.one(4) {
			got, out = stepped(t, "by chance", r, in)
		}
		if !alike(got, want) || !alike(out, wants) {
			t.Fatalf("of\n%+v\n%+v\ncomes\n%+v\n%+v\nwant\n%+v\n%+v", r, in, got, out, want, wants)
		}
		if slowCheck(r) && out.Err == api.OK && !alike(becomes(raft.Kept(r), got, out), raft.Kept(got)) && slowCheck(got) {
			t.Fatalf("of\n%+v\n%+v\nis put out\n%+v, which does not lead to\n%+v", r, in, out, got)
		}
		tally(met, r, got, out)
	}
	enough(t, met, 60, "led", "followed", "stood", "prepared", "cut", "added", "applied", "snapped", "restored", "ready", "lost", "now", "sent", "refused")
}

// tally counts what a step came to.
func tally(met map[string]int, r api.Raft, got api.Raft, out api.Out) {
	count := func(name string, is bool) {
		if is {
			met[name]++
		}
	}
	count("led", r.Role != api.Leader && got.Role == api.Leader)
	count("followed", r.Role == api.Leader && got.Role == api.Follower)
	count("stood", r.Role != api.Candidate && got.Role == api.Candidate)
	count("prepared", r.Role != api.Preparing && got.Role == api.Preparing)
	count("cut", out.Cut > 0)
	count("added", len(out.Added) > 0)
	count("applied", len(out.Apply) > 0)
	count("snapped", out.Snap && !out.Restored)
	count("restored", out.Restored)
	count("ready", len(out.Ready) > 0)
	count("lost", len(out.Lost) > 0)
	count("now", slices.ContainsFunc(out.Msgs, func(m api.Msg) bool { return m.Kind == api.MsgNow }))
	count("sent", len(out.Msgs) > 0)
	count("refused", out.Err != api.OK)
}

// enough fails the test unless each of these was met often.
func enough(t *testing.T, met map[string]int, least int, names ...string) {
	t.Helper()
	for _, name := range names {
		if met[name] < least {
			t.Error("that asks little:", name, met[name])
		}
	}
}
