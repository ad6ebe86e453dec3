package raft_test

import (
	"math"
	"slices"
	"strconv"
	"testing"

	"buttress/api"
)

// P13.2: messages. Node 1 takes them.

// comes is a message from a node to node 1.
func comes(kind api.MsgKind, from int, term uint64) api.Msg {
	return api.Msg{Kind: kind, From: from, To: 1, Term: term}
}

// ends is a message that tells the end of a log.
func ends(m api.Msg, index uint64, logTerm uint64) api.Msg {
	m.Index, m.LogTerm = index, logTerm
	return m
}

// yes is a message that says Ok.
func yes(m api.Msg) api.Msg {
	m.Ok = true
	return m
}

// forced is a message with Force.
func forced(m api.Msg) api.Msg {
	m.Force = true
	return m
}

// says is that node 1 puts one message out.
func says(m api.Msg) api.Out {
	m.From = 1
	return api.Out{Msgs: []api.Msg{m}}
}

// acks is a leader being answered, with the message's round of readings.
func acks(to int, term uint64, index uint64, ctx uint64, ok bool) api.Msg {
	return api.Msg{Kind: api.MsgAck, To: to, Term: term, Index: index, Ctx: ctx, Ok: ok}
}

// leads is a message of the leader, node 3, in term 3, of round 8.
func leads(index uint64, logTerm uint64, commit uint64, row ...api.Entry) api.Msg {
	return api.Msg{Kind: api.MsgAppend, From: 3, To: 1, Term: 3, Index: index, LogTerm: logTerm, Commit: commit, Ctx: 8, Entries: row}
}

// kinds are all kinds of messages that have to do with the log.
func kinds() []api.MsgKind {
	return []api.MsgKind{api.MsgPre, api.MsgPreYes, api.MsgVote, api.MsgVoteYes, api.MsgAppend, api.MsgAck, api.MsgSnap, api.MsgNow}
}

// full is a message of a kind in which all that might be used is there.
func full(kind api.MsgKind) api.Msg {
	return api.Msg{
		Kind: kind, From: 2, To: 1, Term: 9, Index: 5, LogTerm: 3, Commit: 5, Ctx: 7, Ok: true, Force: true,
		Entries: entries(6, 3), Conf: voters(1, 2), Data: []byte{1},
	}
}

// roles are states of each role.
func roles() []api.Raft {
	row := []api.Raft{node(), leader()}
	for _, role := range []api.Role{api.Preparing, api.Candidate} {
		row = append(row, node(func(r *api.Raft) { r.Role, r.Lead, r.Votes = role, 0, []int{1} }))
	}
	return row
}

func TestStrangeMessages(t *testing.T) {
	var rows []turn
	strange := func(name string, m api.Msg) {
		for _, r := range roles() {
			rows = append(rows, turn{name + ", kind " + strconv.Itoa(int(m.Kind)), r, message(m), nil, api.Out{}})
		}
	}
	for _, kind := range kinds() {
		for _, to := range []int{0, 2, 33, -1, math.MinInt, math.MaxInt} {
			m := full(kind)
			m.To = to
			strange("to another", m)
		}
		for _, from := range []int{0, 1, 33, -1, math.MinInt, math.MaxInt} {
			m := full(kind)
			m.From = from
			strange("from nobody", m)
		}
		for _, far := range []uint64{told, told + 1, end, math.MaxUint64} {
			m := full(kind)
			m.Term = far
			strange("of a term too far", m)
			m = full(kind)
			m.Index = far
			strange("of an index too far", m)
			m.Term = 1
			strange("of an index too far and an elder term", m)
		}
	}
	for kind := api.MsgPrepare; kind <= api.MsgPong+1; kind++ {
		for _, term := range []uint64{0, 2, 3, 4, 9} {
			m := full(kind)
			m.Term = term
			strange("of no kind of the log", m)
		}
	}
	for _, kind := range []api.MsgKind{0, -1, math.MinInt, math.MaxInt} {
		strange("of no kind", full(kind))
	}
	held(t, rows)
}

func TestTheFarthestMessages(t *testing.T) {
	held(t, []turn{
		{"the greatest term", node(), message(comes(api.MsgAck, 2, told-1)), func(r *api.Raft) { follows(r, told-1, 0) }, api.Out{Hard: true}},
		{"the last node", node(), message(comes(api.MsgAck, 32, 4)), func(r *api.Raft) { follows(r, 4, 0) }, api.Out{Hard: true}},
		{"the greatest index", node(), message(leads(told-1, 3, 0)), func(r *api.Raft) { follows(r, 3, 3) }, says(acks(3, 3, 5, 8, false))},
	})
	m := ends(comes(api.MsgSnap, 3, told-1), told-1, told-1)
	m.Conf = voters(2)
	held(t, []turn{{"a snapshot of these", node(), message(m), func(r *api.Raft) {
		follows(r, told-1, 3)
		r.Base, r.BaseTerm, r.BaseConf, r.Log, r.Commit = told-1, told-1, voters(2), nil, told-1
	}, api.Out{Hard: true, Snap: true, Restored: true, Msgs: []api.Msg{{Kind: api.MsgAck, From: 1, To: 3, Term: told - 1, Index: told - 1, Ok: true}}}}})
}

func TestLaterTerms(t *testing.T) {
	for i, r := range roles() {
		r.Vote, r.Readings, r.Target = 3, waiting(), 2
		lost := []uint64{11, 12}
		name := "role " + strconv.Itoa(i)
		over := func(lead int) func(*api.Raft) {
			return func(r *api.Raft) { follows(r, 5, lead) }
		}
		hard := api.Out{Hard: true, Lost: lost}
		with := func(o api.Out, m api.Msg) api.Out {
			m.From = 1
			o.Msgs = append(slices.Clone(o.Msgs), m)
			return o
		}
		late := deep(r)
		late.Elapsed = 10
		held(t, []turn{
			{name + ", a vote that is not granted", late, message(ends(comes(api.MsgVote, 2, 5), 4, 3)), over(0), with(hard, api.Msg{Kind: api.MsgVoteYes, To: 2, Term: 5})},
			{name + ", a vote by force", r, message(forced(ends(comes(api.MsgVote, 2, 5), 4, 3))), over(0), with(hard, api.Msg{Kind: api.MsgVoteYes, To: 2, Term: 5})},
			{name + ", a vote for one", r, message(yes(comes(api.MsgVoteYes, 2, 5))), over(0), hard},
			{name + ", a vote against one", r, message(comes(api.MsgVoteYes, 2, 5)), over(0), hard},
			{name + ", an answer", r, message(ends(yes(comes(api.MsgAck, 2, 5)), 5, 0)), over(0), hard},
			{name + ", a leader that was refused", r, message(comes(api.MsgAck, 2, 5)), over(0), hard},
			{name + ", entries", r, message(ends(comes(api.MsgAppend, 2, 5), 9, 9)), over(2), with(hard, acks(2, 5, 5, 0, false))},
			{name + ", a snapshot", r, message(ends(comes(api.MsgSnap, 2, 5), 9, 9)), over(2), hard},
		})
		candidate := func(r *api.Raft) { stands(r, 6) }
		held(t, []turn{
			{name + ", it shall stand", r, message(comes(api.MsgNow, 2, 5)), candidate, api.Out{Hard: true, Lost: lost, Msgs: asks(api.MsgVote, 6, true)}},
			{name + ", a vote ahead that is granted", late, message(ends(comes(api.MsgPre, 2, 5), 5, 3)), nil, says(yes(api.Msg{Kind: api.MsgPreYes, To: 2, Term: 5}))},
			{name + ", a vote ahead that is not", late, message(ends(comes(api.MsgPre, 2, 5), 4, 3)), nil, says(api.Msg{Kind: api.MsgPreYes, To: 2, Term: 3})},
			{name + ", a vote ahead against one", r, message(comes(api.MsgPreYes, 2, 5)), over(0), hard},
			{name + ", a vote ahead of another term", r, message(yes(comes(api.MsgPreYes, 2, 5))), nil, api.Out{}},
		})
	}
}

func TestElderTerms(t *testing.T) {
	for i, r := range roles() {
		name := "role " + strconv.Itoa(i) + ", kind "
		for _, kind := range kinds() {
			var out api.Out
			switch kind {
			case api.MsgAppend, api.MsgSnap:
				out = says(api.Msg{Kind: api.MsgAck, To: 2, Term: 3})
			case api.MsgPre:
				out = says(api.Msg{Kind: api.MsgPreYes, To: 2, Term: 3})
			}
			for _, term := range []uint64{0, 2} {
				m := full(kind)
				m.Term = term
				held(t, []turn{{name + strconv.Itoa(int(kind)), r, message(m), nil, out}})
			}
		}
	}
}

// limits are the ends of logs that a candidate may have, and whether these are behind node's.
func limits() map[[2]uint64]bool {
	return map[[2]uint64]bool{
		{5, 3}: false, {6, 3}: false, {0, 4}: false, {1, 4}: false, {9, 9}: false,
		{4, 3}: true, {0, 3}: true, {5, 2}: true, {99, 2}: true, {0, 0}: true,
	}
}

func TestVotesAhead(t *testing.T) {
	answer := func(term uint64, ok bool) api.Out {
		return says(api.Msg{Kind: api.MsgPreYes, To: 2, Term: term, Ok: ok})
	}
	free := func(r *api.Raft) { r.Lead = 0 }
	for at, behind := range limits() {
		m := ends(comes(api.MsgPre, 2, 4), at[0], at[1])
		term := uint64(4)
		if behind {
			term = 3
		}
		held(t, []turn{
			{"nobody leads", node(free), message(m), nil, answer(term, !behind)},
			{"by force", node(), message(forced(m)), nil, answer(term, !behind)},
		})
	}
	m := ends(comes(api.MsgPre, 2, 4), 5, 3)
	now := ends(comes(api.MsgPre, 2, 3), 5, 3)
	held(t, []turn{
		{"one leads", node(), message(m), nil, answer(3, false)},
		{"one leads, just", node(func(r *api.Raft) { r.Elapsed = 9 }), message(m), nil, answer(3, false)},
		{"one led", node(func(r *api.Raft) { r.Elapsed = 10 }), message(m), nil, answer(4, true)},
		{"one led, who would still have time", node(func(r *api.Raft) { r.Elapsed, r.Timeout = 10, 19 }), message(m), nil, answer(4, true)},
		{"it leads itself", leader(), message(m), nil, answer(3, false)},
		{"it leads itself, by force", leader(), message(forced(m)), nil, answer(4, true)},
		{"of this term", node(free), message(now), nil, answer(3, false)},
		{"of this term, by force", node(free), message(forced(now)), nil, answer(3, false)},
		{"of a far term", node(free), message(ends(comes(api.MsgPre, 2, told-1), 5, 3)), nil, answer(told-1, true)},
		{"it has voted", node(free, func(r *api.Raft) { r.Vote = 3 }), message(m), nil, answer(4, true)},
		{"of a log that is in the snapshot", short(free, func(r *api.Raft) { r.Role, r.Log, r.Commit, r.Peers = 0, nil, 3, nil }), message(ends(m, 3, 2)), nil, answer(4, true)},
		{"of a log behind the snapshot", short(free, func(r *api.Raft) { r.Role, r.Log, r.Commit, r.Peers = 0, nil, 3, nil }), message(ends(m, 2, 2)), nil, answer(3, false)},
	})
}

func TestVotesAheadThatCome(t *testing.T) {
	prepared := func(votes ...int) func(*api.Raft) {
		return func(r *api.Raft) { r.Role, r.Lead, r.Votes = api.Preparing, 0, votes }
	}
	m := yes(comes(api.MsgPreYes, 2, 4))
	candidate := func(r *api.Raft) { stands(r, 4) }
	five := func(r *api.Raft) { r.BaseConf = voters(1, 2, 3, 4, 5) }
	stood := api.Out{Hard: true, Msgs: asks(api.MsgVote, 4, false)}
	held(t, []turn{
		{"a majority", node(prepared(1)), message(m), candidate, stood},
		{"a majority, readings are lost", node(prepared(1), func(r *api.Raft) { r.Readings, r.Target = waiting(), 2 }), message(m), candidate, api.Out{Hard: true, Msgs: stood.Msgs, Lost: []uint64{11, 12}}},
		{"a majority that there was", node(prepared(1, 3)), message(yes(comes(api.MsgPreYes, 9, 4))), candidate, stood},
		{"it is none yet", node(prepared(1), five), message(m), prepared(1, 2), api.Out{}},
		{"one comes twice", node(prepared(1, 2), five), message(m), nil, api.Out{}},
		{"one that does not vote", node(prepared(1)), message(yes(comes(api.MsgPreYes, 9, 4))), prepared(1, 9), api.Out{}},
		{"of this term", node(prepared(1)), message(yes(comes(api.MsgPreYes, 2, 3))), nil, api.Out{}},
		{"of a later term", node(prepared(1)), message(yes(comes(api.MsgPreYes, 2, 5))), nil, api.Out{}},
		{"against it, in this term", node(prepared(1)), message(comes(api.MsgPreYes, 2, 3)), nil, api.Out{}},
		{"against it, in the next term", node(prepared(1)), message(comes(api.MsgPreYes, 2, 4)), func(r *api.Raft) { follows(r, 4, 0) }, api.Out{Hard: true}},
		{"of a follower", node(), message(m), nil, api.Out{}},
		{"of a candidate", node(func(r *api.Raft) { r.Role, r.Votes = api.Candidate, []int{1} }), message(m), nil, api.Out{}},
		{"of a leader", leader(), message(m), nil, api.Out{}},
	})
}

func TestVotes(t *testing.T) {
	answer := func(ok bool, hard bool) api.Out {
		o := says(api.Msg{Kind: api.MsgVoteYes, To: 2, Term: 3, Ok: ok})
		o.Hard = hard
		return o
	}
	free := func(r *api.Raft) { r.Lead = 0 }
	voted := func(id int) func(*api.Raft) {
		return func(r *api.Raft) { r.Vote = id }
	}
	granted := func(r *api.Raft) { r.Vote, r.Elapsed = 2, 0 }
	for at, behind := range limits() {
		m := ends(comes(api.MsgVote, 2, 3), at[0], at[1])
		row := turn{"free", node(free), message(m), granted, answer(true, true)}
		if behind {
			row.behind, row.out = nil, answer(false, false)
		}
		held(t, []turn{row})
		row.name, row.in = "by force", message(forced(m))
		held(t, []turn{row})
	}
	m := message(ends(comes(api.MsgVote, 2, 3), 5, 3))
	brief := message(ends(comes(api.MsgVote, 2, 3), 4, 3))
	later := ends(comes(api.MsgVote, 2, 4), 5, 3)
	follower := func(r *api.Raft) {
		follows(r, 4, 0)
		r.Vote = 2
	}
	late := answer(true, true)
	late.Msgs[0].Term = 4
	held(t, []turn{
		{"for the same again", node(free, voted(2)), m, granted, answer(true, false)},
		{"for the same, which leads", node(voted(2)), m, granted, answer(true, false)},
		{"for the same, which is behind", node(free, voted(2)), brief, nil, answer(false, false)},
		{"for another", node(free, voted(3)), m, nil, answer(false, false)},
		{"for itself", node(free, voted(1)), m, nil, answer(false, false)},
		{"one leads", node(), m, nil, answer(false, false)},
		{"one leads, late", node(func(r *api.Raft) { r.Elapsed = 99 }), m, nil, answer(false, false)},
		{"a leader", leader(), m, nil, answer(false, false)},
		{"a later term, one leads", node(), message(later), nil, api.Out{}},
		{"a later term, one leads, just", node(func(r *api.Raft) { r.Elapsed = 9 }), message(later), nil, api.Out{}},
		{"a later term, it leads itself", leader(), message(later), nil, api.Out{}},
		{"a later term, one led", node(func(r *api.Raft) { r.Elapsed = 10 }), message(later), follower, late},
		{"a later term, nobody leads", node(free), message(later), follower, late},
		{"a later term, by force", node(voted(3)), message(forced(later)), follower, late},
		{"a later term, by force, it leads itself", leader(), message(forced(later)), follower, late},
		{"a later term, one led, behind", node(func(r *api.Raft) { r.Elapsed = 10 }), message(ends(later, 4, 3)), func(r *api.Raft) { follows(r, 4, 0) }, api.Out{
			Hard: true, Msgs: []api.Msg{{Kind: api.MsgVoteYes, From: 1, To: 2, Term: 4}},
		}},
	})
}

func TestVotesThatCome(t *testing.T) {
	stood := func(votes ...int) func(*api.Raft) {
		return func(r *api.Raft) { r.Role, r.Lead, r.Vote, r.Votes = api.Candidate, 0, 1, votes }
	}
	// Node 2 comes last in this configuration, and a learner has its place among the peers.
	wide := func(r *api.Raft) {
		r.Log[4] = changes(5, 3, api.Conf{Voters: []int{1, 3, 9}, Learners: []int{2, 10}})
	}
	first := []api.Entry{none(6, 3)}
	led := func(r *api.Raft, others ...int) {
		r.Role, r.Lead, r.Elapsed, r.Votes = api.Leader, 1, 0, nil
		r.Log = append(r.Log, none(6, 3))
		r.Peers = []api.Peer{mine(6)}
		for _, id := range others {
			r.Peers = append(r.Peers, api.Peer{ID: id, Next: 7})
		}
	}
	tells := func(others ...int) []api.Msg {
		var msgs []api.Msg
		for _, id := range others {
			m := appends(id, 5, 3, 2, none(6, 3))
			msgs = append(msgs, m)
		}
		return msgs
	}
	m := yes(comes(api.MsgVoteYes, 2, 3))
	five := func(r *api.Raft) { r.BaseConf = voters(1, 2, 3, 4, 5) }
	held(t, []turn{
		{"a majority", node(stood(1)), message(m), func(r *api.Raft) { led(r, 2, 3) }, api.Out{Added: first, Msgs: tells(2, 3)}},
		{"a majority that there was", node(stood(1, 3)), message(yes(comes(api.MsgVoteYes, 9, 3))), func(r *api.Raft) { led(r, 2, 3) }, api.Out{Added: first, Msgs: tells(2, 3)}},
		{"with learners", node(stood(1, 2, 9), wide), message(yes(comes(api.MsgVoteYes, 3, 3))), func(r *api.Raft) { led(r, 2, 3, 9, 10) }, api.Out{Added: first, Msgs: tells(2, 3, 9, 10)}},
		{"peers are new, the rest stays", node(stood(1), busy, func(r *api.Raft) { r.Votes = []int{1} }), message(m), func(r *api.Raft) { led(r, 2, 3) }, api.Out{Added: first, Msgs: tells(2, 3)}},
		{"it is none yet", node(stood(1), five), message(m), func(r *api.Raft) { r.Votes = []int{1, 2} }, api.Out{}},
		{"one comes twice", node(stood(1, 2), five), message(m), nil, api.Out{}},
		{"one that does not vote", node(stood(1)), message(yes(comes(api.MsgVoteYes, 9, 3))), func(r *api.Raft) { r.Votes = []int{1, 9} }, api.Out{}},
		{"against it", node(stood(1)), message(comes(api.MsgVoteYes, 2, 3)), nil, api.Out{}},
		{"of a follower", node(), message(m), nil, api.Out{}},
		{"of one that prepares", node(func(r *api.Raft) { r.Role, r.Votes = api.Preparing, []int{1} }), message(m), nil, api.Out{}},
		{"of a leader", leader(), message(m), nil, api.Out{}},
	})
	// A leader that is out of its configuration has no peer that is itself.
	held(t, []turn{{"out of the voters", node(stood(2), func(r *api.Raft) { r.BaseConf = voters(2, 3) }), message(yes(comes(api.MsgVoteYes, 3, 3))), func(r *api.Raft) {
		led(r)
		r.Peers = []api.Peer{{ID: 2, Next: 7}, {ID: 3, Next: 7}}
	}, api.Out{Added: first, Msgs: tells(2, 3)}}})
}

func TestEntriesThatCome(t *testing.T) {
	three := func(r *api.Raft) { follows(r, 3, 3) }
	// takes is that the log ends at an index, goes on with a row, and is committed up to another.
	takes := func(keep int, commit uint64, row ...api.Entry) func(*api.Raft) {
		return func(r *api.Raft) {
			three(r)
			r.Log = append(r.Log[:keep], row...)
			r.Commit = commit
		}
	}
	out := func(index uint64, o api.Out) api.Out {
		o.Msgs = says(acks(3, 3, index, 8, true)).Msgs
		return o
	}
	other := changes(5, 3, voters(1, 4))
	held(t, []turn{
		{"none", node(), message(leads(5, 3, 0)), three, out(5, api.Out{})},
		{"none, and more is committed", node(), message(leads(5, 3, 4)), takes(5, 4), out(5, api.Out{Apply: entries(3, 2, 3)})},
		{"none, all is committed", node(), message(leads(5, 3, 9)), takes(5, 5), out(5, api.Out{Apply: entries(3, 2, 3, 3)})},
		{"none, behind one amid", node(), message(leads(3, 2, 9)), takes(5, 3), out(3, api.Out{Apply: entries(3, 2)})},
		{"none, behind the last committed", node(), message(leads(2, 1, 9)), three, out(2, api.Out{})},
		{"the greatest number is committed", node(), message(leads(4, 3, math.MaxUint64)), takes(5, 4), out(4, api.Out{Apply: entries(3, 2, 3)})},
		{"less is committed", node(), message(leads(5, 3, 1)), three, out(5, api.Out{})},
		{"new ones", node(), message(leads(5, 3, 2, entries(6, 3, 3)...)), takes(5, 2, entries(6, 3, 3)...), out(7, api.Out{Added: entries(6, 3, 3)})},
		{"new ones that are committed", node(), message(leads(5, 3, 6, entries(6, 3, 3)...)), takes(5, 6, entries(6, 3, 3)...), out(7, api.Out{Added: entries(6, 3, 3), Apply: entries(3, 2, 3, 3, 3)})},
		{"some that are there", node(), message(leads(3, 2, 3, entries(4, 3)...)), takes(5, 3), out(4, api.Out{Apply: entries(3, 2)})},
		{"some that are there, all committed", node(), message(leads(3, 2, 9, entries(4, 3)...)), takes(5, 4), out(4, api.Out{Apply: entries(3, 2, 3)})},
		{"all that are there", node(), message(leads(2, 1, 2, entries(3, 2, 3, 3)...)), three, out(5, api.Out{})},
		{"some that are there, and new ones", node(), message(leads(3, 2, 2, entries(4, 3, 3, 3)...)), takes(5, 2, entry(6, 3)), out(6, api.Out{Added: entries(6, 3)})},
		{"others than there are", node(), message(leads(2, 1, 2, entries(3, 3, 3)...)), takes(2, 2, entries(3, 3, 3)...), out(4, api.Out{Cut: 3, Added: entries(3, 3, 3)})},
		{"another last one", node(func(r *api.Raft) { r.Log[4].Term, r.Log[3].Term = 2, 2 }), message(leads(3, 2, 4, entry(4, 2), other)), func(r *api.Raft) {
			three(r)
			r.Log[4] = other
			r.Commit = 4
		}, out(5, api.Out{Cut: 5, Added: []api.Entry{other}, Apply: []api.Entry{{Index: 3, Term: 2, Kind: api.EntCmd, Cmd: command(302)}, {Index: 4, Term: 2, Kind: api.EntCmd, Cmd: command(403)}}})},
		{"others that are committed at once", node(), message(leads(2, 1, 4, entries(3, 3, 3)...)), takes(2, 4, entries(3, 3, 3)...), out(4, api.Out{Cut: 3, Added: entries(3, 3, 3), Apply: entries(3, 3, 3)})},
		{"others than are committed", node(func(r *api.Raft) { r.Commit = 3 }), message(leads(3, 2, 9, entries(4, 3)...)), takes(5, 4), out(4, api.Out{Apply: entries(4, 3)})},
		{"one committed is another", node(func(r *api.Raft) { r.Commit, r.BaseTerm = 0, 0 }), message(leads(0, 0, 1, entries(1, 2, 3)...)), takes(0, 1, entries(1, 2, 3)...), out(2, api.Out{Cut: 1, Added: entries(1, 2, 3), Apply: entries(1, 2)})},
		{"behind the base", short(func(r *api.Raft) { r.Role, r.Commit = 0, 3 }), message(leads(3, 2, 4, entries(4, 3)...)), takes(2, 4), out(4, api.Out{Apply: entries(4, 3)})},
		{"of an empty log", short(func(r *api.Raft) { r.Role, r.Commit, r.Log, r.Peers = 0, 3, nil, nil }), message(leads(3, 2, 4, entries(4, 3, 3)...)), takes(0, 4, entries(4, 3, 3)...), out(5, api.Out{Added: entries(4, 3, 3), Apply: entries(4, 3)})},
		{"more than sixteen", node(), message(leads(5, 3, 2, many(6, 40, 3)...)), takes(5, 2, many(6, 40, 3)...), out(45, api.Out{Added: many(6, 40, 3)})},
		{"of all kinds", node(), message(leads(5, 3, 8, none(6, 3), changes(7, 3, voters(4)), api.Entry{Index: 8, Term: 3, Kind: 9})), takes(5, 8, none(6, 3), changes(7, 3, voters(4)), api.Entry{Index: 8, Term: 3, Kind: 9}),
			out(8, api.Out{Added: []api.Entry{none(6, 3), changes(7, 3, voters(4)), {Index: 8, Term: 3, Kind: 9}}, Apply: slices.Concat(entries(3, 2, 3, 3), []api.Entry{none(6, 3), changes(7, 3, voters(4)), {Index: 8, Term: 3, Kind: 9}})})},
	})
	for _, role := range []api.Role{api.Preparing, api.Candidate} {
		held(t, []turn{{"of role " + strconv.Itoa(int(role)), node(busy, func(r *api.Raft) { r.Role, r.Lead, r.Vote = role, 0, 1 }), message(leads(5, 3, 0)), three, out(5, api.Out{Lost: []uint64{11, 12}})}})
	}
	held(t, []turn{{"of a leader", leader(), message(leads(5, 3, 9, entries(6, 3)...)), nil, api.Out{}}})
}

func TestEntriesThatDoNotFit(t *testing.T) {
	three := func(r *api.Raft) { follows(r, 3, 3) }
	refused := func(index uint64) api.Out { return says(acks(3, 3, index, 8, false)) }
	committed := func(index uint64) api.Out { return says(acks(3, 3, index, 8, true)) }
	held(t, []turn{
		{"behind the end", node(), message(leads(6, 3, 9, entries(7, 3)...)), three, refused(5)},
		{"far behind the end", node(), message(leads(99, 3, 9)), three, refused(5)},
		{"another term at the end", node(), message(leads(5, 2, 9)), three, refused(4)},
		{"another term amid", node(), message(leads(3, 1, 9)), three, refused(2)},
		{"another term at what is committed", node(), message(leads(2, 2, 9)), three, refused(1)},
		{"a term of none behind the end", node(), message(leads(6, 0, 9)), three, refused(5)},
		{"another term at 0", node(func(r *api.Raft) { r.Commit = 0 }), message(leads(0, 1, 9)), three, refused(5)},
		{"another term at 0, of nothing", node(func(r *api.Raft) { r.Commit, r.Log = 0, nil }), message(leads(0, 1, 9)), three, refused(0)},
		{"another term at 1", node(func(r *api.Raft) { r.Commit = 0 }), message(leads(1, 2, 9)), three, refused(0)},
		{"another term at the base", short(func(r *api.Raft) { r.Role, r.Commit = 0, 3 }), message(leads(3, 1, 9)), three, refused(2)},
		{"behind the end of an empty log", short(func(r *api.Raft) { r.Role, r.Commit, r.Log, r.Peers = 0, 3, nil, nil }), message(leads(4, 2, 9)), three, refused(3)},
		{"ahead of what is committed", node(), message(leads(1, 1, 9, entries(2, 1, 2)...)), three, committed(2)},
		{"ahead of what is committed, of another term", node(), message(leads(1, 7, 9, entries(2, 1, 2)...)), three, committed(2)},
		{"ahead of what is committed, at 0", node(), message(leads(0, 0, 9)), three, committed(2)},
		{"ahead of the base", short(func(r *api.Raft) { r.Role = 0 }), message(leads(2, 1, 9)), three, committed(4)},
	})
	// Of these nothing more than to follow comes.
	for name, row := range map[string][]api.Entry{
		"a gap":                               entries(7, 3),
		"a gap amid":                          {entry(6, 3), entry(8, 3)},
		"an index twice":                      {entry(6, 3), entry(6, 3)},
		"indices fall":                        {entry(6, 3), entry(5, 3)},
		"the one ahead again":                 entries(5, 3),
		"index 0":                             entries(0, 3),
		"the greatest index":                  entries(math.MaxUint64, 3),
		"a term below the one ahead":          entries(6, 2),
		"terms fall":                          entries(6, 3, 2),
		"a term above the message's":          entries(6, 3, 4),
		"the greatest term":                   entries(6, math.MaxUint64),
		"no voters":                           {changes(6, 3, voters())},
		"a configuration that may not be":     {entry(6, 3), changes(7, 3, voters(2, 1))},
		"one that may not be, then what may":  {changes(6, 3, voters(33)), entry(7, 3)},
		"one who votes and learns":            {changes(6, 3, api.Conf{Voters: []int{1}, Learners: []int{1}})},
		"a configuration, then a term behind": {changes(6, 3, voters(1)), entry(7, 1)},
	} {
		held(t, []turn{
			{name, node(), message(leads(5, 3, 9, row...)), three, api.Out{}},
			{name + ", of one that waits", node(busy), message(leads(5, 3, 9, row...)), three, api.Out{Lost: []uint64{11, 12}}},
		})
	}
	// What is wrong counts also behind entries that are there.
	held(t, []turn{{"wrong behind what is there", node(), message(leads(3, 2, 9, entry(4, 3), entry(5, 3), entry(7, 3))), three, api.Out{}}})
}

func TestAnswersThatRefuse(t *testing.T) {
	no := func(from int, index uint64) api.In {
		return message(ends(comes(api.MsgAck, from, 3), index, 0))
	}
	peer := func(next uint64, match uint64) func(*api.Raft) {
		return func(r *api.Raft) { r.Peers[2] = api.Peer{ID: 3, Next: next, Match: match} }
	}
	heard := func(next uint64, match uint64) func(*api.Raft) {
		return func(r *api.Raft) { r.Peers[2] = api.Peer{ID: 3, Next: next, Match: match, Heard: true} }
	}
	feeds := func(index uint64, logTerm uint64, row ...api.Entry) api.Out {
		return api.Out{Msgs: []api.Msg{appends(3, index, logTerm, 4, row...)}}
	}
	snap := api.Out{Msgs: []api.Msg{{
		Kind: api.MsgSnap, From: 1, To: 3, Term: 3, Index: 3, LogTerm: 2,
		Conf: api.Conf{Voters: []int{1, 2, 3}, Learners: []int{4}}, Data: []byte{7, 8},
	}}}
	held(t, []turn{
		{"back to what it says", leader(peer(6, 0)), no(3, 2), heard(6, 0), feeds(2, 1, entries(3, 2, 3, 3)...)},
		{"back to 0", leader(peer(6, 0)), no(3, 0), heard(6, 0), feeds(0, 0, entries(1, 1, 1, 2, 3, 3)...)},
		{"one back", leader(peer(6, 0)), no(3, 4), heard(6, 0), feeds(4, 3, entries(5, 3)...)},
		{"one back, where it says the end", leader(peer(6, 0)), no(3, 5), heard(6, 0), feeds(4, 3, entries(5, 3)...)},
		{"one back, where it says more", leader(peer(4, 0)), no(3, 5), heard(6, 0), feeds(2, 1, entries(3, 2, 3, 3)...)},
		{"never behind what it has", leader(peer(6, 2)), no(3, 0), heard(6, 2), feeds(2, 1, entries(3, 2, 3, 3)...)},
		{"nor where it has all", leader(peer(6, 5)), no(3, 2), heard(6, 5), feeds(5, 3)},
		{"from the first", leader(peer(1, 0)), no(3, 5), heard(6, 0), feeds(0, 0, entries(1, 1, 1, 2, 3, 3)...)},
		{"next behind match", leader(peer(1, 3)), no(3, 5), heard(6, 3), feeds(3, 2, entries(4, 3, 3)...)},
		{"back into the snapshot", short(peer(6, 0)), no(3, 2), heard(3, 0), snap},
		{"back to the base", short(peer(6, 0)), no(3, 3), heard(6, 0), feeds(3, 2, entries(4, 3, 3)...)},
		{"far ahead", leader(peer(6, 0)), no(3, 6), heard(6, 0), api.Out{}},
		{"the target's, where it has all", leader(peer(6, 5), func(r *api.Raft) { r.Target = 3 }), no(3, 5), heard(6, 5), feeds(5, 3)},
		{"of no peer", leader(), no(9, 2), nil, api.Out{}},
		{"of a follower", node(busy), no(2, 2), nil, api.Out{}},
		{"of a candidate", node(busy, func(r *api.Raft) { r.Role = api.Candidate }), no(2, 2), nil, api.Out{}},
	})
	r := leader(peer(6, 0), func(r *api.Raft) { r.Readings = waiting() })
	held(t, []turn{{"readings wait on", r, no(3, 4), heard(6, 0), feeds(4, 3, entries(5, 3)...)}})
}

func TestAnswers(t *testing.T) {
	ack := func(from int, index uint64, ctx uint64) api.In {
		m := ends(yes(comes(api.MsgAck, from, 3)), index, 0)
		m.Ctx = ctx
		return message(m)
	}
	peers := func(second api.Peer, third api.Peer) func(*api.Raft) {
		return func(r *api.Raft) {
			second.ID, third.ID = 2, 3
			r.Peers[1], r.Peers[2] = second, third
		}
	}
	// The two others have been sent all, and have four entries.
	even := peers(api.Peer{Next: 6, Match: 4}, api.Peer{Next: 6, Match: 4})
	heard := func(match uint64) func(*api.Raft) {
		return peers(api.Peer{Next: 6, Match: match, Heard: true}, api.Peer{Next: 6, Match: 4})
	}
	risen := func(r *api.Raft) {
		heard(5)(r)
		r.Commit = 5
	}
	both := []api.Msg{appends(2, 5, 3, 5), appends(3, 5, 3, 5)}
	last := entries(5, 3)
	three := func(r *api.Raft) { follows(r, 3, 0) }
	out := func(r *api.Raft) { r.BaseConf = voters(2, 3) }
	held(t, []turn{
		{"nothing new", leader(even), ack(2, 4, 0), heard(4), api.Out{}},
		{"less than was known", leader(even), ack(2, 1, 0), heard(4), api.Out{}},
		{"more is committed", leader(even), ack(2, 5, 0), risen, api.Out{Apply: last, Msgs: both}},
		{"far ahead", leader(even), ack(2, 6, 0), heard(4), api.Out{}},
		{"far ahead, of a round", leader(even, func(r *api.Raft) { r.Readings = waiting() }), ack(2, 6, 9), heard(4), api.Out{}},
		{"of no peer", leader(even), ack(9, 5, 9), nil, api.Out{}},
		{"of a follower", node(busy), ack(2, 5, 9), nil, api.Out{}},
		{"of a candidate", node(busy, func(r *api.Raft) { r.Role = api.Candidate }), ack(2, 5, 9), nil, api.Out{}},
		{"what is behind is sent", leader(), ack(3, 3, 0), func(r *api.Raft) {
			r.Peers[2] = api.Peer{ID: 3, Next: 6, Match: 3, Heard: true}
		}, api.Out{Msgs: []api.Msg{appends(3, 3, 2, 4, entries(4, 3, 3)...)}}},
		{"next is behind what is sent", leader(even, func(r *api.Raft) { r.Peers[1].Next = 5 }), ack(2, 4, 0), heard(4), api.Out{Msgs: []api.Msg{appends(2, 4, 3, 4, last...)}}},
		{"of an elder term nothing is committed", leader(even, func(r *api.Raft) { r.Term = 4 }), func() api.In {
			in := ack(2, 5, 0)
			in.Msg.Term = 4
			return in
		}(), heard(5), api.Out{}},
		{"one more committed, one not", leader(func(r *api.Raft) {
			r.Commit = 2
			r.Log = entries(1, 1, 1, 2, 3, 3)
			r.Peers = []api.Peer{mine(5), {ID: 2, Next: 6, Match: 2}, {ID: 3, Next: 6, Match: 2}}
		}), ack(2, 3, 0), func(r *api.Raft) { r.Peers[1].Match, r.Peers[1].Heard = 3, true }, api.Out{}},
		{"what an elder term left is committed with this one's", leader(func(r *api.Raft) {
			r.Commit = 2
			r.Peers = []api.Peer{mine(5), {ID: 2, Next: 6, Match: 2}, {ID: 3, Next: 6, Match: 2}}
		}), ack(2, 4, 0), func(r *api.Raft) {
			r.Peers[1].Match, r.Peers[1].Heard = 4, true
			r.Commit = 4
		}, api.Out{Apply: entries(3, 2, 3), Msgs: []api.Msg{appends(2, 5, 3, 4), appends(3, 5, 3, 4)}}},
		{"committed, then sent by sixteens", leader(func(r *api.Raft) {
			r.Log = many(1, 40, 3)
			r.Peers = []api.Peer{mine(40), {ID: 2, Next: 5, Match: 4}, {ID: 3, Next: 41, Match: 4}}
		}), ack(2, 5, 0), func(r *api.Raft) {
			r.Commit = 5
			r.Peers[1] = api.Peer{ID: 2, Next: 38, Match: 5, Heard: true}
		}, api.Out{Apply: entries(5, 3), Msgs: []api.Msg{appends(2, 5, 3, 5, many(6, 16, 3)...), appends(3, 40, 3, 5), appends(2, 21, 3, 5, many(22, 16, 3)...)}}},
		{"the target has all", leader(even, func(r *api.Raft) { r.Target = 2 }), ack(2, 5, 0), func(r *api.Raft) {
			risen(r)
			r.Target = 2
		}, api.Out{Apply: last, Msgs: append(slices.Clone(both), api.Msg{Kind: api.MsgNow, From: 1, To: 2, Term: 3})}},
		{"the target has not all", leader(func(r *api.Raft) { r.Target = 3 }), ack(3, 4, 0), func(r *api.Raft) {
			r.Peers[2] = api.Peer{ID: 3, Next: 6, Match: 4, Heard: true}
			r.Target = 3
		}, api.Out{Msgs: []api.Msg{appends(3, 4, 3, 4, last...)}}},
		{"another than the target has all", leader(even, func(r *api.Raft) { r.Target = 3 }), ack(2, 5, 0), func(r *api.Raft) {
			risen(r)
			r.Target = 3
		}, api.Out{Apply: last, Msgs: both}},
		{"the target had all", leader(even, func(r *api.Raft) {
			r.Target, r.Commit, r.Peers[1].Match = 2, 5, 5
		}), ack(2, 1, 0), func(r *api.Raft) { r.Peers[1].Heard = true }, api.Out{Msgs: []api.Msg{{Kind: api.MsgNow, From: 1, To: 2, Term: 3}}}},
		{"out of the voters, all of the configuration is committed", leader(even, out, func(r *api.Raft) {
			r.Peers, r.Readings, r.Target = r.Peers[1:], waiting(), 2
			r.Peers[1].Match = 5
		}), ack(2, 5, 9), func(r *api.Raft) {
			three(r)
			r.Commit = 5
		}, api.Out{Apply: last, Msgs: both, Lost: []uint64{11, 12}}},
		{"out of the voters, to one that lacks much", leader(out, func(r *api.Raft) {
			r.Log = many(1, 60, 3)
			r.Peers = []api.Peer{{ID: 2, Next: 6, Match: 4}, {ID: 3, Next: 61, Match: 5}}
		}), ack(2, 5, 0), func(r *api.Raft) {
			three(r)
			r.Commit = 5
		}, api.Out{Apply: last, Msgs: []api.Msg{appends(2, 5, 3, 5, many(6, 16, 3)...), appends(3, 60, 3, 5)}}},
		{"out of the voters, by the entry that is committed", leader(even, func(r *api.Raft) {
			r.Log[4] = changes(5, 3, voters(2, 3))
			r.Peers = r.Peers[1:]
			r.Peers[1].Match = 5
		}), ack(2, 5, 0), func(r *api.Raft) {
			three(r)
			r.Commit = 5
		}, api.Out{Apply: []api.Entry{changes(5, 3, voters(2, 3))}, Msgs: both}},
		{"out of the voters, by an entry behind", leader(func(r *api.Raft) {
			r.Log = append(r.Log, changes(6, 3, voters(2, 3)))
			r.Peers = []api.Peer{{ID: 2, Next: 7, Match: 4}, {ID: 3, Next: 7, Match: 5}}
		}), ack(2, 5, 0), func(r *api.Raft) {
			r.Commit = 5
			r.Peers[0].Match, r.Peers[0].Heard = 5, true
		}, api.Out{Apply: last, Msgs: []api.Msg{
			{Kind: api.MsgAppend, From: 1, To: 2, Term: 3, Index: 6, LogTerm: 3, Commit: 5, Ctx: 6},
			{Kind: api.MsgAppend, From: 1, To: 3, Term: 3, Index: 6, LogTerm: 3, Commit: 5, Ctx: 6},
		}}},
		{"out of the voters, nothing new is committed", leader(even, out, func(r *api.Raft) { r.Peers = r.Peers[1:] }), ack(2, 4, 0), func(r *api.Raft) { r.Peers[0].Heard = true }, api.Out{}},
		{"a leader that learns goes on", leader(even, func(r *api.Raft) {
			r.BaseConf = api.Conf{Voters: []int{2, 3}, Learners: []int{1}}
			r.Peers[2].Match = 5
		}), ack(2, 5, 0), func(r *api.Raft) {
			r.Commit = 5
			r.Peers[1].Match, r.Peers[1].Heard = 5, true
		}, api.Out{Apply: last, Msgs: both}},
	})
}

func TestAnswersToReadings(t *testing.T) {
	ack := func(from int, ctx uint64) api.In {
		m := ends(yes(comes(api.MsgAck, from, 3)), 4, 0)
		m.Ctx = ctx
		return message(m)
	}
	reading := func(id uint64, ctx uint64, acks ...int) api.Reading {
		return api.Reading{ID: id, Index: 3, Ctx: ctx, Acks: acks}
	}
	of := func(c api.Conf, row ...api.Reading) func(*api.Raft) {
		return func(r *api.Raft) {
			r.BaseConf, r.Readings = c, row
			r.Peers = []api.Peer{mine(5), {ID: 2, Next: 6, Match: 4}, {ID: 3, Next: 6, Match: 4}}
		}
	}
	left := func(place int, row ...api.Reading) func(*api.Raft) {
		return func(r *api.Raft) {
			r.Readings = row
			r.Peers[place].Heard = true
		}
	}
	three, five := voters(1, 2, 3), voters(1, 2, 3, 4, 5)
	held(t, []turn{
		{"of an elder round", leader(of(three, reading(1, 5, 1))), ack(2, 4), left(1, reading(1, 5, 1)), api.Out{}},
		{"of its round", leader(of(three, reading(1, 5, 1))), ack(2, 5), left(1), api.Out{Ready: []api.Reading{reading(1, 5, 1, 2)}}},
		{"of a later round", leader(of(three, reading(1, 5, 1))), ack(3, 6), left(2), api.Out{Ready: []api.Reading{reading(1, 5, 1, 3)}}},
		{"of some, in order", leader(of(three, reading(3, 6, 1), reading(2, 4, 1), reading(7, 7, 1), reading(1, 5, 1))), ack(2, 6), left(1, reading(7, 7, 1)),
			api.Out{Ready: []api.Reading{reading(3, 6, 1, 2), reading(2, 4, 1, 2), reading(1, 5, 1, 2)}}},
		{"it is no majority yet", leader(of(five, reading(1, 5, 1))), ack(2, 5), left(1, reading(1, 5, 1, 2)), api.Out{}},
		{"one comes twice", leader(of(five, reading(1, 5, 1, 2))), ack(2, 5), left(1, reading(1, 5, 1, 2)), api.Out{}},
		{"a majority of five", leader(of(five, reading(1, 5, 1, 2), reading(2, 5, 1))), ack(3, 5), left(2, reading(2, 5, 1, 3)), api.Out{Ready: []api.Reading{reading(1, 5, 1, 2, 3)}}},
		{"a learner", leader(of(api.Conf{Voters: []int{1, 2}, Learners: []int{3}}, reading(1, 5, 1))), ack(3, 5), left(2, reading(1, 5, 1, 3)), api.Out{}},
		{"the greatest round", leader(of(three, reading(1, math.MaxUint64, 1))), ack(2, math.MaxUint64), left(1), api.Out{Ready: []api.Reading{reading(1, math.MaxUint64, 1, 2)}}},
	})
}

func TestSnapshotsThatCome(t *testing.T) {
	wide := api.Conf{Voters: []int{2, 3}, Learners: []int{1}}
	snap := func(index uint64, logTerm uint64, c api.Conf) api.Msg {
		m := ends(comes(api.MsgSnap, 3, 3), index, logTerm)
		// A snapshot has no round, whatever stands there.
		m.Conf, m.Data, m.Ctx, m.Commit, m.Entries = c, []byte{9, 9}, 8, 77, entries(index+1, 3)
		return m
	}
	three := func(r *api.Raft) { follows(r, 3, 3) }
	there := func(commit uint64) func(*api.Raft) {
		return func(r *api.Raft) {
			three(r)
			r.Commit = commit
		}
	}
	restored := func(index uint64, logTerm uint64) func(*api.Raft) {
		return func(r *api.Raft) {
			three(r)
			r.Base, r.BaseTerm, r.BaseConf, r.Snap, r.Log, r.Commit = index, logTerm, wide, []byte{9, 9}, nil, index
		}
	}
	done := func(index uint64, o api.Out) api.Out {
		o.Msgs = says(acks(3, 3, index, 0, true)).Msgs
		return o
	}
	fresh := api.Out{Snap: true, Restored: true}
	base := short(func(r *api.Raft) { r.Role, r.Commit = 0, 3 })
	nothing := snap(9, 3, wide)
	nothing.Data = nil
	held(t, []turn{
		{"behind the log", node(), message(snap(9, 3, wide)), restored(9, 3), done(9, fresh)},
		{"just behind the log", node(), message(snap(6, 3, wide)), restored(6, 3), done(6, fresh)},
		{"of another term amid", node(), message(snap(4, 2, wide)), restored(4, 2), done(4, fresh)},
		{"of another term at the end", node(), message(snap(5, 2, wide)), restored(5, 2), done(5, fresh)},
		{"of a new node", node(func(r *api.Raft) { r.Log, r.Commit = nil, 0 }), message(snap(1, 0, wide)), restored(1, 0), done(1, fresh)},
		{"behind another", base, message(snap(9, 2, wide)), restored(9, 2), done(9, fresh)},
		{"without data", base, message(nothing), func(r *api.Raft) {
			restored(9, 3)(r)
			r.Snap = nil
		}, done(9, fresh)},
		{"of what is there", node(), message(snap(4, 3, wide)), there(4), done(4, api.Out{Apply: entries(3, 2, 3)})},
		{"of all that is there", node(), message(snap(5, 3, wide)), there(5), done(5, api.Out{Apply: entries(3, 2, 3, 3)})},
		{"of the first that is not committed", node(), message(snap(3, 2, wide)), there(3), done(3, api.Out{Apply: entries(3, 2)})},
		{"of what is committed", node(), message(snap(2, 1, wide)), three, done(2, api.Out{})},
		{"of less than is committed", node(), message(snap(1, 1, wide)), three, done(2, api.Out{})},
		{"of what is committed, of another term", node(), message(snap(2, 3, wide)), three, done(2, api.Out{})},
		{"of nothing", node(), message(snap(0, 0, wide)), three, done(2, api.Out{})},
		{"of what is committed, without voters", node(), message(snap(2, 1, voters())), three, done(2, api.Out{})},
		{"without voters", node(), message(snap(9, 3, voters())), three, api.Out{}},
		{"of what is there, without voters", node(), message(snap(4, 3, voters())), three, api.Out{}},
		{"of a configuration that may not be", node(), message(snap(9, 3, voters(3, 2))), three, api.Out{}},
		{"of a term above the message's", node(), message(snap(9, 4, wide)), three, api.Out{}},
		{"of the greatest term", node(), message(snap(9, math.MaxUint64, wide)), three, api.Out{}},
		{"of a term below the base's", base, message(snap(9, 1, wide)), three, api.Out{}},
		{"of one that waits", node(busy), message(snap(9, 4, wide)), three, api.Out{Lost: []uint64{11, 12}}},
		{"of a leader", leader(), message(snap(9, 3, wide)), nil, api.Out{}},
	})
	for _, role := range []api.Role{api.Preparing, api.Candidate} {
		held(t, []turn{{"of role " + strconv.Itoa(int(role)), node(busy, func(r *api.Raft) { r.Role, r.Lead = role, 0 }), message(snap(9, 3, wide)), restored(9, 3), done(9, api.Out{Snap: true, Restored: true, Lost: []uint64{11, 12}})}})
	}
	later := snap(9, 4, wide)
	later.Term = 4
	held(t, []turn{{"of a later term", node(func(r *api.Raft) { r.Vote = 2 }), message(later), func(r *api.Raft) {
		follows(r, 4, 3)
		r.Base, r.BaseTerm, r.BaseConf, r.Snap, r.Log, r.Commit = 9, 4, wide, []byte{9, 9}, nil, 9
	}, api.Out{Hard: true, Snap: true, Restored: true, Msgs: []api.Msg{{Kind: api.MsgAck, From: 1, To: 3, Term: 4, Index: 9, Ok: true}}}}})
}

func TestAWishThatItStands(t *testing.T) {
	m := message(comes(api.MsgNow, 2, 3))
	candidate := func(r *api.Raft) { stands(r, 4) }
	out := api.Out{Hard: true, Msgs: asks(api.MsgVote, 4, true)}
	held(t, []turn{
		{"a follower", node(), m, candidate, out},
		{"one that has voted", node(func(r *api.Raft) { r.Vote = 3 }), m, candidate, out},
		{"one that prepares", node(func(r *api.Raft) { r.Role, r.Lead, r.Votes = api.Preparing, 0, []int{1, 2} }), m, candidate, out},
		{"a candidate", node(func(r *api.Raft) { r.Role, r.Lead, r.Vote, r.Votes = api.Candidate, 0, 1, []int{1, 2} }), m, candidate, out},
		{"one that has something under way", node(busy), m, candidate, api.Out{Hard: true, Msgs: out.Msgs, Lost: []uint64{11, 12}}},
		{"a leader", leader(), m, nil, api.Out{}},
		{"a learner", node(func(r *api.Raft) { r.BaseConf = api.Conf{Voters: []int{2, 3}, Learners: []int{1}} }), m, nil, api.Out{}},
		{"nobody", node(func(r *api.Raft) { r.BaseConf = voters(2, 3) }), m, nil, api.Out{}},
		{"nobody, of a later term", node(func(r *api.Raft) { r.BaseConf = voters(2, 3) }), message(comes(api.MsgNow, 2, 4)), func(r *api.Raft) { follows(r, 4, 0) }, api.Out{Hard: true}},
		{"a leader, of a later term", leader(), message(comes(api.MsgNow, 2, 4)), func(r *api.Raft) { stands(r, 5) }, api.Out{Hard: true, Msgs: asks(api.MsgVote, 5, true)}},
		{"the only voter", node(func(r *api.Raft) { r.BaseConf = voters(1) }), m, func(r *api.Raft) {
			stands(r, 4)
			r.Role, r.Lead, r.Votes = api.Leader, 1, nil
			r.Log = append(r.Log, none(6, 4))
			r.Commit, r.Peers = 6, []api.Peer{mine(6)}
		}, api.Out{Hard: true, Added: []api.Entry{none(6, 4)}, Apply: slices.Concat(entries(3, 2, 3, 3), []api.Entry{none(6, 4)})}},
	})
}
