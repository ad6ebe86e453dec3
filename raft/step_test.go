package raft_test

import (
	"math"
	"slices"
	"strconv"
	"testing"

	"buttress/api"
	"buttress/raft"
)

// P13.2: ticks, and what the leader is asked. Node 1 is the one that steps.

// appends is the message with entries behind one of an index and term; of the leader's own states Commit is 4, Ctx 6.
func appends(to int, index uint64, logTerm uint64, commit uint64, row ...api.Entry) api.Msg {
	return api.Msg{Kind: api.MsgAppend, From: 1, To: to, Term: 3, Index: index, LogTerm: logTerm, Commit: commit, Ctx: 6, Entries: row}
}

// fed are what the leader sends to nodes 2 and 3 that have been sent nothing since, with entries behind its log.
func fed(more ...api.Entry) []api.Msg {
	return []api.Msg{
		appends(2, 4, 3, 4, slices.Concat(entries(5, 3), more)...),
		appends(3, 2, 1, 4, slices.Concat(entries(3, 2, 3, 3), more)...),
	}
}

// sent says that nodes 2 and 3 have been sent all up to an index.
func sent(r *api.Raft, index uint64) {
	r.Peers[1].Next, r.Peers[2].Next = index+1, index+1
}

// mine is a leader's peer that is itself, which has all up to an index.
func mine(index uint64) api.Peer {
	return api.Peer{ID: 1, Next: index + 1, Match: index}
}

// alone is such a state of a leader that is the only voter.
func alone(how ...func(*api.Raft)) api.Raft {
	only := func(r *api.Raft) {
		r.BaseConf, r.Peers = voters(1), []api.Peer{mine(5)}
	}
	return leader(append([]func(*api.Raft){only}, how...)...)
}

// follows is what to follow leaves, without chance.
func follows(r *api.Raft, term uint64, lead int) {
	if term != r.Term {
		r.Term, r.Vote = term, 0
	}
	r.Role, r.Lead, r.Elapsed, r.Timeout, r.Target = api.Follower, lead, 0, r.Election, 0
	r.Votes, r.Peers, r.Readings = nil, nil, nil
}

// waiting are readings of which none has a majority of three.
func waiting() []api.Reading {
	return []api.Reading{{ID: 11, Index: 4, Ctx: 5, Acks: []int{1}}, {ID: 12, Index: 4, Ctx: 6, Acks: []int{1}}}
}

// busy is a state with votes, peers, readings and a target, which a follower may have too.
func busy(r *api.Raft) {
	r.Votes, r.Readings, r.Target = []int{3}, waiting(), 2
	r.Peers = []api.Peer{{ID: 2, Next: 3, Match: 1, Heard: true}}
}

func TestExamples(t *testing.T) {
	a, e := raft.New(1, 10, 2, voters(1))
	b, f := raft.New(1, 10, 2, voters(1, 2, 3))
	if e != api.OK || f != api.OK {
		t.Fatal(e, f)
	}
	var o, p api.Out
	for range 10 {
		if a.Role != api.Follower || b.Role != api.Follower {
			t.Error(a, b)
		}
		a, o = raft.Step(a, tick())
		b, p = raft.Step(b, tick())
	}
	want := api.Raft{
		ID: 1, Election: 10, Beat: 2, Term: 1, Vote: 1, BaseConf: voters(1), Log: []api.Entry{none(1, 1)}, Commit: 1,
		Role: api.Leader, Lead: 1, Timeout: 10, Peers: []api.Peer{mine(1)},
	}
	if !alike(a, want) || !alike(o, api.Out{Hard: true, Added: want.Log, Apply: want.Log}) {
		t.Error(a, o)
	}
	want = api.Raft{ID: 1, Election: 10, Beat: 2, BaseConf: voters(1, 2, 3), Role: api.Preparing, Timeout: 10, Votes: []int{1}}
	asks := []api.Msg{{Kind: api.MsgPre, From: 1, To: 2, Term: 1}, {Kind: api.MsgPre, From: 1, To: 3, Term: 1}}
	if !alike(b, want) || !alike(p, api.Out{Msgs: asks}) {
		t.Error(b, p)
	}
}

// asks are the messages by which node 1 asks the nodes 2 and 3 for votes.
func asks(kind api.MsgKind, term uint64, force bool) []api.Msg {
	m := api.Msg{Kind: kind, From: 1, To: 2, Term: term, Index: 5, LogTerm: 3, Force: force}
	n := m
	n.To = 3
	return []api.Msg{m, n}
}

// prepares is what to prepare leaves, without chance.
func prepares(r *api.Raft) {
	r.Role, r.Lead, r.Votes, r.Elapsed, r.Timeout = api.Preparing, 0, []int{1}, 0, 10
}

func TestTicksOfFollowers(t *testing.T) {
	late := func(r *api.Raft) { r.Elapsed = 9 }
	rows := []turn{
		{"time goes by", node(), tick(), func(r *api.Raft) { r.Elapsed = 5 }, api.Out{}},
		{"one ahead of the time", node(func(r *api.Raft) { r.Elapsed = 8 }), tick(), late, api.Out{}},
		{"at the time", node(late), tick(), prepares, api.Out{Msgs: asks(api.MsgPre, 4, false)}},
		{"behind the time", node(func(r *api.Raft) { r.Elapsed = 77 }), tick(), prepares, api.Out{Msgs: asks(api.MsgPre, 4, false)}},
		{"at a time of 0", node(func(r *api.Raft) { r.Elapsed, r.Timeout = 0, 0 }), tick(), prepares, api.Out{Msgs: asks(api.MsgPre, 4, false)}},
		{"at the greatest time", node(func(r *api.Raft) { r.Elapsed, r.Timeout = 1999, 2000 }), tick(), prepares, api.Out{Msgs: asks(api.MsgPre, 4, false)}},
		{"the rest stays", node(late, busy), tick(), prepares, api.Out{Msgs: asks(api.MsgPre, 4, false)}},
		{
			"voters by their ids, from the log",
			node(late, func(r *api.Raft) {
				r.Log[1] = changes(2, 1, api.Conf{Voters: []int{1, 7, 30, 32}, Learners: []int{2}})
			}),
			tick(), prepares,
			api.Out{Msgs: []api.Msg{
				{Kind: api.MsgPre, From: 1, To: 7, Term: 4, Index: 5, LogTerm: 3},
				{Kind: api.MsgPre, From: 1, To: 30, Term: 4, Index: 5, LogTerm: 3},
				{Kind: api.MsgPre, From: 1, To: 32, Term: 4, Index: 5, LogTerm: 3},
			}},
		},
	}
	for _, role := range []api.Role{api.Preparing, api.Candidate} {
		rows = append(rows, turn{
			"again, of role " + strconv.Itoa(int(role)),
			node(late, func(r *api.Raft) { r.Role, r.Lead, r.Vote, r.Votes = role, 0, 1, []int{1, 9} }),
			tick(), prepares, api.Out{Msgs: asks(api.MsgPre, 4, false)},
		})
	}
	for name, c := range map[string]api.Conf{"a learner": {Voters: []int{2, 3}, Learners: []int{1}}, "nobody": voters(2, 3)} {
		other := func(elapsed int) func(*api.Raft) {
			return func(r *api.Raft) { r.BaseConf, r.Elapsed = c, elapsed }
		}
		rows = append(rows,
			turn{name, node(other(9)), tick(), other(10), api.Out{}},
			turn{name + ", late", node(other(1999)), tick(), other(2000), api.Out{}},
			turn{name + ", later", node(other(2000)), tick(), other(2000), api.Out{}},
		)
	}
	held(t, rows)
}

func TestChanceLengthensTimes(t *testing.T) {
	for draw, timeout := range map[int]int{0: 10, 1: 11, 7: 17, 9: 19, 10: 10, 19: 19, -1: 10, -7: 10, math.MinInt: 10, math.MaxInt: 17} {
		late := node(func(r *api.Raft) { r.Elapsed = 9 })
		held(t, []turn{
			{"to prepare", late, drawn(draw, tick()), func(r *api.Raft) {
				prepares(r)
				r.Timeout = timeout
			}, api.Out{Msgs: asks(api.MsgPre, 4, false)}},
			{"to stand", late, drawn(draw, message(api.Msg{Kind: api.MsgNow, From: 2, To: 1, Term: 3})), func(r *api.Raft) {
				stands(r, 4)
				r.Timeout = timeout
			}, api.Out{Hard: true, Msgs: asks(api.MsgVote, 4, true)}},
			{"to follow", late, drawn(draw, message(api.Msg{Kind: api.MsgAck, From: 2, To: 1, Term: 4})), func(r *api.Raft) {
				follows(r, 4, 0)
				r.Timeout = timeout
			}, api.Out{Hard: true}},
		})
	}
	long := func(r *api.Raft) { r.Election, r.Elapsed, r.Timeout = 1000, 1998, 1999 }
	held(t, []turn{{"the longest", node(long), drawn(1999, tick()), func(r *api.Raft) {
		prepares(r)
		r.Timeout = 1999
	}, api.Out{Msgs: asks(api.MsgPre, 4, false)}}})
}

// stands is what to stand leaves, without chance.
func stands(r *api.Raft, term uint64) {
	r.Term, r.Vote, r.Role, r.Lead, r.Votes, r.Elapsed, r.Timeout, r.Target = term, 1, api.Candidate, 0, []int{1}, 0, 10, 0
	r.Readings, r.Peers = nil, nil
}

func TestAVoterAloneLeads(t *testing.T) {
	led := func(r *api.Raft) {
		follows(r, 4, 1)
		r.Vote, r.Role = 1, api.Leader
		r.Log = append(r.Log, none(6, 4))
		r.Commit = 6
		r.Peers = []api.Peer{mine(6)}
	}
	late := func(c api.Conf) func(*api.Raft) {
		return func(r *api.Raft) { r.BaseConf, r.Elapsed = c, 9 }
	}
	all := slices.Concat(entries(3, 2, 3, 3), []api.Entry{none(6, 4)})
	first := api.Msg{Kind: api.MsgAppend, From: 1, To: 4, Term: 4, Index: 5, LogTerm: 3, Commit: 2, Ctx: 6, Entries: []api.Entry{none(6, 4)}}
	then := api.Msg{Kind: api.MsgAppend, From: 1, To: 4, Term: 4, Index: 6, LogTerm: 4, Commit: 6, Ctx: 6}
	held(t, []turn{
		{"without others", node(late(voters(1)), busy), tick(), led, api.Out{Hard: true, Added: []api.Entry{none(6, 4)}, Apply: all, Lost: []uint64{11, 12}}},
		{"with a learner", node(late(api.Conf{Voters: []int{1}, Learners: []int{4}})), tick(), func(r *api.Raft) {
			led(r)
			r.Peers = append(r.Peers, api.Peer{ID: 4, Next: 7})
		}, api.Out{Hard: true, Added: []api.Entry{none(6, 4)}, Apply: all, Msgs: []api.Msg{first, then}}},
	})
}

func TestTicksOfLeaders(t *testing.T) {
	at := func(elapsed int) func(*api.Raft) {
		return func(r *api.Raft) { r.Elapsed = elapsed }
	}
	heard := func(places ...int) func(*api.Raft) {
		return func(r *api.Raft) {
			for _, i := range places {
				r.Peers[i].Heard = true
			}
		}
	}
	asked := func(r *api.Raft) { r.Readings, r.Target = waiting(), 3 }
	odd := func(r *api.Raft) { r.Election = 11 }
	over := func(r *api.Raft) { follows(r, 3, 0) }
	goesOn := func(r *api.Raft) {
		sent(r, 5)
		r.Elapsed, r.Target = 0, 0
		for i := range r.Peers {
			r.Peers[i].Heard = false
		}
	}
	lost := []uint64{11, 12}
	held(t, []turn{
		{"time goes by", leader(), tick(), at(1), api.Out{}},
		{"a beat", leader(at(1)), tick(), func(r *api.Raft) {
			r.Elapsed = 2
			sent(r, 5)
		}, api.Out{Msgs: fed()}},
		{"behind a beat", leader(at(2)), tick(), at(3), api.Out{}},
		{"another beat", leader(at(7), heard(1)), tick(), func(r *api.Raft) {
			r.Elapsed = 8
			sent(r, 5)
		}, api.Out{Msgs: fed()}},
		{"a beat of all that has been sent", leader(at(1), func(r *api.Raft) { sent(r, 5) }), tick(), at(2), api.Out{Msgs: []api.Msg{appends(2, 5, 3, 4), appends(3, 5, 3, 4)}}},
		{"one ahead of the end", leader(at(8), asked), tick(), at(9), api.Out{}},
		{"nobody is heard", leader(at(9), asked), tick(), over, api.Out{Msgs: fed(), Lost: lost}},
		{"only itself is heard", leader(at(9), heard(0)), tick(), over, api.Out{Msgs: fed()}},
		{"one is heard", leader(at(9), asked, heard(2)), tick(), goesOn, api.Out{Msgs: fed()}},
		{"all are heard", leader(at(9), heard(0, 1, 2)), tick(), goesOn, api.Out{Msgs: fed()}},
		{"no beat at the end", leader(at(10), odd, heard(1)), tick(), func(r *api.Raft) {
			goesOn(r)
			sent(r, 2)
			r.Peers[1].Next, r.Peers[2].Next = 5, 3
		}, api.Out{}},
		{"no beat, nobody is heard", leader(at(10), odd, asked), tick(), over, api.Out{Lost: lost}},
		{"far behind the end", leader(at(2000), heard(1)), tick(), goesOn, api.Out{Msgs: fed()}},
		{"alone", alone(at(9)), tick(), at(0), api.Out{}},
		{"out of the voters, one of two is heard", leader(at(9), heard(1), func(r *api.Raft) { r.BaseConf = voters(2, 3) }), tick(), over, api.Out{Msgs: fed()}},
		{"out of the voters, both are heard", leader(at(9), heard(1, 2), func(r *api.Raft) { r.BaseConf = voters(2, 3) }), tick(), goesOn, api.Out{Msgs: fed()}},
		{"a learner is heard", leader(at(9), heard(2), func(r *api.Raft) {
			r.BaseConf = api.Conf{Voters: []int{1, 2}, Learners: []int{3}}
		}), tick(), over, api.Out{Msgs: fed()}},
	})
}

func TestWhatIsSent(t *testing.T) {
	at := func(next uint64, log ...api.Entry) api.Raft {
		return leader(func(r *api.Raft) {
			r.Elapsed = 1
			r.Log = append(r.Log, log...)
			r.Peers = []api.Peer{{ID: 2, Next: next, Match: 1}}
		})
	}
	sends := func(next uint64) func(*api.Raft) {
		return func(r *api.Raft) {
			r.Elapsed = 2
			r.Peers[0].Next = next
		}
	}
	first := entries(1, 1, 1, 2, 3, 3)
	snap := api.Msg{
		Kind: api.MsgSnap, From: 1, To: 2, Term: 3, Index: 3, LogTerm: 2,
		Conf: api.Conf{Voters: []int{1, 2, 3}, Learners: []int{4}}, Data: []byte{7, 8},
	}
	behind := func(next uint64) api.Raft {
		return short(func(r *api.Raft) {
			r.Elapsed = 1
			r.Peers = []api.Peer{{ID: 2, Next: next}}
		})
	}
	held(t, []turn{
		{"all", at(1), tick(), sends(6), api.Out{Msgs: []api.Msg{appends(2, 0, 0, 4, first...)}}},
		{"the last", at(5), tick(), sends(6), api.Out{Msgs: []api.Msg{appends(2, 4, 3, 4, first[4])}}},
		{"none", at(6), tick(), sends(6), api.Out{Msgs: []api.Msg{appends(2, 5, 3, 4)}}},
		{"sixteen of sixteen", at(1, many(6, 11, 3)...), tick(), sends(17), api.Out{Msgs: []api.Msg{appends(2, 0, 0, 4, slices.Concat(first, many(6, 11, 3))...)}}},
		{"sixteen of seventeen", at(1, many(6, 12, 3)...), tick(), sends(17), api.Out{Msgs: []api.Msg{appends(2, 0, 0, 4, slices.Concat(first, many(6, 11, 3))...)}}},
		{"sixteen from further on", at(4, many(6, 40, 3)...), tick(), sends(20), api.Out{Msgs: []api.Msg{appends(2, 3, 2, 4, slices.Concat(first[3:], many(6, 14, 3))...)}}},
		{"behind the base", behind(4), tick(), sends(6), api.Out{Msgs: []api.Msg{appends(2, 3, 2, 4, entries(4, 3, 3)...)}}},
		{"at the base", behind(3), tick(), sends(3), api.Out{Msgs: []api.Msg{snap}}},
		{"ahead of the base", behind(1), tick(), sends(1), api.Out{Msgs: []api.Msg{snap}}},
	})
}

// refuses holds one thing that is asked against the error that it must have, in each state.
func refuses(t *testing.T, in api.In, want api.Errno, states ...api.Raft) {
	t.Helper()
	for i, r := range states {
		held(t, []turn{{"state " + strconv.Itoa(i), r, in, nil, api.Out{Err: want}}})
	}
}

// others are states of nodes that do not lead; all else would do.
func others() []api.Raft {
	var row []api.Raft
	for role := api.Follower; role < api.Leader; role++ {
		row = append(row, leader(func(r *api.Raft) { r.Role = role }))
		row = append(row, leader(func(r *api.Raft) { r.Role, r.Lead, r.Target = role, 1, 2 }))
	}
	return row
}

// long is a state of a leader whose log has so many entries, all but the last one committed, and sent.
func long(entries int) api.Raft {
	return leader(func(r *api.Raft) {
		last := uint64(entries)
		r.Log, r.Commit = many(1, entries, 3), last-1
		r.Peers = []api.Peer{mine(last), {ID: 2, Next: last + 1, Match: last - 1}, {ID: 3, Next: last + 1, Match: last - 1}}
	})
}

func TestCommands(t *testing.T) {
	in := api.In{Kind: api.InCmd, Cmd: command(9), Step: api.ConfStep{Kind: api.StepGo, Node: 3}, Read: 5, Node: 2, Index: 4, Data: []byte{1}, Msg: api.Msg{Kind: api.MsgNow, From: 2, To: 1, Term: 9}}
	e := api.Entry{Index: 6, Term: 3, Kind: api.EntCmd, Cmd: command(9)}
	added := func(r *api.Raft) {
		r.Log = append(r.Log, e)
		r.Peers[0] = mine(6)
	}
	one := []api.Entry{e}
	held(t, []turn{
		{"a command", leader(), in, func(r *api.Raft) {
			added(r)
			sent(r, 6)
		}, api.Out{Added: one, Msgs: fed(e)}},
		{"alone", alone(), in, func(r *api.Raft) {
			added(r)
			r.Commit = 6
		}, api.Out{Added: one, Apply: []api.Entry{entry(5, 3), e}}},
		{"what stood open is committed too", leader(func(r *api.Raft) {
			r.Peers[1] = api.Peer{ID: 2, Next: 6, Match: 5}
		}), in, func(r *api.Raft) {
			added(r)
			sent(r, 6)
			r.Commit = 5
		}, api.Out{Added: one, Apply: entries(5, 3), Msgs: []api.Msg{
			appends(2, 5, 3, 4, e), appends(3, 2, 1, 4, slices.Concat(entries(3, 2, 3, 3), one)...),
			appends(2, 6, 3, 5), appends(3, 6, 3, 5),
		}}},
		{"what is read waits", leader(func(r *api.Raft) { r.Readings = waiting() }), in, func(r *api.Raft) {
			added(r)
			sent(r, 6)
		}, api.Out{Added: one, Msgs: fed(e)}},
	})
	refuses(t, in, api.ErrLeader, others()...)
	refuses(t, in, api.ErrBusy, leader(func(r *api.Raft) { r.Target = 2 }), alone(func(r *api.Raft) { r.Target = 9 }))
}

func TestALogIsFull(t *testing.T) {
	cmd := api.In{Kind: api.InCmd, Cmd: command(9)}
	learn := api.In{Kind: api.InStep, Step: api.ConfStep{Kind: api.StepLearn, Node: 4}}
	read := api.In{Kind: api.InRead, Read: 5}
	for _, entries := range []int{65536, 65537} {
		full := long(entries)
		for _, in := range []api.In{cmd, learn} {
			got, out := raft.Step(full, in)
			if !alike(got, full) || !alike(out, api.Out{Err: api.ErrBusy}) {
				t.Error(entries, in.Kind, len(got.Log), out.Err)
			}
		}
		if got, out := raft.Step(full, read); out.Err != api.OK || len(got.Readings) != 1 {
			t.Error(entries, out.Err)
		}
	}
	room := long(65535)
	for _, in := range []api.In{cmd, learn} {
		got, out := raft.Step(room, in)
		if out.Err != api.OK || len(got.Log) != 65536 || len(out.Added) != 1 || out.Added[0].Index != 65536 {
			t.Error(in.Kind, out.Err, len(got.Log))
		}
	}
	room.Log[0] = changes(1, 3, voters(1, 2))
	if _, out := raft.Step(room, learn); out.Err != api.OK {
		t.Error(out.Err)
	}
}

// steps is that a step of who votes is asked.
func steps(kind api.StepKind, id int) api.In {
	return api.In{Kind: api.InStep, Step: api.ConfStep{Kind: kind, Node: id}, Cmd: command(9), Read: 5, Node: 2, Index: 4}
}

func TestStepsOfWhoVotes(t *testing.T) {
	wide := api.Conf{Voters: []int{1, 2, 3}, Learners: []int{4}}
	learns := changes(6, 3, wide)
	votes := changes(6, 3, voters(1, 2, 3, 4))
	goes := changes(6, 3, voters(1, 2))
	itself := changes(6, 3, voters(2, 3))
	last := changes(6, 3, voters(1))
	grown := func(r *api.Raft) {
		r.BaseConf = wide
		r.Peers = append(r.Peers, api.Peer{ID: 4, Next: 2, Match: 1, Heard: true})
	}
	held(t, []turn{
		{"one comes", leader(), steps(api.StepLearn, 4), func(r *api.Raft) {
			r.Log = append(r.Log, learns)
			sent(r, 6)
			r.Peers[0] = mine(6)
			r.Peers = append(r.Peers, api.Peer{ID: 4, Next: 7})
		}, api.Out{Added: []api.Entry{learns}, Msgs: append(fed(learns), appends(4, 5, 3, 4, learns))}},
		{"it votes", leader(grown), steps(api.StepVote, 4), func(r *api.Raft) {
			r.Log = append(r.Log, votes)
			sent(r, 6)
			r.Peers[0], r.Peers[3].Next = mine(6), 7
		}, api.Out{Added: []api.Entry{votes}, Msgs: append(fed(votes), appends(4, 1, 1, 4, slices.Concat(entries(2, 1, 2, 3, 3), []api.Entry{votes})...))}},
		{"one goes", leader(func(r *api.Raft) { r.Peers[1].Heard = true }), steps(api.StepGo, 3), func(r *api.Raft) {
			r.Log = append(r.Log, goes)
			r.Peers = []api.Peer{mine(6), {ID: 2, Next: 7, Match: 4, Heard: true}}
		}, api.Out{Added: []api.Entry{goes}, Msgs: fed(goes)[:1]}},
		{"one goes, and a majority has more now", leader(func(r *api.Raft) {
			r.Peers[1] = api.Peer{ID: 2, Next: 6, Match: 5}
			r.Peers[2] = api.Peer{ID: 3, Next: 6, Match: 5}
		}), steps(api.StepGo, 3), func(r *api.Raft) {
			r.Log = append(r.Log, goes)
			r.Peers = []api.Peer{mine(6), {ID: 2, Next: 7, Match: 5}}
			r.Commit = 5
		}, api.Out{Added: []api.Entry{goes}, Apply: entries(5, 3), Msgs: []api.Msg{appends(2, 5, 3, 4, goes), appends(2, 6, 3, 5)}}},
		{"the leader goes", leader(), steps(api.StepGo, 1), func(r *api.Raft) {
			r.Log = append(r.Log, itself)
			sent(r, 6)
			r.Peers = r.Peers[1:]
		}, api.Out{Added: []api.Entry{itself}, Msgs: fed(itself)}},
		{"the leader goes, one entry is committed yet", leader(func(r *api.Raft) {
			r.BaseConf = voters(1, 2)
			r.Peers = []api.Peer{mine(5), {ID: 2, Next: 6, Match: 5}}
		}), steps(api.StepGo, 1), func(r *api.Raft) {
			r.Log = append(r.Log, changes(6, 3, voters(2)))
			r.Peers = []api.Peer{{ID: 2, Next: 7, Match: 5}}
			r.Commit = 5
		}, api.Out{Added: []api.Entry{changes(6, 3, voters(2))}, Apply: entries(5, 3), Msgs: []api.Msg{appends(2, 5, 3, 4, changes(6, 3, voters(2))), appends(2, 6, 3, 5)}}},
		{"only the leader is left", leader(func(r *api.Raft) {
			r.BaseConf = voters(1, 2)
			r.Peers = r.Peers[:2]
		}), steps(api.StepGo, 2), func(r *api.Raft) {
			r.Log = append(r.Log, last)
			r.Peers = []api.Peer{mine(6)}
			r.Commit = 6
		}, api.Out{Added: []api.Entry{last}, Apply: []api.Entry{entry(5, 3), last}}},
		{"peers become the configuration's", leader(func(r *api.Raft) {
			r.Peers = []api.Peer{{ID: 2, Next: 6, Match: 2}, {ID: 9, Next: 6, Match: 5}}
		}), steps(api.StepLearn, 4), func(r *api.Raft) {
			r.Log = append(r.Log, learns)
			r.Peers = []api.Peer{{ID: 1, Next: 6}, {ID: 2, Next: 7, Match: 2}, {ID: 3, Next: 7}, {ID: 4, Next: 7}}
		}, api.Out{Added: []api.Entry{learns}, Msgs: []api.Msg{appends(2, 5, 3, 4, learns), appends(3, 5, 3, 4, learns), appends(4, 5, 3, 4, learns)}}},
		{"the last step is just committed", leader(func(r *api.Raft) {
			r.Log[0], r.Log[3] = changes(1, 1, voters(7)), changes(4, 3, voters(1, 2, 3))
			r.Peers[2].Next = 6
		}), steps(api.StepLearn, 4), func(r *api.Raft) {
			r.Log = append(r.Log, learns)
			sent(r, 6)
			r.Peers[0] = mine(6)
			r.Peers = append(r.Peers, api.Peer{ID: 4, Next: 7})
		}, api.Out{Added: []api.Entry{learns}, Msgs: []api.Msg{fed(learns)[0], appends(3, 5, 3, 4, learns), appends(4, 5, 3, 4, learns)}}},
	})
}

func TestStepsOfWhoVotesThatAreRefused(t *testing.T) {
	for _, in := range []api.In{steps(api.StepLearn, 4), steps(api.StepGo, 3), steps(api.StepLearn, 3), steps(0, 0)} {
		refuses(t, in, api.ErrLeader, others()...)
		refuses(t, in, api.ErrBusy,
			leader(func(r *api.Raft) { r.Target = 2 }),
			leader(func(r *api.Raft) { r.Commit = 3 }),
			leader(func(r *api.Raft) { r.Term = 4 }),
			leader(func(r *api.Raft) { r.Log[4] = changes(5, 3, voters(1, 2, 3)) }),
			leader(func(r *api.Raft) { r.Log[1], r.Log[4] = changes(2, 1, voters(1, 2)), changes(5, 3, voters(1, 2, 3)) }),
			short(func(r *api.Raft) { r.Commit = 3 }),
		)
	}
	for _, in := range []api.In{
		steps(api.StepLearn, 3), steps(api.StepLearn, 0), steps(api.StepLearn, 33), steps(api.StepLearn, -1),
		steps(api.StepVote, 2), steps(api.StepVote, 4), steps(api.StepGo, 4), steps(0, 4), steps(4, 4),
	} {
		refuses(t, in, api.ErrConf, leader())
	}
	refuses(t, steps(api.StepGo, 1), api.ErrConf, alone())
}

func TestReadings(t *testing.T) {
	in := api.In{Kind: api.InRead, Read: 77, Cmd: command(9), Step: api.ConfStep{Kind: api.StepGo, Node: 3}, Node: 2, Index: 4, Data: []byte{1}}
	one := api.Reading{ID: 77, Index: 4, Ctx: 7, Acks: []int{1}}
	round := func(ctx uint64) []api.Msg {
		msgs := fed()
		msgs[0].Ctx, msgs[1].Ctx = ctx, ctx
		return msgs
	}
	ready := func(id uint64, acks ...int) api.Reading {
		return api.Reading{ID: id, Index: id, Ctx: 3, Acks: acks}
	}
	open := []api.Reading{ready(1, 1), ready(2, 2, 1), ready(3), ready(4, 3, 9, 2), ready(5, 2, 2, 9)}
	rest := []api.Reading{open[0], open[2], open[4]}
	much := make([]api.Reading, 1023)
	held(t, []turn{
		{"one", leader(), in, func(r *api.Raft) {
			r.Ctx = 7
			sent(r, 5)
			r.Readings = []api.Reading{one}
		}, api.Out{Msgs: round(7)}},
		{"one more", leader(func(r *api.Raft) { r.Readings = waiting() }), in, func(r *api.Raft) {
			r.Ctx = 7
			sent(r, 5)
			r.Readings = append(r.Readings, one)
		}, api.Out{Msgs: round(7)}},
		{"the greatest round", leader(func(r *api.Raft) { r.Ctx = math.MaxUint64 }), in, func(r *api.Raft) {
			r.Ctx = 0
			sent(r, 5)
			r.Readings = []api.Reading{{ID: 77, Index: 4, Acks: []int{1}}}
		}, api.Out{Msgs: round(0)}},
		{"alone", alone(), in, func(r *api.Raft) { r.Ctx = 7 }, api.Out{Ready: []api.Reading{one}}},
		{"others are ready too", leader(func(r *api.Raft) { r.Readings = open }), in, func(r *api.Raft) {
			r.Ctx = 7
			sent(r, 5)
			r.Readings = append(slices.Clone(rest), one)
		}, api.Out{Msgs: round(7), Ready: []api.Reading{open[1], open[3]}}},
		{"out of the voters", leader(func(r *api.Raft) { r.BaseConf = voters(2) }), in, func(r *api.Raft) {
			r.Ctx = 7
			sent(r, 5)
			r.Readings = []api.Reading{one}
		}, api.Out{Msgs: round(7)}},
		{"the last one", leader(func(r *api.Raft) { r.Readings, r.Target = much, 2 }), in, func(r *api.Raft) {
			r.Ctx = 7
			sent(r, 5)
			r.Readings = append(slices.Clone(much), one)
		}, api.Out{Msgs: round(7)}},
	})
	refuses(t, in, api.ErrLeader, others()...)
	refuses(t, in, api.ErrBusy,
		leader(func(r *api.Raft) { r.Commit = 3 }),
		leader(func(r *api.Raft) { r.Term = 4 }),
		leader(func(r *api.Raft) { r.Readings = make([]api.Reading, 1024) }),
		leader(func(r *api.Raft) { r.Readings = make([]api.Reading, 1025) }),
		short(func(r *api.Raft) { r.Commit = 3 }),
	)
	snapped := short(func(r *api.Raft) { r.BaseTerm, r.Commit = 3, 3 })
	if _, out := raft.Step(snapped, in); out.Err != api.OK {
		t.Error("the base is of this term:", out.Err)
	}
}

func TestTransfers(t *testing.T) {
	to := func(id int) api.In {
		return api.In{Kind: api.InTransfer, Node: id, Cmd: command(9), Read: 5, Index: 4}
	}
	late := func(r *api.Raft) { r.Elapsed = 7 }
	aims := func(id int) func(*api.Raft) {
		return func(r *api.Raft) { r.Target, r.Elapsed = id, 0 }
	}
	feeds := func(place int) func(*api.Raft) {
		return func(r *api.Raft) {
			aims(r.Peers[place].ID)(r)
			r.Peers[place].Next = 6
		}
	}
	held(t, []turn{
		{"one that lacks the last entry", leader(late), to(2), feeds(1), api.Out{Msgs: fed()[:1]}},
		{"one that lacks more", leader(late), to(3), feeds(2), api.Out{Msgs: fed()[1:]}},
		{"one that lacks what is in the snapshot", short(late, func(r *api.Raft) { r.Peers[2].Next = 2 }), to(3), aims(3), api.Out{Msgs: []api.Msg{
			{Kind: api.MsgSnap, From: 1, To: 3, Term: 3, Index: 3, LogTerm: 2, Conf: api.Conf{Voters: []int{1, 2, 3}, Learners: []int{4}}, Data: []byte{7, 8}},
		}}},
		{"one that has all", leader(late, func(r *api.Raft) { r.Peers[2] = api.Peer{ID: 3, Next: 2, Match: 5} }), to(3), aims(3), api.Out{Msgs: []api.Msg{{Kind: api.MsgNow, From: 1, To: 3, Term: 3}}}},
		{"one that is no peer", leader(late, func(r *api.Raft) { r.Peers = r.Peers[:2] }), to(3), aims(3), api.Out{}},
		{"of a node that does not vote", leader(late, func(r *api.Raft) { r.BaseConf = voters(2, 3) }), to(2), feeds(1), api.Out{Msgs: fed()[:1]}},
	})
	refuses(t, to(2), api.ErrLeader, others()...)
	refuses(t, to(9), api.ErrLeader, others()...)
	for _, id := range []int{0, 1, 2, 3, 4, -1, 33} {
		refuses(t, to(id), api.ErrBusy, leader(func(r *api.Raft) { r.Target = 2 }), leader(func(r *api.Raft) { r.Target = 9 }))
	}
	for _, id := range []int{0, 1, 4, 5, -1, 32, 33, math.MinInt, math.MaxInt} {
		refuses(t, to(id), api.ErrArg, leader(), leader(func(r *api.Raft) {
			r.BaseConf = api.Conf{Voters: []int{1, 2, 3}, Learners: []int{4}}
			r.Peers = append(r.Peers, api.Peer{ID: 4, Next: 6, Match: 5})
		}))
	}
	refuses(t, to(1), api.ErrArg, alone())
}

func TestSnapshots(t *testing.T) {
	at := func(index uint64) api.In {
		return api.In{Kind: api.InSnap, Index: index, Data: []byte{4, 5, 6}, Cmd: command(9), Read: 5, Node: 2}
	}
	based := func(index uint64, term uint64, c api.Conf, log ...api.Entry) func(*api.Raft) {
		return func(r *api.Raft) {
			r.Base, r.BaseTerm, r.BaseConf, r.Snap, r.Log = index, term, c, []byte{4, 5, 6}, log
		}
	}
	three := voters(1, 2, 3)
	wide := api.Conf{Voters: []int{1, 2, 3}, Learners: []int{4}}
	stepped := func(r *api.Raft) {
		r.Log[0], r.Log[2], r.Log[4] = changes(1, 1, voters(7)), changes(3, 2, voters(8)), changes(5, 3, voters(9))
		r.Commit = 4
	}
	all := node(stepped).Log
	made := api.Out{Snap: true}
	empty := at(2)
	empty.Data = nil
	held(t, []turn{
		{"of one", node(), at(1), based(1, 1, three, entries(2, 1, 2, 3, 3)...), made},
		{"of all that is committed", node(), at(2), based(2, 1, three, entries(3, 2, 3, 3)...), made},
		{"of the first configuration", node(stepped), at(1), based(1, 1, voters(7), all[1:]...), made},
		{"of what is behind it", node(stepped), at(2), based(2, 1, voters(7), all[2:]...), made},
		{"of the next configuration", node(stepped), at(3), based(3, 2, voters(8), all[3:]...), made},
		{"of two configurations", node(stepped), at(4), based(4, 3, voters(8), all[4:]...), made},
		{"of the whole log", node(func(r *api.Raft) { r.Commit = 5 }), at(5), based(5, 3, three), made},
		{"behind another", short(), at(4), based(4, 3, wide, entries(5, 3)...), made},
		{"of nothing", node(), empty, func(r *api.Raft) {
			based(2, 1, three, entries(3, 2, 3, 3)...)(r)
			r.Snap = nil
		}, made},
		{"of a leader", leader(func(r *api.Raft) { r.Readings, r.Target = waiting(), 3 }), at(4), based(4, 3, three, entries(5, 3)...), made},
	})
	for _, role := range []api.Role{api.Preparing, api.Candidate} {
		held(t, []turn{{"of role " + strconv.Itoa(int(role)), node(func(r *api.Raft) { r.Role = role }), at(2), based(2, 1, three, entries(3, 2, 3, 3)...), made}})
	}
	for _, index := range []uint64{0, 3, 4, 5, 6, math.MaxUint64} {
		refuses(t, at(index), api.ErrArg, node())
	}
	for _, index := range []uint64{0, 1, 2, 3, 5, 6, math.MaxUint64} {
		refuses(t, at(index), api.ErrArg, short())
	}
}

func TestOtherKinds(t *testing.T) {
	for _, kind := range []api.InKind{0, -1, 8, 9, math.MinInt, math.MaxInt} {
		in := api.In{Kind: kind, Index: 2, Msg: api.Msg{Kind: api.MsgNow, From: 2, To: 1, Term: 3}}
		refuses(t, in, api.ErrArg, node(), leader(), short(busy))
	}
}
