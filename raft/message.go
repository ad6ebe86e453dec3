package raft

import (
	"bytes"

	"buttress/api"
	"buttress/quorum"
)

// toldEnd is what terms and indices of a message are below.
const toldEnd = 1 << 61

// messages are what is done, by a message's kind, when its term has been seen to.
func messages() map[api.MsgKind]func(*step, api.Msg) {
	return map[api.MsgKind]func(*step, api.Msg){
		api.MsgPre:     (*step).pre,
		api.MsgPreYes:  (*step).preYes,
		api.MsgVote:    (*step).vote,
		api.MsgVoteYes: (*step).voteYes,
		api.MsgAppend:  (*step).extend,
		api.MsgAck:     (*step).ack,
		api.MsgSnap:    (*step).restore,
		api.MsgNow:     (*step).now,
	}
}

// take does what a message asks, unless it is strange.
func (s *step) take(in api.In) api.Errno {
	m := in.Msg
	strange := m.To != s.ID || m.From == s.ID || !within(m.From, 1, api.MaxNodes) || m.Term >= toldEnd || m.Index >= toldEnd
	how, known := messages()[m.Kind]
	if !strange && known && s.agree(m) {
		how(s, m)
	}
	return api.OK
}

// agree sees to a message's term, and tells whether there is more to do.
func (s *step) agree(m api.Msg) bool {
	switch {
	case m.Term < s.Term:
		s.rebuff(m)
		return false
	case m.Term == s.Term || m.Kind == api.MsgPre || m.Kind == api.MsgPreYes:
		// A vote ahead speaks of a term that has not begun.
	case m.Kind == api.MsgVote && !m.Force && s.led():
		return false
	case m.Kind == api.MsgAppend || m.Kind == api.MsgSnap:
		s.follow(m.Term, m.From)
	default:
		s.follow(m.Term, 0)
	}
	return true
}

// rebuff tells who asks in an elder term of this one.
func (s *step) rebuff(m api.Msg) {
	switch m.Kind {
	case api.MsgAppend, api.MsgSnap:
		s.send(api.Msg{Kind: api.MsgAck, To: m.From, Term: s.Term})
	case api.MsgPre:
		s.send(api.Msg{Kind: api.MsgPreYes, To: m.From, Term: s.Term})
	}
}

// led tells whether a leader was heard not long ago.
func (s *step) led() bool {
	return s.Lead != 0 && s.Elapsed < s.Election
}

// upToDate tells whether the log whose end a message tells is not behind this one.
func (s *step) upToDate(m api.Msg) bool {
	index, term := s.last()
	return m.LogTerm > term || m.LogTerm == term && m.Index >= index
}

// pre answers whether the node would vote for one.
func (s *step) pre(m api.Msg) {
	ok := m.Term > s.Term && s.upToDate(m) && (m.Force || !s.led())
	term := s.Term
	if ok {
		term = m.Term
	}
	s.send(api.Msg{Kind: api.MsgPreYes, To: m.From, Term: term, Ok: ok})
}

// preYes hears whether one would vote for the node.
func (s *step) preYes(m api.Msg) {
	switch {
	case m.Ok && s.Role == api.Preparing && m.Term == s.Term+1:
		if s.voted(m.From) {
			s.stand(false)
		}
	case !m.Ok && m.Term > s.Term:
		s.follow(m.Term, 0)
	}
}

// vote votes for one, or against it.
func (s *step) vote(m api.Msg) {
	free := s.Vote == m.From || s.Vote == 0 && s.Lead == 0
	ok := free && s.upToDate(m)
	if ok {
		s.Vote, s.Elapsed = m.From, 0
	}
	s.send(api.Msg{Kind: api.MsgVoteYes, To: m.From, Term: s.Term, Ok: ok})
}

// voteYes hears a vote.
func (s *step) voteYes(m api.Msg) {
	if m.Ok && s.Role == api.Candidate && s.voted(m.From) {
		s.lead()
	}
}

// extend takes entries from the leader.
func (s *step) extend(m api.Msg) {
	if s.Role == api.Leader {
		return
	}
	s.follow(s.Term, m.From)
	term, known := s.termOf(m.Index)
	switch {
	case m.Index < s.Commit:
		s.reply(m, s.Commit, true)
	case known && term == m.LogTerm:
		s.accept(m)
	default:
		s.reply(m, s.elder(m.Index), false)
	}
}

// elder is where a leader may try next that tried an index in vain.
func (s *step) elder(index uint64) uint64 {
	last, _ := s.last()
	if index == 0 {
		return last
	}
	return min(index-1, last)
}

// accept takes the entries of a message that go on from one that the log has. Nothing committed is cut for them: that one is the last committed, or stands behind it.
func (s *step) accept(m api.Msg) {
	if !mayFollow(m.Entries, m.Index, m.LogTerm, m.Term) {
		return
	}
	fresh := s.fresh(m.Entries)
	if len(fresh) > 0 {
		s.cut(fresh[0].Index)
		s.Log = append(s.Log, copyEntries(fresh)...)
		s.out.Added = copyEntries(fresh)
	}
	end := m.Index + uint64(len(m.Entries))
	s.Commit = max(s.Commit, min(m.Commit, end))
	s.reply(m, end, true)
}

// fresh are the entries of a row from the first one on that the log has not.
func (s *step) fresh(row []api.Entry) []api.Entry {
	for i, e := range row {
		if term, known := s.termOf(e.Index); !known || term != e.Term {
			return row[i:]
		}
	}
	return nil
}

// cut takes the entries from an index on off the log, if there are any.
func (s *step) cut(from uint64) {
	if last, _ := s.last(); from > last {
		return
	}
	s.Log = s.Log[:from-s.Base-1]
	s.out.Cut = from
}

// reply answers a leader's message, with its round of readings.
func (s *step) reply(m api.Msg, index uint64, ok bool) {
	s.send(api.Msg{Kind: api.MsgAck, To: m.From, Term: s.Term, Index: index, Ctx: m.Ctx, Ok: ok})
}

// ack hears from a peer what it has.
func (s *step) ack(m api.Msg) {
	p := s.peer(m.From)
	if s.Role != api.Leader || p == nil {
		return
	}
	p.Heard = true
	last, _ := s.last()
	switch {
	case m.Index > last:
	case m.Ok:
		s.advance(p, m)
	default:
		p.Next = max(p.Match+1, min(m.Index+1, p.Next-1))
		s.feed(p)
	}
}

// advance notes what a peer has, and all that follows.
func (s *step) advance(p *api.Peer, m api.Msg) {
	p.Match = max(p.Match, m.Index)
	p.Next = max(p.Next, p.Match+1)
	for i := range s.Readings {
		if one := &s.Readings[i]; one.Ctx <= m.Ctx {
			one.Acks = once(one.Acks, m.From)
		}
	}
	s.commit()
	if s.Role != api.Leader {
		return
	}
	s.settle()
	last, _ := s.last()
	switch {
	case m.From == s.Target && s.hasAll(p):
		s.handOver(p)
	case p.Next <= last:
		s.feed(p)
	}
}

// restore takes a snapshot from the leader.
func (s *step) restore(m api.Msg) {
	if s.Role == api.Leader {
		return
	}
	s.follow(s.Term, m.From)
	// A snapshot belongs to no round of readings.
	m.Ctx = 0
	if m.Index <= s.Commit {
		s.reply(m, s.Commit, true)
		return
	}
	if quorum.Check(m.Conf) != api.OK || !within(m.LogTerm, s.BaseTerm, m.Term) {
		return
	}
	if term, known := s.termOf(m.Index); !known || term != m.LogTerm {
		s.Base, s.BaseTerm = m.Index, m.LogTerm
		s.BaseConf, s.Snap = copyConf(m.Conf), bytes.Clone(m.Data)
		s.Log = nil
		s.out.Snap, s.out.Restored = true, true
	}
	s.Commit = m.Index
	s.reply(m, m.Index, true)
}

// now stands for election, as the leader wishes.
func (s *step) now(api.Msg) {
	if s.Role != api.Leader && quorum.Votes(s.conf(), s.ID) {
		s.stand(true)
	}
}
