package raft

import (
	"bytes"
	"slices"

	"buttress/api"
	"buttress/quorum"
)

// mostSent is how many entries go in one message.
const mostSent = 16

// lead makes the node the leader; the entry that it adds is the first that it may commit.
func (s *step) lead() {
	s.Role, s.Lead, s.Elapsed, s.Votes = api.Leader, s.ID, 0, nil
	last, _ := s.last()
	s.Peers = nil
	s.gather(s.conf(), last+1)
	s.add(api.Entry{Kind: api.EntNone})
	s.feedAll()
	s.commit()
}

// gather makes the nodes of a configuration the peers: those that were stay as they were, others are sent entries from next on.
func (s *step) gather(c api.Conf, next uint64) {
	ids := slices.Concat(c.Voters, c.Learners)
	slices.Sort(ids)
	var peers []api.Peer
	for _, id := range ids {
		if p := s.peer(id); p != nil {
			peers = append(peers, *p)
		} else {
			peers = append(peers, api.Peer{ID: id, Next: next})
		}
	}
	s.Peers = peers
}

// peer is what is known of a node, in the state's own memory; nil if it is no peer.
func (s *step) peer(id int) *api.Peer {
	for i := range s.Peers {
		if s.Peers[i].ID == id {
			return &s.Peers[i]
		}
	}
	return nil
}

// beat is a leader's tick. One that no majority has heard for as long as an election takes leads no more.
func (s *step) beat() {
	if s.Elapsed%s.Beat == 0 {
		s.feedAll()
	}
	if s.Elapsed < s.Election {
		return
	}
	s.Elapsed, s.Target = 0, 0
	heard := []int{s.ID}
	for i := range s.Peers {
		if s.Peers[i].Heard {
			heard = append(heard, s.Peers[i].ID)
		}
		s.Peers[i].Heard = false
	}
	if !quorum.Majority(s.conf(), heard) {
		s.follow(s.Term, 0)
	}
}

// add puts an entry behind the log, in this term.
func (s *step) add(e api.Entry) {
	last, _ := s.last()
	e.Index, e.Term = last+1, s.Term
	s.Log = append(s.Log, copyEntry(e))
	s.out.Added = append(s.out.Added, copyEntry(e))
	if p := s.peer(s.ID); p != nil {
		p.Match, p.Next = e.Index, e.Index+1
	}
}

// feedAll sends entries to all peers but itself.
func (s *step) feedAll() {
	for i := range s.Peers {
		if s.Peers[i].ID != s.ID {
			s.feed(&s.Peers[i])
		}
	}
}

// feed sends a peer the entries that it has not been sent, or the snapshot, if that holds them.
func (s *step) feed(p *api.Peer) {
	if p.Next <= s.Base {
		s.send(api.Msg{
			Kind:    api.MsgSnap,
			To:      p.ID,
			Term:    s.Term,
			Index:   s.Base,
			LogTerm: s.BaseTerm,
			Conf:    copyConf(s.BaseConf),
			Data:    bytes.Clone(s.Snap),
		})
		return
	}
	row := s.Log[p.Next-1-s.Base:]
	row = row[:min(len(row), mostSent)]
	term, _ := s.termOf(p.Next - 1)
	s.send(api.Msg{
		Kind:    api.MsgAppend,
		To:      p.ID,
		Term:    s.Term,
		Index:   p.Next - 1,
		LogTerm: term,
		Commit:  s.Commit,
		Ctx:     s.Ctx,
		Entries: copyEntries(row),
	})
	p.Next += uint64(len(row))
}

// commit commits what a majority has, if it is of this term: what is of one before might yet be cut. A leader that is out of a configuration leads till that is committed.
func (s *step) commit() {
	most := quorum.Matched(s.conf(), s.Peers)
	if most <= s.Commit {
		return
	}
	if term, _ := s.termOf(most); term != s.Term {
		return
	}
	s.Commit = most
	s.feedAll()
	if s.outside() && !s.changing() {
		s.follow(s.Term, 0)
	}
}

// outside tells whether the node is neither a voter nor a learner.
func (s *step) outside() bool {
	c := s.conf()
	return !slices.Contains(c.Voters, s.ID) && !slices.Contains(c.Learners, s.ID)
}

// settle tells the readings that a majority has answered for.
func (s *step) settle() {
	c := s.conf()
	var rest []api.Reading
	for _, one := range s.Readings {
		if quorum.Majority(c, one.Acks) {
			s.out.Ready = append(s.out.Ready, one)
		} else {
			rest = append(rest, one)
		}
	}
	s.Readings = rest
}

// hasAll tells whether a peer has the whole log.
func (s *step) hasAll(p *api.Peer) bool {
	last, _ := s.last()
	return p.Match == last
}

// handOver tells a peer to stand for election at once.
func (s *step) handOver(p *api.Peer) {
	s.send(api.Msg{Kind: api.MsgNow, To: p.ID, Term: s.Term})
}
