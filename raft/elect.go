package raft

import (
	"slices"

	"buttress/api"
	"buttress/quorum"
)

// begin takes a role up, with a time till the next election that chance lengthens.
func (s *step) begin(role api.Role, lead int, votes ...int) {
	s.Role, s.Lead, s.Votes = role, lead, votes
	s.Elapsed = 0
	s.Timeout = s.Election + s.draw%s.Election
}

// letGo gives up all that a leader has under way.
func (s *step) letGo() {
	for _, one := range s.Readings {
		s.out.Lost = append(s.out.Lost, one.ID)
	}
	s.Readings = nil
	s.Target = 0
	s.Peers = nil
}

// follow makes the node a follower in a term, of who leads it (0: nobody knows).
func (s *step) follow(term uint64, lead int) {
	if term > s.Term {
		s.Term, s.Vote = term, 0
	}
	s.begin(api.Follower, lead)
	s.letGo()
}

// prepare asks who would vote for the node, so that one that can't win raises no term.
func (s *step) prepare() {
	s.begin(api.Preparing, 0, s.ID)
	if s.chosen() {
		s.stand(false)
	} else {
		s.canvass(api.Msg{Kind: api.MsgPre, Term: s.Term + 1})
	}
}

// stand stands for election in a new term; by force also against a leader that others hear.
func (s *step) stand(force bool) {
	s.Term++
	s.Vote = s.ID
	s.begin(api.Candidate, 0, s.ID)
	s.letGo()
	if s.chosen() {
		s.lead()
	} else {
		s.canvass(api.Msg{Kind: api.MsgVote, Term: s.Term, Force: force})
	}
}

// canvass sends a message with the log's end to each other voter.
func (s *step) canvass(m api.Msg) {
	m.Index, m.LogTerm = s.last()
	for _, id := range s.conf().Voters {
		if id != s.ID {
			m.To = id
			s.send(m)
		}
	}
}

// voted notes a vote, and tells whether there is a majority.
func (s *step) voted(id int) bool {
	s.Votes = once(s.Votes, id)
	return s.chosen()
}

// chosen tells whether a majority has voted for the node.
func (s *step) chosen() bool {
	return quorum.Majority(s.conf(), s.Votes)
}

// once is a row with an id, which comes if it was not there.
func once(row []int, id int) []int {
	if slices.Contains(row, id) {
		return row
	}
	return append(row, id)
}
