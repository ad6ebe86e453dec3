package raft

import (
	"cmp"

	"buttress/api"
	"buttress/quorum"
)

const (
	mostElection = 1000    // ticks
	mostElapsed  = 2000    // ticks, of Elapsed and of Timeout
	numbersEnd   = 1 << 62 // terms and indices of a state are below
	mostEntries  = 65536   // of a log to which more may be added
	mostReadings = 1024    // that wait
)

// state is a state whose parts are asked without asking anew whether it may be.
type state struct {
	api.Raft
}

// last is the index and the term of the last entry.
func (s state) last() (uint64, uint64) {
	if len(s.Log) == 0 {
		return s.Base, s.BaseTerm
	}
	e := s.Log[len(s.Log)-1]
	return e.Index, e.Term
}

// termOf is the term of an index; false if it is unknown.
func (s state) termOf(index uint64) (uint64, bool) {
	last, _ := s.last()
	switch {
	case index < s.Base || index > last:
		return 0, false
	case index == s.Base:
		return s.BaseTerm, true
	}
	return s.Log[index-s.Base-1].Term, true
}

// conf is the configuration in force, in the state's own memory.
func (s state) conf() api.Conf {
	if e, ok := lastConf(s.Log); ok {
		return e.Conf
	}
	return s.BaseConf
}

// full tells whether the log has as many entries as a leader may add.
func (s state) full() bool {
	return len(s.Log) >= mostEntries
}

// steady tells whether an entry of this term is committed: before that nobody knows all that is.
func (s state) steady() bool {
	term, _ := s.termOf(s.Commit)
	return term == s.Term
}

// lastConf is the last entry of a row that holds a configuration.
func lastConf(row []api.Entry) (api.Entry, bool) {
	for i := len(row) - 1; i >= 0; i-- {
		if row[i].Kind == api.EntConf {
			return row[i], true
		}
	}
	return api.Entry{}, false
}

// numbersMayBe tells whether what hangs on nothing else may be.
func (s state) numbersMayBe() bool {
	return within(s.ID, 1, api.MaxNodes) &&
		s.Election <= mostElection &&
		within(s.Beat, 1, s.Election/2) &&
		within(s.Role, api.Follower, api.Leader) &&
		within(s.Elapsed, 0, mostElapsed) &&
		within(s.Timeout, 0, mostElapsed) &&
		within(s.Vote, 0, api.MaxNodes) &&
		within(s.Lead, 0, api.MaxNodes) &&
		within(s.Target, 0, api.MaxNodes)
}

// logMayBe tells whether the terms, the snapshot's end, the log and what is committed may be.
func (s state) logMayBe() bool {
	// Only below the end can indices be counted up from the base.
	if s.Term >= numbersEnd || s.Base >= numbersEnd {
		return false
	}
	if s.BaseTerm > s.Term || s.Term == 0 && len(s.Log) > 0 {
		return false
	}
	last, _ := s.last()
	return quorum.Check(s.BaseConf) == api.OK &&
		mayFollow(s.Log, s.Base, s.BaseTerm, s.Term) &&
		within(s.Commit, s.Base, last) &&
		last < numbersEnd
}

// mayFollow tells whether entries may stand behind one of that index and term, in a term that none is above.
func mayFollow(row []api.Entry, index uint64, term uint64, most uint64) bool {
	for _, e := range row {
		index++
		if e.Index != index || !within(e.Term, term, most) {
			return false
		}
		if e.Kind == api.EntConf && quorum.Check(e.Conf) != api.OK {
			return false
		}
		term = e.Term
	}
	return true
}

// peersMayBe tells whether the peers of a state whose log may be may be.
func (s state) peersMayBe() bool {
	last, _ := s.last()
	ahead := 0
	for _, p := range s.Peers {
		if !within(p.ID, ahead+1, api.MaxNodes) || !within(p.Next, 1, last+1) || p.Match > last {
			return false
		}
		ahead = p.ID
	}
	return true
}

// within tells whether x is from low to high.
func within[T cmp.Ordered](x T, low T, high T) bool {
	return low <= x && x <= high
}
