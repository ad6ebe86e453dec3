package raft_test

import (
	"slices"

	"buttress/api"
)

// slow does steps in a way of its own, one entry, vote and peer at a time.
type slow struct {
	api.Raft
	o    api.Out
	draw int
}

// mayBe tells whether a configuration may be.
func mayBe(c api.Conf) bool {
	met := map[int]bool{}
	for _, row := range [][]int{c.Voters, c.Learners} {
		for i, id := range row {
			if id < 1 || id > 32 || met[id] || i > 0 && row[i-1] > id {
				return false
			}
			met[id] = true
		}
	}
	return len(c.Voters) > 0
}

// slowCheck tells whether a state may be.
func slowCheck(r api.Raft) bool {
	const end = uint64(1) << 62
	index, term := r.Base, r.BaseTerm
	if r.Term >= end || r.Base >= end || term > r.Term || !mayBe(r.BaseConf) {
		return false
	}
	for _, e := range r.Log {
		if r.Term == 0 || e.Index != index+1 || e.Term < term || e.Term > r.Term || e.Kind == 2 && !mayBe(e.Conf) {
			return false
		}
		index, term = e.Index, e.Term
	}
	ahead := 0
	for _, p := range r.Peers {
		if p.ID <= ahead || p.ID > 32 || p.Next == 0 || p.Next > index+1 || p.Match > index {
			return false
		}
		ahead = p.ID
	}
	for _, id := range []int{r.Vote, r.Lead, r.Target} {
		if id < 0 || id > 32 {
			return false
		}
	}
	switch {
	case r.ID < 1, r.ID > 32, r.Beat < 1, r.Election > 1000, r.Beat > 1000, r.Election < 2*r.Beat:
		return false
	case r.Commit < r.Base, r.Commit > index, index >= end:
		return false
	case r.Role < 0, r.Role > 3, r.Elapsed < 0, r.Elapsed > 2000, r.Timeout < 0, r.Timeout > 2000:
		return false
	}
	return true
}

// slowStep is a step.
func slowStep(r api.Raft, in api.In) (api.Raft, api.Out) {
	if !slowCheck(r) {
		return api.Raft{}, api.Out{Err: api.ErrArg}
	}
	s := &slow{Raft: deep(r), draw: in.Draw}
	in = deep(in)
	s.o.Err = api.ErrArg
	switch in.Kind {
	case api.InTick:
		s.tick()
	case api.InMsg:
		s.message(in.Msg)
	case api.InCmd:
		s.command(in.Cmd)
	case api.InStep:
		s.change(in.Step)
	case api.InRead:
		s.reading(in.Read)
	case api.InTransfer:
		s.transfer(in.Node)
	case api.InSnap:
		s.snap(in.Index, in.Data)
	}
	if s.o.Err != api.OK {
		return deep(r), api.Out{Err: s.o.Err}
	}
	s.o.Hard = s.Term != r.Term || s.Vote != r.Vote
	for _, e := range s.Log {
		if e.Index > r.Commit && e.Index <= s.Commit {
			s.o.Apply = append(s.o.Apply, e)
		}
	}
	return deep(s.Raft), deep(s.o)
}

// end is the last index and its term.
func (s *slow) end() (uint64, uint64) {
	index, term := s.Base, s.BaseTerm
	for _, e := range s.Log {
		index, term = e.Index, e.Term
	}
	return index, term
}

// at is the term of an index; 2^64 - 1 if there is none.
func (s *slow) at(index uint64) uint64 {
	if index == s.Base {
		return s.BaseTerm
	}
	for _, e := range s.Log {
		if e.Index == index {
			return e.Term
		}
	}
	return 1<<64 - 1
}

// now is the configuration in force, and the index of its entry, 0 if it is the base's.
func (s *slow) now() (api.Conf, uint64) {
	c, index := s.BaseConf, uint64(0)
	for _, e := range s.Log {
		if e.Kind == api.EntConf {
			c, index = e.Conf, e.Index
		}
	}
	return c, index
}

// is tells whether the node itself is a voter, or a learner.
func (s *slow) is() (bool, bool) {
	c, _ := s.now()
	return slices.Contains(c.Voters, s.ID), slices.Contains(c.Learners, s.ID)
}

// most tells whether more than half of the voters are in a row.
func (s *slow) most(row []int) bool {
	c, _ := s.now()
	in, out := 0, 0
	for _, id := range c.Voters {
		if slices.Contains(row, id) {
			in++
		} else {
			out++
		}
	}
	return in > out
}

func (s *slow) put(m api.Msg) {
	m.From = s.ID
	s.o.Msgs = append(s.o.Msgs, deep(m))
}

// anew sets the clock back.
func (s *slow) anew() {
	s.Elapsed = 0
	s.Timeout = s.Election
	if s.draw > 0 {
		s.Timeout += s.draw % s.Election
	}
}

func (s *slow) lose() {
	for len(s.Readings) > 0 {
		s.o.Lost = append(s.o.Lost, s.Readings[0].ID)
		s.Readings = s.Readings[1:]
	}
	s.Target, s.Peers = 0, nil
}

func (s *slow) follow(term uint64, lead int) {
	if term > s.Term {
		s.Vote = 0
		s.Term = term
	}
	s.Role = api.Follower
	s.Lead = lead
	s.Votes = nil
	s.anew()
	s.lose()
}

// feed sends entries to the peer at a place.
func (s *slow) feed(i int) {
	p := s.Peers[i]
	if p.Next <= s.Base {
		s.put(api.Msg{Kind: api.MsgSnap, To: p.ID, Term: s.Term, Index: s.Base, LogTerm: s.BaseTerm, Conf: s.BaseConf, Data: s.Snap})
		return
	}
	m := api.Msg{Kind: api.MsgAppend, To: p.ID, Term: s.Term, Index: p.Next - 1, LogTerm: s.at(p.Next - 1), Commit: s.Commit, Ctx: s.Ctx}
	for _, e := range s.Log {
		if e.Index == s.Peers[i].Next && len(m.Entries) < 16 {
			m.Entries = append(m.Entries, e)
			s.Peers[i].Next++
		}
	}
	s.put(m)
}

func (s *slow) feedAll() {
	for i, p := range s.Peers {
		if p.ID != s.ID {
			s.feed(i)
		}
	}
}

func (s *slow) ask(m api.Msg) {
	m.Index, m.LogTerm = s.end()
	c, _ := s.now()
	for _, m.To = range c.Voters {
		if m.To != s.ID {
			s.put(m)
		}
	}
}

func (s *slow) stand(force bool) {
	s.Term++
	s.Vote, s.Role, s.Lead, s.Votes = s.ID, api.Candidate, 0, []int{s.ID}
	s.anew()
	s.lose()
	if s.most(s.Votes) {
		s.lead()
	} else {
		s.ask(api.Msg{Kind: api.MsgVote, Term: s.Term, Force: force})
	}
}

func (s *slow) lead() {
	s.Role, s.Lead, s.Elapsed, s.Votes, s.Peers = api.Leader, s.ID, 0, nil, nil
	index, _ := s.end()
	c, _ := s.now()
	s.Peers = s.peers(c, index+1)
	s.add(api.Entry{})
	s.feedAll()
	s.commit()
}

// peers are the nodes of a configuration, as they are known or new.
func (s *slow) peers(c api.Conf, next uint64) []api.Peer {
	var row []api.Peer
	for id := 1; id <= 32; id++ {
		p := api.Peer{ID: id, Next: next}
		for _, old := range s.Peers {
			if old.ID == id {
				p = old
			}
		}
		if slices.Contains(c.Voters, id) || slices.Contains(c.Learners, id) {
			row = append(row, p)
		}
	}
	return row
}

func (s *slow) add(e api.Entry) {
	index, _ := s.end()
	e.Index, e.Term = index+1, s.Term
	s.Log = append(s.Log, deep(e))
	s.o.Added = append(s.o.Added, deep(e))
	for i := range s.Peers {
		if s.Peers[i].ID == s.ID {
			s.Peers[i].Match, s.Peers[i].Next = index+1, index+2
		}
	}
}

func (s *slow) commit() {
	rose := false
	index, _ := s.end()
	for ; index > s.Commit; index-- {
		var have []int
		for _, p := range s.Peers {
			if p.Match >= index {
				have = append(have, p.ID)
			}
		}
		if s.most(have) {
			// Only the greatest that a majority has is asked for its term.
			rose = s.at(index) == s.Term
			break
		}
	}
	if !rose {
		return
	}
	s.Commit = index
	s.feedAll()
	_, last := s.now()
	votes, learns := s.is()
	if !votes && !learns && s.Commit >= last {
		s.follow(s.Term, 0)
	}
}

func (s *slow) settle() {
	var rest []api.Reading
	for _, one := range s.Readings {
		if s.most(one.Acks) {
			s.o.Ready = append(s.o.Ready, one)
		} else {
			rest = append(rest, one)
		}
	}
	s.Readings = rest
}

func (s *slow) tick() {
	s.o.Err = api.OK
	if s.Elapsed < 2000 {
		s.Elapsed++
	}
	if votes, _ := s.is(); s.Role != api.Leader {
		if votes && s.Elapsed >= s.Timeout {
			s.Role, s.Lead, s.Votes = api.Preparing, 0, []int{s.ID}
			s.anew()
			if s.most(s.Votes) {
				s.stand(false)
			} else {
				s.ask(api.Msg{Kind: api.MsgPre, Term: s.Term + 1})
			}
		}
		return
	}
	if s.Elapsed%s.Beat == 0 {
		s.feedAll()
	}
	if s.Elapsed >= s.Election {
		s.Elapsed, s.Target = 0, 0
		heard := []int{s.ID}
		for i := range s.Peers {
			if s.Peers[i].Heard {
				heard = append(heard, s.Peers[i].ID)
			}
			s.Peers[i].Heard = false
		}
		if !s.most(heard) {
			s.follow(s.Term, 0)
		}
	}
}

// refuses notes the first error whose condition holds.
func (s *slow) refuses(leaderAlone bool, busy bool, wrong bool, e api.Errno) bool {
	switch {
	case leaderAlone && s.Role != api.Leader:
		s.o.Err = api.ErrLeader
	case busy:
		s.o.Err = api.ErrBusy
	case wrong:
		s.o.Err = e
	default:
		s.o.Err = api.OK
		return false
	}
	return true
}

func (s *slow) command(c api.Cmd) {
	if s.refuses(true, s.Target != 0 || len(s.Log) > 65535, false, 0) {
		return
	}
	s.add(api.Entry{Kind: api.EntCmd, Cmd: c})
	s.feedAll()
	s.commit()
}

func (s *slow) change(step api.ConfStep) {
	old, at := s.now()
	c := deep(old)
	votes, learns := slices.Contains(c.Voters, step.Node), slices.Contains(c.Learners, step.Node)
	drop := func(id int) bool { return id == step.Node }
	may := step.Node > 0 && step.Node < 33
	c.Voters, c.Learners = slices.DeleteFunc(c.Voters, drop), slices.DeleteFunc(c.Learners, drop)
	switch step.Kind {
	case api.StepLearn:
		may = may && !votes && !learns
		c.Learners = append(c.Learners, step.Node)
	case api.StepVote:
		may = may && learns
		c.Voters = append(c.Voters, step.Node)
	case api.StepGo:
		may = may && (votes || learns) && len(c.Voters) > 0
	default:
		may = false
	}
	slices.Sort(c.Voters)
	slices.Sort(c.Learners)
	busy := s.Target != 0 || s.at(s.Commit) != s.Term || at > s.Commit || len(s.Log) > 65535
	if s.refuses(true, busy, !may, api.ErrConf) {
		return
	}
	index, _ := s.end()
	s.add(api.Entry{Kind: api.EntConf, Conf: c})
	s.Peers = s.peers(c, index+1)
	s.feedAll()
	s.commit()
}

func (s *slow) reading(id uint64) {
	if s.refuses(true, s.at(s.Commit) != s.Term || len(s.Readings) > 1023, false, 0) {
		return
	}
	s.Ctx++
	s.Readings = append(s.Readings, api.Reading{ID: id, Index: s.Commit, Ctx: s.Ctx, Acks: []int{s.ID}})
	s.feedAll()
	s.settle()
}

func (s *slow) transfer(to int) {
	c, _ := s.now()
	if s.refuses(true, s.Target != 0, to == s.ID || !slices.Contains(c.Voters, to), api.ErrArg) {
		return
	}
	s.Target, s.Elapsed = to, 0
	index, _ := s.end()
	for i, p := range s.Peers {
		if p.ID == to && p.Match == index {
			s.put(api.Msg{Kind: api.MsgNow, To: to, Term: s.Term})
		} else if p.ID == to {
			s.feed(i)
		}
	}
}

func (s *slow) snap(index uint64, data []byte) {
	if s.refuses(false, false, index <= s.Base || index > s.Commit, api.ErrArg) {
		return
	}
	for s.Base < index {
		e := s.Log[0]
		s.Log = s.Log[1:]
		s.Base, s.BaseTerm = e.Index, e.Term
		if e.Kind == api.EntConf {
			s.BaseConf = e.Conf
		}
	}
	s.Snap, s.o.Snap = data, true
}

func (s *slow) message(m api.Msg) {
	const end = uint64(1) << 61
	s.o.Err = api.OK
	if m.To != s.ID || m.From == s.ID || m.From < 1 || m.From > 32 || m.Term >= end || m.Index >= end {
		return
	}
	led := s.Lead > 0 && s.Elapsed < s.Election
	ahead := m.Term > s.Term
	switch m.Kind {
	case api.MsgVote:
		if ahead && !m.Force && led {
			return
		}
		if ahead {
			s.follow(m.Term, 0)
		}
	case api.MsgVoteYes, api.MsgAck, api.MsgNow:
		if ahead {
			s.follow(m.Term, 0)
		}
	case api.MsgAppend, api.MsgSnap:
		if ahead {
			s.follow(m.Term, m.From)
		}
		if m.Term < s.Term {
			s.put(api.Msg{Kind: api.MsgAck, To: m.From, Term: s.Term})
		}
	case api.MsgPre:
		if m.Term < s.Term {
			s.put(api.Msg{Kind: api.MsgPreYes, To: m.From, Term: s.Term})
		}
	}
	if m.Term < s.Term {
		return
	}
	index, term := s.end()
	behind := m.LogTerm < term || m.LogTerm == term && m.Index < index
	switch m.Kind {
	case api.MsgPre:
		if ahead && !behind && (!led || m.Force) {
			s.put(api.Msg{Kind: api.MsgPreYes, To: m.From, Term: m.Term, Ok: true})
		} else {
			s.put(api.Msg{Kind: api.MsgPreYes, To: m.From, Term: s.Term})
		}
	case api.MsgPreYes:
		if m.Ok && s.Role == api.Preparing && m.Term-s.Term == 1 && s.counts(m.From) {
			s.stand(false)
		} else if !m.Ok && ahead {
			s.follow(m.Term, 0)
		}
	case api.MsgVote:
		yes := !behind && (s.Vote == m.From || s.Vote == 0 && s.Lead == 0)
		if yes {
			s.Vote, s.Elapsed = m.From, 0
		}
		s.put(api.Msg{Kind: api.MsgVoteYes, To: m.From, Term: s.Term, Ok: yes})
	case api.MsgVoteYes:
		if m.Ok && s.Role == api.Candidate && s.counts(m.From) {
			s.lead()
		}
	case api.MsgAppend:
		if s.Role != api.Leader {
			s.follow(s.Term, m.From)
			s.extended(m)
		}
	case api.MsgAck:
		if s.Role == api.Leader {
			s.acked(m)
		}
	case api.MsgSnap:
		if s.Role != api.Leader {
			s.follow(s.Term, m.From)
			s.restored(m)
		}
	case api.MsgNow:
		if votes, _ := s.is(); votes && s.Role != api.Leader {
			s.stand(true)
		}
	}
}

// counts notes a vote, and tells whether that makes a majority.
func (s *slow) counts(id int) bool {
	if !slices.Contains(s.Votes, id) {
		s.Votes = append(s.Votes, id)
	}
	return s.most(s.Votes)
}

func (s *slow) extended(m api.Msg) {
	reply := api.Msg{Kind: api.MsgAck, To: m.From, Term: s.Term, Ctx: m.Ctx}
	last, _ := s.end()
	if m.Index < s.Commit {
		reply.Index, reply.Ok = s.Commit, true
		s.put(reply)
		return
	}
	if s.at(m.Index) != m.LogTerm || m.LogTerm == 1<<64-1 {
		reply.Index = last
		if m.Index > 0 && m.Index-1 < last {
			reply.Index = m.Index - 1
		}
		s.put(reply)
		return
	}
	index, term := m.Index, m.LogTerm
	for _, e := range m.Entries {
		if e.Index != index+1 || e.Term < term || e.Term > m.Term || e.Kind == 2 && !mayBe(e.Conf) {
			return
		}
		index, term = e.Index, e.Term
	}
	for _, e := range m.Entries {
		if len(s.o.Added) == 0 && s.at(e.Index) == e.Term {
			continue
		}
		if e.Index <= s.Commit {
			return
		}
		for {
			at, _ := s.end()
			if at < e.Index {
				break
			}
			s.Log = s.Log[:len(s.Log)-1]
			s.o.Cut = at
		}
		s.Log = append(s.Log, e)
		s.o.Added = append(s.o.Added, e)
	}
	for s.Commit < m.Commit && s.Commit < index {
		s.Commit++
	}
	reply.Index, reply.Ok = index, true
	s.put(reply)
}

func (s *slow) acked(m api.Msg) {
	i := slices.IndexFunc(s.Peers, func(p api.Peer) bool { return p.ID == m.From })
	if i < 0 {
		return
	}
	s.Peers[i].Heard = true
	last, _ := s.end()
	if m.Index > last {
		return
	}
	p := s.Peers[i]
	if !m.Ok {
		p.Next--
		if m.Index+1 < p.Next {
			p.Next = m.Index + 1
		}
		if p.Next < p.Match+1 {
			p.Next = p.Match + 1
		}
		s.Peers[i] = p
		s.feed(i)
		return
	}
	if p.Match < m.Index {
		p.Match = m.Index
	}
	if p.Next <= p.Match {
		p.Next = p.Match + 1
	}
	s.Peers[i] = p
	for j, one := range s.Readings {
		if one.Ctx <= m.Ctx && !slices.Contains(one.Acks, m.From) {
			s.Readings[j].Acks = append(one.Acks, m.From)
		}
	}
	s.commit()
	if s.Role != api.Leader {
		return
	}
	s.settle()
	if s.Target == m.From && s.Peers[i].Match == last {
		s.put(api.Msg{Kind: api.MsgNow, To: m.From, Term: s.Term})
	} else if s.Peers[i].Next <= last {
		s.feed(i)
	}
}

func (s *slow) restored(m api.Msg) {
	reply := api.Msg{Kind: api.MsgAck, To: m.From, Term: s.Term, Ok: true}
	switch {
	case m.Index <= s.Commit:
	case !mayBe(m.Conf), m.LogTerm > m.Term, m.LogTerm < s.BaseTerm:
		return
	case s.at(m.Index) == m.LogTerm:
		s.Commit = m.Index
	default:
		s.Base, s.BaseTerm, s.BaseConf, s.Snap, s.Log = m.Index, m.LogTerm, m.Conf, m.Data, nil
		s.Commit = m.Index
		s.o.Snap, s.o.Restored = true, true
	}
	reply.Index = s.Commit
	s.put(reply)
}
