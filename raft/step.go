package raft

import (
	"bytes"
	"slices"

	"buttress/api"
	"buttress/quorum"
)

// step is a state on its way, what it has put out so far, and the chance that came with it.
type step struct {
	state
	out  api.Out
	draw int
}

// inputs are what is done, by the kind of what comes. Each refuses ahead of its first change.
func inputs() map[api.InKind]func(*step, api.In) api.Errno {
	return map[api.InKind]func(*step, api.In) api.Errno{
		api.InTick:     (*step).tick,
		api.InMsg:      (*step).take,
		api.InCmd:      (*step).command,
		api.InStep:     (*step).change,
		api.InRead:     (*step).read,
		api.InTransfer: (*step).transfer,
		api.InSnap:     (*step).snap,
	}
}

// do does what comes; ErrArg of another kind.
func (s *step) do(in api.In) api.Errno {
	how, known := inputs()[in.Kind]
	if !known {
		return api.ErrArg
	}
	return how(s, in)
}

// tick lets a tick go by: a leader speaks, and asks at times whether it is heard; another voter that has heard nobody for long prepares to stand.
func (s *step) tick(api.In) api.Errno {
	s.Elapsed = min(s.Elapsed+1, mostElapsed)
	switch {
	case s.Role == api.Leader:
		s.beat()
	case quorum.Votes(s.conf(), s.ID) && s.Elapsed >= s.Timeout:
		s.prepare()
	}
	return api.OK
}

// command adds a command to the log.
func (s *step) command(in api.In) api.Errno {
	switch {
	case s.Role != api.Leader:
		return api.ErrLeader
	case s.Target != 0 || s.full():
		return api.ErrBusy
	}
	s.add(api.Entry{Kind: api.EntCmd, Cmd: in.Cmd})
	s.feedAll()
	s.commit()
	return api.OK
}

// change adds a step of who votes to the log; it is in force at once.
func (s *step) change(in api.In) api.Errno {
	switch {
	case s.Role != api.Leader:
		return api.ErrLeader
	case s.Target != 0 || !s.steady() || s.changing() || s.full():
		return api.ErrBusy
	}
	c, e := quorum.Step(s.conf(), in.Step)
	if e != api.OK {
		return e
	}
	last, _ := s.last()
	s.add(api.Entry{Kind: api.EntConf, Conf: c})
	s.gather(c, last+1)
	s.feedAll()
	s.commit()
	return api.OK
}

// changing tells whether a configuration is not committed yet.
func (s *step) changing() bool {
	e, ok := lastConf(s.Log)
	return ok && e.Index > s.Commit
}

// read begins a reading of what is committed now, which waits till a majority has said that nobody else leads.
func (s *step) read(in api.In) api.Errno {
	switch {
	case s.Role != api.Leader:
		return api.ErrLeader
	case !s.steady() || len(s.Readings) >= mostReadings:
		return api.ErrBusy
	}
	s.Ctx++
	s.Readings = append(s.Readings, api.Reading{ID: in.Read, Index: s.Commit, Ctx: s.Ctx, Acks: []int{s.ID}})
	s.feedAll()
	s.settle()
	return api.OK
}

// transfer begins to hand the lead over.
func (s *step) transfer(in api.In) api.Errno {
	switch {
	case s.Role != api.Leader:
		return api.ErrLeader
	case s.Target != 0:
		return api.ErrBusy
	case in.Node == s.ID || !quorum.Votes(s.conf(), in.Node):
		return api.ErrArg
	}
	s.Target, s.Elapsed = in.Node, 0
	p := s.peer(in.Node)
	switch {
	case p == nil:
	case s.hasAll(p):
		s.handOver(p)
	default:
		s.feed(p)
	}
	return api.OK
}

// snap puts a snapshot in the place of the entries up to an index.
func (s *step) snap(in api.In) api.Errno {
	if in.Index <= s.Base || in.Index > s.Commit {
		return api.ErrArg
	}
	many := int(in.Index - s.Base)
	if e, ok := lastConf(s.Log[:many]); ok {
		s.BaseConf = e.Conf
	}
	s.BaseTerm, _ = s.termOf(in.Index)
	s.Base = in.Index
	s.Snap = bytes.Clone(in.Data)
	s.Log = slices.Delete(s.Log, 0, many)
	s.out.Snap = true
	return api.OK
}

// send puts a message out.
func (s *step) send(m api.Msg) {
	m.From = s.ID
	s.out.Msgs = append(s.out.Msgs, m)
}

// committed are the entries behind an index up to Commit, but for those that are in the snapshot.
func (s *step) committed(behind uint64) []api.Entry {
	from := max(behind, s.Base)
	return copyEntries(s.Log[from-s.Base : s.Commit-s.Base])
}
