package raft

import (
	"bytes"
	"slices"

	"buttress/api"
)

// copyRaft is a state in memory of its own.
func copyRaft(r api.Raft) api.Raft {
	r.BaseConf = copyConf(r.BaseConf)
	r.Snap = bytes.Clone(r.Snap)
	r.Log = copyEntries(r.Log)
	r.Votes = slices.Clone(r.Votes)
	r.Peers = slices.Clone(r.Peers)
	r.Readings = slices.Clone(r.Readings)
	for i := range r.Readings {
		r.Readings[i].Acks = slices.Clone(r.Readings[i].Acks)
	}
	return r
}

// copyConf is a configuration in memory of its own.
func copyConf(c api.Conf) api.Conf {
	return api.Conf{Voters: slices.Clone(c.Voters), Learners: slices.Clone(c.Learners)}
}

// copyEntries are entries in memory of their own.
func copyEntries(row []api.Entry) []api.Entry {
	row = slices.Clone(row)
	for i := range row {
		own(&row[i])
	}
	return row
}

// copyEntry is an entry in memory of its own.
func copyEntry(e api.Entry) api.Entry {
	own(&e)
	return e
}

// own puts copies of its lists into an entry.
func own(e *api.Entry) {
	e.Cmd.Map.Members = slices.Clone(e.Cmd.Map.Members)
	e.Conf = copyConf(e.Conf)
}
