package wire

import "buttress/api"

// fields are some of a message's fields, a bit each. Kind, From and To have none: each message uses them.
type fields uint32

const (
	hasTerm fields = 1 << iota
	hasIndex
	hasLogTerm
	hasCommit
	hasCtx
	hasOk
	hasForce
	hasEntries
	hasConf
	hasHead
	hasData
	hasClient
	hasSeq
	hasOp
	hasKey
	hasCode
	hasNames
)

// used are the fields that each kind of message uses.
func used() map[api.MsgKind]fields {
	return map[api.MsgKind]fields{
		api.MsgPre:      hasTerm | hasIndex | hasLogTerm | hasForce,
		api.MsgPreYes:   hasTerm | hasOk,
		api.MsgVote:     hasTerm | hasIndex | hasLogTerm | hasForce,
		api.MsgVoteYes:  hasTerm | hasOk,
		api.MsgAppend:   hasTerm | hasIndex | hasLogTerm | hasCommit | hasCtx | hasEntries,
		api.MsgAck:      hasTerm | hasIndex | hasCtx | hasOk,
		api.MsgSnap:     hasTerm | hasIndex | hasLogTerm | hasConf | hasData,
		api.MsgNow:      hasTerm,
		api.MsgPrepare:  hasHead | hasData,
		api.MsgPrepared: hasHead | hasOk,
		api.MsgSettle:   hasHead,
		api.MsgDrop:     hasHead,
		api.MsgDropped:  hasHead,
		api.MsgFetch:    hasHead,
		api.MsgFetched:  hasHead | hasOk | hasData,
		api.MsgAsk:      hasClient | hasSeq | hasOp | hasKey | hasData,
		api.MsgTell:     hasClient | hasSeq | hasCode | hasData | hasNames | hasCtx,
		api.MsgPing:     hasCtx,
		api.MsgPong:     hasCtx,
	}
}

// rest is what a message has in fields that its kind does not use. A list stands in it by its length, so that all of it can be compared at once, and an empty one is as good as none.
type rest struct {
	term     uint64
	index    uint64
	logTerm  uint64
	commit   uint64
	ctx      uint64
	ok       bool
	force    bool
	entries  int
	voters   int
	learners int
	head     api.Header
	data     int
	client   uint64
	seq      uint64
	op       api.OpKind
	key      string
	code     api.Code
	names    int
}

// check refuses a message with anything that its kind does not use.
func check(m api.Msg) error {
	uses, known := used()[m.Kind]
	if !known || leftOver(m, uses) != (rest{}) {
		return refusal{api.ErrArg}
	}
	return nil
}

// leftOver is what m has beside the fields that it uses.
func leftOver(m api.Msg, uses fields) rest {
	return rest{
		term:     unless(uses&hasTerm, m.Term),
		index:    unless(uses&hasIndex, m.Index),
		logTerm:  unless(uses&hasLogTerm, m.LogTerm),
		commit:   unless(uses&hasCommit, m.Commit),
		ctx:      unless(uses&hasCtx, m.Ctx),
		ok:       unless(uses&hasOk, m.Ok),
		force:    unless(uses&hasForce, m.Force),
		entries:  unless(uses&hasEntries, len(m.Entries)),
		voters:   unless(uses&hasConf, len(m.Conf.Voters)),
		learners: unless(uses&hasConf, len(m.Conf.Learners)),
		head:     unless(uses&hasHead, m.Head),
		data:     unless(uses&hasData, len(m.Data)),
		client:   unless(uses&hasClient, m.Client),
		seq:      unless(uses&hasSeq, m.Seq),
		op:       unless(uses&hasOp, m.Op),
		key:      unless(uses&hasKey, m.Key),
		code:     unless(uses&hasCode, m.Code),
		names:    unless(uses&hasNames, len(m.Names)),
	}
}

// unless is x if its field is not used, else nothing.
func unless[T any](uses fields, x T) (nothing T) {
	if uses == 0 {
		return x
	}
	return nothing
}
