package raft_test

import (
	"reflect"
	"slices"
	"testing"

	"buttress/api"
	"buttress/raft"
	"buttress/wire"
)

// draws are numbers that look like chance, the same in every run.
type draws uint64

func (d *draws) next() uint64 {
	*d = *d*6364136223846793005 + 1442695040888963407
	x := uint64(*d)
	x ^= x >> 33
	x *= 0xff51afd7ed558ccd
	return x ^ x>>29
}

// below is a number from 0 below n.
func (d *draws) below(n int) int {
	return int(d.next() >> 1 % uint64(n))
}

// from is a number from low to high.
func (d *draws) from(low uint64, high uint64) uint64 {
	return low + d.next()>>1%(high-low+1)
}

// one tells true once in n times.
func (d *draws) one(n int) bool {
	return d.below(n) == 0
}

// alike tells whether two values are the same, a nil list and an empty one among them.
func alike(a any, b any) bool {
	return sameValue(reflect.ValueOf(a), reflect.ValueOf(b))
}

func sameValue(a reflect.Value, b reflect.Value) bool {
	switch a.Kind() {
	case reflect.Struct:
		for i := range a.NumField() {
			if !sameValue(a.Field(i), b.Field(i)) {
				return false
			}
		}
		return true
	case reflect.Slice:
		if a.Len() != b.Len() {
			return false
		}
		for i := range a.Len() {
			if !sameValue(a.Index(i), b.Index(i)) {
				return false
			}
		}
		return true
	}
	return a.Equal(b)
}

// deep is a value in memory of its own.
func deep[T any](x T) T {
	own(reflect.ValueOf(&x).Elem(), 0)
	return x
}

// roomy is a value in memory of its own, in which all lists, also empty ones, have room behind their end.
func roomy[T any](x T) T {
	own(reflect.ValueOf(&x).Elem(), 3)
	return x
}

// own puts copies of lists, with room, in the place of those that a value has.
func own(v reflect.Value, room int) {
	switch v.Kind() {
	case reflect.Struct:
		for i := range v.NumField() {
			own(v.Field(i), room)
		}
	case reflect.Slice:
		list := reflect.MakeSlice(v.Type(), v.Len(), v.Len()+room)
		reflect.Copy(list, v)
		v.Set(list)
		if kind := v.Type().Elem().Kind(); kind == reflect.Struct || kind == reflect.Slice {
			for i := range v.Len() {
				own(v.Index(i), room)
			}
		}
	}
}

// span is where a list lies in memory, with the room behind its end.
type span struct {
	from uintptr
	to   uintptr
}

// spans are where all lists of a value lie.
func spans(v reflect.Value) []span {
	var all []span
	switch v.Kind() {
	case reflect.Struct:
		for i := range v.NumField() {
			all = append(all, spans(v.Field(i))...)
		}
	case reflect.Slice:
		if size := uintptr(v.Cap()) * v.Type().Elem().Size(); size > 0 {
			all = append(all, span{v.Pointer(), v.Pointer() + size})
		}
		for i := range v.Len() {
			all = append(all, spans(v.Index(i))...)
		}
	}
	return all
}

// apart tells whether no two lists of what is answered share memory, nor one of these and one of what was handed in.
func apart(handed []any, answered []any) bool {
	var given, got []span
	for _, x := range handed {
		given = append(given, spans(reflect.ValueOf(x))...)
	}
	for _, x := range answered {
		got = append(got, spans(reflect.ValueOf(x))...)
	}
	for i, one := range got {
		meets := func(other span) bool { return one.from < other.to && other.from < one.to }
		if slices.ContainsFunc(given, meets) || slices.ContainsFunc(got[:i], meets) {
			return false
		}
	}
	return true
}

// voters is a configuration without learners.
func voters(ids ...int) api.Conf {
	return api.Conf{Voters: ids}
}

// command is a command that has a list, and a number of its own.
func command(n uint64) api.Cmd {
	return api.Cmd{Kind: api.CmdMap, Seq: n, Key: "k", Map: api.Map{Epoch: n, Members: []api.Member{{ID: 1, Weight: 2}}}}
}

// entry is an entry with a command that tells its index and term.
func entry(index uint64, term uint64) api.Entry {
	return api.Entry{Index: index, Term: term, Kind: api.EntCmd, Cmd: command(100*index + term)}
}

// changes is an entry with a configuration.
func changes(index uint64, term uint64, c api.Conf) api.Entry {
	return api.Entry{Index: index, Term: term, Kind: api.EntConf, Conf: c}
}

// none is an entry with which a term begins.
func none(index uint64, term uint64) api.Entry {
	return api.Entry{Index: index, Term: term}
}

// entries are entries of those terms, the first one at an index.
func entries(index uint64, terms ...uint64) []api.Entry {
	var row []api.Entry
	for i, term := range terms {
		row = append(row, entry(index+uint64(i), term))
	}
	return row
}

// many are so many entries of a term, the first one at an index.
func many(index uint64, n int, term uint64) []api.Entry {
	return entries(index, slices.Repeat([]uint64{term}, n)...)
}

// tick, message and the others are what comes.
func tick() api.In {
	return api.In{Kind: api.InTick}
}

func message(m api.Msg) api.In {
	return api.In{Kind: api.InMsg, Msg: m}
}

// drawn is what comes, with a chance.
func drawn(draw int, in api.In) api.In {
	in.Draw = draw
	return in
}

// node is a state of node 1 of the voters 1, 2, 3 in term 3, changed as is wished: it follows node 2, which it heard 4 ticks ago, and has entries of the terms 1, 1, 2, 3, 3, two of them committed.
func node(how ...func(*api.Raft)) api.Raft {
	r := api.Raft{
		ID: 1, Election: 10, Beat: 2, Term: 3, BaseConf: voters(1, 2, 3),
		Log: entries(1, 1, 1, 2, 3, 3), Commit: 2,
		Lead: 2, Elapsed: 4, Timeout: 10, Ctx: 6,
	}
	for _, one := range how {
		one(&r)
	}
	return r
}

// leader is such a state of a node that leads; node 2 has four entries, node 3 two, and four are committed.
func leader(how ...func(*api.Raft)) api.Raft {
	lead := func(r *api.Raft) {
		r.Role, r.Lead, r.Vote, r.Elapsed, r.Commit = api.Leader, 1, 1, 0, 4
		r.Peers = []api.Peer{{ID: 1, Next: 6, Match: 5}, {ID: 2, Next: 5, Match: 4}, {ID: 3, Next: 3, Match: 2}}
	}
	return node(append([]func(*api.Raft){lead}, how...)...)
}

// short is such a state of a node that leads, whose snapshot ends with the entry 3, of term 2.
func short(how ...func(*api.Raft)) api.Raft {
	cut := func(r *api.Raft) {
		r.Base, r.BaseTerm, r.Snap, r.Log = 3, 2, []byte{7, 8}, entries(4, 3, 3)
		r.BaseConf = api.Conf{Voters: []int{1, 2, 3}, Learners: []int{4}}
	}
	return leader(append([]func(*api.Raft){cut}, how...)...)
}

// turn is a step: a state, what comes, what that changes (nil: nothing), and what it puts out.
type turn struct {
	name   string
	state  api.Raft
	in     api.In
	behind func(*api.Raft)
	out    api.Out
}

// held holds steps against what they should be, and the slow way of doing them too.
func held(t *testing.T, rows []turn) {
	t.Helper()
	for _, row := range rows {
		want := deep(row.state)
		if row.behind != nil {
			row.behind(&want)
		}
		if e := raft.Check(row.state); e != api.OK {
			t.Fatalf("%s: that state may not be: %d", row.name, e)
		}
		got, out := stepped(t, row.name, row.state, row.in)
		if !alike(got, want) {
			t.Errorf("%s: the state is\n%+v, want\n%+v", row.name, got, want)
		}
		if !alike(out, row.out) {
			t.Errorf("%s: it puts out\n%+v, want\n%+v", row.name, out, row.out)
		}
		got, out = slowStep(row.state, row.in)
		if !alike(got, want) || !alike(out, row.out) {
			t.Errorf("%s: the slow way differs:\n%+v\n%+v", row.name, got, out)
		}
	}
}

// stepped does a step, and holds it against what each must keep to: what is handed in stays as it was and is kept nowhere, and messages are such as their kinds are.
func stepped(t *testing.T, what string, r0 api.Raft, in0 api.In) (api.Raft, api.Out) {
	t.Helper()
	r, in := roomy(r0), roomy(in0)
	got, out := raft.Step(r, in)
	if !alike(r, r0) || !alike(in, in0) {
		t.Fatalf("%s: what was handed in was changed: %+v, %+v", what, r0, in0)
	}
	if !apart([]any{r, in}, []any{got, out}) {
		t.Fatalf("%s: lists share memory: %+v, %+v", what, r, in)
	}
	for _, m := range out.Msgs {
		if wire.Check(m) != api.OK || m.From != r.ID || m.To == r.ID {
			t.Fatalf("%s: a message that may not be: %+v", what, m)
		}
	}
	return got, out
}

// becomes is what is kept behind a step.
func becomes(k api.Kept, r api.Raft, o api.Out) api.Kept {
	if o.Snap {
		return raft.Kept(r)
	}
	if o.Hard {
		k.Term, k.Vote = r.Term, r.Vote
	}
	if o.Cut > 0 {
		k.Log = slices.DeleteFunc(slices.Clone(k.Log), func(e api.Entry) bool { return e.Index >= o.Cut })
	}
	k.Log = slices.Concat(k.Log, o.Added)
	return k
}
