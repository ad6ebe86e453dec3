package raft_test

import (
	"encoding/binary"
	"slices"
	"strconv"
	"testing"

	"buttress/api"
	"buttress/raft"
)

// P13.3: many nodes, a net that loses, doubles and delays, crashes.

// asked is a reading that was taken, and what was committed when it was.
type asked struct {
	id    uint64
	floor uint64
}

// member is a node: its state, what it has kept, a sum of what was applied, the readings that it owes.
type member struct {
	up   bool
	r    api.Raft
	kept api.Kept
	sum  uint64
	owes []asked
}

// world is nodes and a net, and all that is known of them.
type world struct {
	t       *testing.T
	d       draws
	members []*member // by id; nobody has the id 0
	net     []api.Msg
	ruler   map[uint64]int // who led a term
	apart   []int          // which nodes are cut off from the others
	steps   bool           // steps of who votes are asked

	// committed are the entries that were, one behind the other; in says in which term each was.
	committed []api.Entry
	in        []uint64
	sums      []uint64 // of the entries up to each
	next      uint64
	met       map[string]int
}

// begun is a world of so many nodes, of which those that are named vote.
func begun(t *testing.T, seed uint64, nodes int, c api.Conf) *world {
	w := &world{
		t: t, d: draws(seed), members: []*member{nil}, ruler: map[uint64]int{},
		committed: []api.Entry{{}}, in: []uint64{0}, sums: []uint64{0}, met: map[string]int{},
	}
	for id := 1; id <= nodes; id++ {
		r, e := raft.New(id, 6+w.d.below(6), 1+w.d.below(3), c)
		if e != api.OK {
			t.Fatal(e)
		}
		w.members = append(w.members, &member{up: true, r: r, kept: raft.Kept(r)})
	}
	return w
}

func (w *world) fail(what string, id int) {
	w.t.Helper()
	w.t.Fatalf("%s: node %d, %+v", what, id, w.members[id].r)
}

// blend is a sum with an entry.
func blend(sum uint64, e api.Entry) uint64 {
	d := draws(sum ^ e.Index<<32 ^ e.Term<<16 ^ e.Cmd.Seq ^ uint64(e.Kind)<<60)
	return d.next()
}

// snapshot is what was applied, as bytes, and as it was when these were made.
func snapshot(sum uint64) []byte {
	return binary.LittleEndian.AppendUint64(nil, sum)
}

// do lets something come to a node. What is put out is kept, then sent; one that crashes amid keeps nothing of it.
func (w *world) do(id int, in api.In) {
	m := w.members[id]
	in.Draw = w.d.below(40)
	old := m.r
	floor := uint64(len(w.committed) - 1)
	got, out := raft.Step(old, in)
	if raft.Check(got) != api.OK {
		w.fail("a state that may not be", id)
	}
	if w.d.one(1000) {
		w.crash(id)
		return
	}
	m.kept = becomes(m.kept, got, out)
	m.r = got
	if !alike(m.kept, raft.Kept(got)) {
		w.fail("not what was put out", id)
	}
	if got.Commit < old.Commit {
		w.fail("Commit fell", id)
	}
	if out.Snap && !out.Restored {
		w.met["snapshots"]++
	}
	w.apply(id, old.Commit, out)
	w.rules(id, old)
	if in.Kind == api.InRead && out.Err == api.OK {
		m.owes = append(m.owes, asked{in.Read, floor})
	}
	w.answers(id, out)
	w.net = append(w.net, out.Msgs...)
	if in.Kind == api.InTransfer && out.Err == api.OK {
		w.met["transfers"]++
	}
}

// apply does what is committed, and holds it against what was at other nodes.
func (w *world) apply(id int, at uint64, out api.Out) {
	m := w.members[id]
	if out.Restored {
		w.met["restored"]++
		if len(out.Apply) > 0 || !slices.Equal(m.r.Snap, snapshot(w.sums[m.r.Base])) {
			w.fail("restored to what was not committed", id)
		}
		m.sum = binary.LittleEndian.Uint64(m.r.Snap)
		return
	}
	for _, e := range out.Apply {
		if at++; e.Index != at {
			w.fail("applied out of order", id)
		}
		m.sum = blend(m.sum, e)
		if at == uint64(len(w.committed)) {
			w.committed = append(w.committed, e)
			w.in = append(w.in, m.r.Term)
			w.sums = append(w.sums, m.sum)
			if e.Kind == api.EntConf {
				w.met["steps"]++
			}
		}
		if !alike(e, w.committed[at]) {
			w.fail("two logs", id)
		}
	}
	if at != m.r.Commit {
		w.fail("not all is applied that is committed", id)
	}
}

// rules holds a node that leads against who led its term, and against what was committed ahead of it.
func (w *world) rules(id int, old api.Raft) {
	r := w.members[id].r
	if r.Role != api.Leader {
		if old.Role == api.Leader {
			w.met["deposed"]++
		}
		return
	}
	if ruler := w.ruler[r.Term]; ruler != 0 && ruler != id {
		w.fail("two lead a term, also node "+strconv.Itoa(ruler), id)
	}
	if w.ruler[r.Term] == 0 {
		w.met["leaders"]++
	}
	w.ruler[r.Term] = id
	for i := len(w.committed) - 1; i > int(r.Base); i-- {
		if w.in[i] >= r.Term {
			continue
		}
		if term, ok := raft.Term(r, uint64(i)); !ok || term != w.committed[i].Term {
			w.fail("a leader lacks what is committed", id)
		}
		// What is ahead is asked when it begins to lead.
		if old.Role == api.Leader {
			break
		}
	}
}

// answers takes the readings that are ready or lost off what the node owes: each is either, once.
func (w *world) answers(id int, out api.Out) {
	m := w.members[id]
	take := func(id uint64) asked {
		at := slices.IndexFunc(m.owes, func(a asked) bool { return a.id == id })
		if at < 0 {
			w.fail("a reading that nobody waits for", m.r.ID)
		}
		a := m.owes[at]
		m.owes = slices.Delete(m.owes, at, at+1)
		return a
	}
	for _, one := range out.Ready {
		w.met["ready"]++
		if a := take(one.ID); one.Index < a.floor || one.Index > m.r.Commit {
			w.fail("a reading of what is old", id)
		}
	}
	for _, one := range out.Lost {
		w.met["lost"]++
		take(one)
	}
	if len(m.owes) != len(m.r.Readings) {
		w.fail("a reading is gone", id)
	}
}

// crash stops a node and begins it anew, with what it kept.
func (w *world) crash(id int) {
	m := w.members[id]
	r, e := raft.Again(id, m.r.Election, m.r.Beat, m.kept)
	if e != api.OK {
		w.fail("not again", id)
	}
	w.met["crashes"]++
	m.r, m.owes, m.sum = r, nil, 0
	if r.Base > 0 {
		m.sum = binary.LittleEndian.Uint64(r.Snap)
	}
}

// deliver lets a message of the net come.
func (w *world) deliver(at int) {
	m := w.net[at]
	w.lose(at)
	if w.members[m.To].up && slices.Contains(w.apart, m.From) == slices.Contains(w.apart, m.To) {
		w.do(m.To, message(m))
	}
}

// somebody is a node, mostly one that thinks that it leads.
func (w *world) somebody() int {
	var leaders []int
	for id, m := range w.members {
		if id > 0 && m.up && m.r.Role == api.Leader {
			leaders = append(leaders, id)
		}
	}
	if len(leaders) == 0 || w.d.one(5) {
		return 1 + w.d.below(len(w.members)-1)
	}
	return leaders[w.d.below(len(leaders))]
}

// lose takes a message off the net.
func (w *world) lose(at int) {
	w.net[at] = w.net[len(w.net)-1]
	w.net = w.net[:len(w.net)-1]
}

// ask asks somebody something.
func (w *world) ask() {
	id := w.somebody()
	m := w.members[id]
	if !m.up {
		return
	}
	w.next++
	in := api.In{Kind: api.InCmd, Cmd: command(w.next), Read: w.next, Node: 1 + w.d.below(len(w.members)-1)}
	switch n := w.d.below(20); {
	case n < 10:
	case n < 14:
		in.Kind = api.InRead
	case n < 16 && w.steps:
		in.Kind = api.InStep
		in.Step = api.ConfStep{Kind: api.StepKind(1 + w.d.below(3)), Node: in.Node}
	case n < 17:
		in.Kind = api.InTransfer
	case m.r.Commit > m.r.Base:
		in.Kind = api.InSnap
		in.Index = w.d.from(m.r.Base+1, m.r.Commit)
		in.Data = snapshot(w.sums[in.Index])
	}
	w.do(id, in)
}

// disturb does what a node or the net may suffer.
func (w *world) disturb() {
	id := 1 + w.d.below(len(w.members)-1)
	m := w.members[id]
	switch w.d.below(8) {
	case 0:
		w.crash(id)
		m.up = true
	case 1:
		w.crash(id)
		m.up = false
	case 2, 3:
		for _, m := range w.members[1:] {
			m.up = true
		}
	case 4:
		w.apart = w.d.row(3, len(w.members)-1)
	default:
		w.apart = nil
	}
}

// live lets so much happen, in any order.
func (w *world) live(steps int) {
	for range steps {
		n := w.d.below(100)
		if len(w.net) > 60 {
			n = w.d.below(80)
		}
		switch at := w.d.below(len(w.net) + 1); {
		case n < 65 && at < len(w.net):
			w.deliver(at)
		case n < 68 && at < len(w.net):
			w.lose(at)
		case n < 71 && at < len(w.net):
			w.net = append(w.net, w.net[at])
		case n < 80:
			w.ask()
		case n < 81:
			w.disturb()
		default:
			if id := 1 + w.d.below(len(w.members)-1); w.members[id].up {
				w.do(id, tick())
			}
		}
	}
}

// calm lets rounds of ticks and messages pass without harm, and tells whether a command is committed by all whom it concerns.
func (w *world) calm() bool {
	w.apart = nil
	for _, m := range w.members[1:] {
		m.up = true
	}
	for range 300 {
		for id := 1; id < len(w.members); id++ {
			w.do(id, tick())
		}
		for range 2000 {
			if len(w.net) == 0 {
				break
			}
			w.deliver(0)
		}
		for _, m := range w.members[1:] {
			if m.r.Role == api.Leader && m.r.Target == 0 && w.settled(m.r) {
				return true
			}
		}
		w.next++
		w.do(w.somebody(), api.In{Kind: api.InCmd, Cmd: command(w.next)})
	}
	return false
}

// settled tells whether all nodes of a leader's configuration have committed what it has, and that of this term.
func (w *world) settled(r api.Raft) bool {
	c := raft.Conf(r)
	term, _ := raft.Term(r, r.Commit)
	last, _ := raft.Last(r)
	for _, id := range slices.Concat(c.Voters, c.Learners) {
		if m := w.members[id]; m.r.Commit != last || m.r.Term != r.Term || m.sum != w.sums[last] {
			return false
		}
	}
	return term == r.Term
}

func TestOneLog(t *testing.T) {
	met := map[string]int{}
	for seed := range uint64(60) {
		c := voters(1, 2, 3)
		switch seed % 5 {
		case 3:
			c = api.Conf{Voters: []int{1}, Learners: []int{2}}
		case 4:
			c = voters(1, 2, 3, 4, 5)
		}
		w := begun(t, seed, 5+int(seed%2), c)
		// A step of who votes that is cut short may leave nobody who can win an election: the node that has it is out of the voters, and the others lack it.
		w.steps = seed%3 > 0
		for range 4 {
			w.live(1000)
			if !w.steps && !w.calm() {
				t.Fatal("nothing is committed any more, world", seed)
			}
		}
		for name, n := range w.met {
			met[name] += n
		}
		met["committed"] += len(w.committed) - 1
	}
	enough(t, met, 100, "leaders", "deposed", "committed", "snapshots", "restored", "steps", "ready", "lost", "crashes", "transfers")
}
