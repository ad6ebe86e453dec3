package pack

import (
	"bytes"

	"buttress/api"
	"buttress/octet"
)

// output is bytes behind which more is put. Each of its methods puts one thing; those of structs go through the fields in api's order, and input's read them in the same one.
type output struct {
	all []byte
}

// put is out, which is not written to, with x behind it.
func put[T any](out []byte, x T, how func(*output, T)) []byte {
	o := output{all: bytes.Clone(out)}
	how(&o, x)
	return o.all
}

// putList puts the length of a list, then its elements.
func putList[T any](o *output, list []T, how func(*output, T)) {
	o.number(uint64(len(list)))
	for _, x := range list {
		how(o, x)
	}
}

// add puts bytes that layer 3 made of nothing: handed all that is there, it would copy that anew for each number.
func (o *output) add(b []byte) {
	o.all = append(o.all, b...)
}

func (o *output) number(n uint64) {
	o.add(octet.PutNumber(nil, n))
}

func (o *output) integer(n int) {
	o.add(octet.PutInt(nil, n))
}

func (o *output) flag(f bool) {
	o.add(octet.PutFlag(nil, f))
}

func (o *output) text(s string) {
	o.add(octet.PutBytes(nil, []byte(s)))
}

func (o *output) integers(list []int) {
	putList(o, list, (*output).integer)
}

func (o *output) chunkID(id api.ChunkID) {
	o.number(id.Version)
	o.integer(id.Index)
	o.number(id.Epoch)
}

func (o *output) header(h api.Header) {
	o.chunkID(h.ID)
	o.integer(h.K)
	o.integer(h.N)
	o.integer(h.Size)
	o.number(uint64(h.Sum))
}

func (o *output) conf(c api.Conf) {
	o.integers(c.Voters)
	o.integers(c.Learners)
}

func (o *output) member(m api.Member) {
	o.integer(m.ID)
	o.integer(m.Weight)
}

// layout puts a map: that word is the language's own.
func (o *output) layout(m api.Map) {
	o.number(m.Epoch)
	putList(o, m.Members, (*output).member)
}

func (o *output) cmd(c api.Cmd) {
	o.integer(int(c.Kind))
	o.number(c.Client)
	o.number(c.Seq)
	o.text(c.Key)
	o.integer(c.Size)
	o.number(uint64(c.Sum))
	o.number(c.Version)
	o.number(c.Epoch)
	o.integer(c.Group)
	o.integer(c.Node)
	o.flag(c.Up)
	o.chunkID(c.ID)
	o.layout(c.Map)
}

func (o *output) entry(e api.Entry) {
	o.number(e.Index)
	o.number(e.Term)
	o.integer(int(e.Kind))
	o.cmd(e.Cmd)
	o.conf(e.Conf)
}

func (o *output) object(x api.Object) {
	o.text(x.Key)
	o.number(x.Version)
	o.integer(x.Size)
	o.number(uint64(x.Sum))
	o.integer(x.Group)
	o.number(x.Epoch)
	o.integers(x.Nodes)
}

func (o *output) intent(x api.Intent) {
	o.object(x.Object)
	o.number(x.Client)
	o.number(x.Seq)
}

func (o *output) session(s api.Session) {
	o.number(s.Client)
	o.number(s.Seq)
	o.flag(s.Open)
	o.number(s.Version)
	o.integer(int(s.Code))
}

func (o *output) waste(w api.Waste) {
	o.chunkID(w.ID)
	o.integer(w.Node)
}

func (o *output) meta(m api.Meta) {
	o.integer(m.K)
	o.integer(m.N)
	o.integer(m.Groups)
	o.layout(m.Map)
	o.layout(m.Next)
	o.integers(m.Cut)
	putList(o, m.Objects, (*output).object)
	putList(o, m.Intents, (*output).intent)
	putList(o, m.Sessions, (*output).session)
	putList(o, m.Wastes, (*output).waste)
	o.integers(m.Down)
	o.number(m.Last)
}
