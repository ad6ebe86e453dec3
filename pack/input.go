package pack

import (
	"math"

	"buttress/api"
	"buttress/octet"
)

// longest is how many elements a list or a text that is read has at most.
const longest = 1048576

// input is bytes, and the place in them up to which they have been read. Each of its methods reads one thing, or gives all reading up where that does not stand there.
type input struct {
	all []byte
	at  int
}

// read is what stands at a place of b, and the place behind it; ErrArg if there is no such place, or the error with which the reading was given up. What else it may panic with is a fault of this package, and is not hidden.
func read[T any](b []byte, at int, how func(*input) T) (x T, behind int, e api.Errno) {
	if at < 0 || at > len(b) {
		return x, 0, api.ErrArg
	}
	defer func() {
		if why := recover(); why != nil {
			e = why.(api.Errno)
		}
	}()
	in := input{all: b, at: at}
	got := how(&in)
	return got, in.at, api.OK
}

// readList is a list whose length stands ahead of its elements. It grows by what is there: a length alone says little of what follows.
func readList[T any](in *input, how func(*input) T) []T {
	many := in.number()
	demand(many <= longest)
	var list []T
	for range many {
		list = append(list, how(in))
	}
	return list
}

// demand gives the reading up, unless ok.
func demand(ok bool) {
	if !ok {
		panic(api.ErrPack)
	}
}

// take is what one of layer 3's readings finds at the place, which moves behind it.
func take[T any](in *input, how func([]byte, int) (T, int, api.Errno)) T {
	x, behind, e := how(in.all, in.at)
	demand(e == api.OK)
	in.at = behind
	return x
}

func (in *input) number() uint64 {
	return take(in, octet.Number)
}

func (in *input) number32() uint32 {
	n := in.number()
	demand(n <= math.MaxUint32)
	return uint32(n)
}

func (in *input) integer() int {
	return take(in, octet.Int)
}

func (in *input) flag() bool {
	return take(in, octet.Flag)
}

func (in *input) text() string {
	return string(take(in, func(b []byte, at int) ([]byte, int, api.Errno) {
		return octet.Bytes(b, at, longest)
	}))
}

func (in *input) integers() []int {
	return readList(in, (*input).integer)
}

func (in *input) chunkID() api.ChunkID {
	return api.ChunkID{
		Version: in.number(),
		Index:   in.integer(),
		Epoch:   in.number(),
	}
}

func (in *input) header() api.Header {
	return api.Header{
		ID:   in.chunkID(),
		K:    in.integer(),
		N:    in.integer(),
		Size: in.integer(),
		Sum:  in.number32(),
	}
}

func (in *input) conf() api.Conf {
	return api.Conf{
		Voters:   in.integers(),
		Learners: in.integers(),
	}
}

func (in *input) member() api.Member {
	return api.Member{
		ID:     in.integer(),
		Weight: in.integer(),
	}
}

// layout is a map: that word is the language's own.
func (in *input) layout() api.Map {
	return api.Map{
		Epoch:   in.number(),
		Members: readList(in, (*input).member),
	}
}

func (in *input) cmd() api.Cmd {
	return api.Cmd{
		Kind:    api.CmdKind(in.integer()),
		Client:  in.number(),
		Seq:     in.number(),
		Key:     in.text(),
		Size:    in.integer(),
		Sum:     in.number32(),
		Version: in.number(),
		Epoch:   in.number(),
		Group:   in.integer(),
		Node:    in.integer(),
		Up:      in.flag(),
		ID:      in.chunkID(),
		Map:     in.layout(),
	}
}

func (in *input) entry() api.Entry {
	return api.Entry{
		Index: in.number(),
		Term:  in.number(),
		Kind:  api.EntryKind(in.integer()),
		Cmd:   in.cmd(),
		Conf:  in.conf(),
	}
}

func (in *input) object() api.Object {
	return api.Object{
		Key:     in.text(),
		Version: in.number(),
		Size:    in.integer(),
		Sum:     in.number32(),
		Group:   in.integer(),
		Epoch:   in.number(),
		Nodes:   in.integers(),
	}
}

func (in *input) intent() api.Intent {
	return api.Intent{
		Object: in.object(),
		Client: in.number(),
		Seq:    in.number(),
	}
}

func (in *input) session() api.Session {
	return api.Session{
		Client:  in.number(),
		Seq:     in.number(),
		Open:    in.flag(),
		Version: in.number(),
		Code:    api.Code(in.integer()),
	}
}

func (in *input) waste() api.Waste {
	return api.Waste{
		ID:   in.chunkID(),
		Node: in.integer(),
	}
}

func (in *input) meta() api.Meta {
	return api.Meta{
		K:        in.integer(),
		N:        in.integer(),
		Groups:   in.integer(),
		Map:      in.layout(),
		Next:     in.layout(),
		Cut:      in.integers(),
		Objects:  readList(in, (*input).object),
		Intents:  readList(in, (*input).intent),
		Sessions: readList(in, (*input).session),
		Wastes:   readList(in, (*input).waste),
		Down:     in.integers(),
		Last:     in.number(),
	}
}
