package wire

import (
	"slices"

	"buttress/api"
	"buttress/octet"
	"buttress/pack"
)

// longest is how many elements a list or a text that is read has at most.
const longest = 1048576

// put is the bytes of m. Each field is put behind nothing, and all are joined at once: put one behind the other, what is there already would be copied for each.
func put(m api.Msg) []byte {
	return slices.Concat(
		octet.PutInt(nil, int(m.Kind)),
		octet.PutInt(nil, m.From),
		octet.PutInt(nil, m.To),
		octet.PutNumber(nil, m.Term),
		octet.PutNumber(nil, m.Index),
		octet.PutNumber(nil, m.LogTerm),
		octet.PutNumber(nil, m.Commit),
		octet.PutNumber(nil, m.Ctx),
		octet.PutFlag(nil, m.Ok),
		octet.PutFlag(nil, m.Force),
		putList(m.Entries, pack.PutEntry),
		pack.PutConf(nil, m.Conf),
		pack.PutHeader(nil, m.Head),
		octet.PutBytes(nil, m.Data),
		octet.PutNumber(nil, m.Client),
		octet.PutNumber(nil, m.Seq),
		octet.PutInt(nil, int(m.Op)),
		putText(nil, m.Key),
		octet.PutInt(nil, int(m.Code)),
		putList(m.Names, putText),
	)
}

// putList is the length of a list, then its elements.
func putList[T any](list []T, how func([]byte, T) []byte) []byte {
	all := octet.PutNumber(nil, uint64(len(list)))
	for _, x := range list {
		all = append(all, how(nil, x)...)
	}
	return all
}

func putText(out []byte, s string) []byte {
	return octet.PutBytes(out, []byte(s))
}

// get is the message whose bytes b are.
func get(b []byte) (api.Msg, error) {
	in := input{all: b}
	m := in.message()
	in.demand(in.at == len(b))
	if in.err != nil {
		return api.Msg{}, in.err
	}
	return m, nil
}

// input is bytes, the place in them up to which they have been read, and why no more of them is: from then on all that is read is zero.
type input struct {
	all []byte
	at  int
	err error
}

// demand refuses all of it, unless ok.
func (in *input) demand(ok bool) {
	if !ok {
		in.err = refusal{api.ErrPack}
	}
}

// take is what one of the lower layers' readings finds at the place, which moves behind it.
func take[T any](in *input, how func([]byte, int) (T, int, api.Errno)) (x T) {
	if in.err != nil {
		return x
	}
	x, behind, e := how(in.all, in.at)
	in.demand(e == api.OK)
	in.at = behind
	return x
}

// takeList is a list whose length stands ahead of its elements. It grows by what is there: a length alone says little of what follows.
func takeList[T any](in *input, how func([]byte, int) (T, int, api.Errno)) []T {
	many := take(in, octet.Number)
	in.demand(many <= longest)
	var list []T
	for range many {
		x := take(in, how)
		if in.err != nil {
			return nil
		}
		list = append(list, x)
	}
	return list
}

// data reads a list of bytes.
func data(b []byte, at int) ([]byte, int, api.Errno) {
	return octet.Bytes(b, at, longest)
}

func text(b []byte, at int) (string, int, api.Errno) {
	x, behind, e := data(b, at)
	return string(x), behind, e
}

// message reads the fields in the order in which put puts them.
func (in *input) message() api.Msg {
	return api.Msg{
		Kind:    api.MsgKind(take(in, octet.Int)),
		From:    take(in, octet.Int),
		To:      take(in, octet.Int),
		Term:    take(in, octet.Number),
		Index:   take(in, octet.Number),
		LogTerm: take(in, octet.Number),
		Commit:  take(in, octet.Number),
		Ctx:     take(in, octet.Number),
		Ok:      take(in, octet.Flag),
		Force:   take(in, octet.Flag),
		Entries: takeList(in, pack.Entry),
		Conf:    take(in, pack.Conf),
		Head:    take(in, pack.Header),
		Data:    take(in, data),
		Client:  take(in, octet.Number),
		Seq:     take(in, octet.Number),
		Op:      api.OpKind(take(in, octet.Int)),
		Key:     take(in, text),
		Code:    api.Code(take(in, octet.Int)),
		Names:   takeList(in, text),
	}
}
