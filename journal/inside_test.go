package journal

import (
	"bytes"
	"errors"
	"strings"
	"testing"

	"buttress/api"
	"buttress/disk"
	"buttress/wire"
)

// These look at what is inside.

func TestWhatWasRefusedDoesNotComeBack(t *testing.T) {
	framed, e := wire.Frame([]byte("stale"))
	does(t, e)
	d := disk.New()
	j := open(t, d, "j")
	want := [][]byte{make([]byte, 4000000)}
	does(t, j.Append(want[0]), j.Sync())
	crowd(t, d, 255)
	for shift := range framed {
		long := append(make([]byte, shift), bytes.Repeat(framed, 20000)...)
		is(t, "Append", j.Append(long), api.ErrFull)
		// A record that ends where a sector does: what was left behind it, if anything was, would follow.
		r := make([]byte, held-(len(j.tail)+12)%held)
		does(t, j.Append(r))
		if want = append(want, r); len(j.tail)%held != 0 {
			t.Fatal("the last sector is not full")
		}
		has(t, "found", open(t, d, "j"), nil, want...)
		does(t, j.Sync())
	}
}

func TestWhatTheDiskRefusesIsWrapped(t *testing.T) {
	for e, want := range map[api.Errno]error{api.ErrDead: errDead, api.ErrFull: errFull, api.ErrFile: errFiles, api.ErrArg: errFiles} {
		err := refused("j.0.0", e)
		for _, other := range []error{errDead, errFull, errFiles} {
			if errors.Is(err, other) != (other == want) {
				t.Error(e, other)
			}
		}
		if !strings.Contains(err.Error(), "j.0.0") || !strings.Contains(err.Error(), want.Error()) {
			t.Error(err)
		}
	}
	if refused("j.0.0", api.OK) != nil || number(nil) != api.OK {
		t.Error("OK is refused")
	}
	is(t, "dead", number(refused("a", api.ErrDead)), api.ErrDead)
	is(t, "full", number(refused("a", api.ErrFull)), api.ErrFull)
	is(t, "other", number(refused("a", api.ErrFile)), api.ErrJournal)
}

func TestSectorsAreCutSoThatNothingIsAppendedToThem(t *testing.T) {
	s := stream{tail: bytes.Repeat([]byte("x"), 200)}
	before := bytes.Clone(s.tail)
	for i, many := range []byte{63, 63, 63, 11} {
		if x := s.sector(i); x[0] != many || len(x) != 64 {
			t.Error(i, x)
		}
	}
	s.tail = s.tail[:70]
	s.sector(1)
	if !bytes.Equal(s.tail[:200], before) {
		t.Error("what is behind the tail is written upon")
	}
}
