package vault

import (
	"strings"

	"buttress/api"
)

const (
	// overhead is how many bytes the steps that make a chunk have at most, beside its own.
	overhead = 96

	// slack is how many bytes of records there may be beyond those that the chunks are worth.
	slack = 65536

	// ending is how many bytes of its files a journal takes at most for the two records that make a chunk Done, and let it go.
	ending = 128

	// longest is how many bytes of steps a base holds, behind the byte that tells the side.
	longest = api.MaxRecord - 1
)

// do makes a step safe, then does it; ErrDead, ErrFull.
func (v *Vault) do(s step) api.Errno {
	if e := v.tidy(); e != api.OK {
		return e
	}
	row := s.put()
	e := v.Append(row)
	if e == api.ErrArg {
		// It is not too long: there are as many records as a journal has.
		if e = v.renew(); e == api.OK {
			e = v.Append(row)
		}
	}
	if e != api.OK {
		return e
	}
	if e := v.Sync(); e != api.OK {
		v.adrift = true
		return e
	}
	v.laid += len(row)
	v.apply(s)
	return api.OK
}

// takes says whether the journal's files, and the files that the disk may yet have, take a step that makes a chunk, and besides all that ends chunks: for Settle and Drop nothing may be too much. A sixteenth is left for what the journal itself puts around records.
func (v *Vault) takes(s step) bool {
	names := v.disk.Names()
	sectors := (api.MaxFiles - len(names)) * api.MaxSectors
	for _, file := range names {
		if strings.HasPrefix(file, v.name+".") {
			size, _ := v.disk.Size(file)
			sectors += api.MaxSectors - size
		}
	}
	room := sectors * api.SectorSize / 16 * 15
	return len(s.data)+overhead+(len(v.chunks)+1)*ending <= room
}

// tidy makes the journal anew where it has a record that it should not have, or more of them than the chunks are worth.
func (v *Vault) tidy() api.Errno {
	if v.adrift {
		return v.renew()
	}
	if v.laid <= v.used+len(v.chunks)*overhead+slack {
		return api.OK
	}
	e := v.renew()
	if e == api.ErrFull {
		// The disk has no room for it, but may have some for a step. To try each time would take long.
		v.laid = 0
		return api.OK
	}
	return e
}

// renew makes the journal anew: all that is there is its base, and it has no records. What a base can't hold stands in annexes on the other side, which are safe ahead of it; ErrDead, ErrFull.
func (v *Vault) renew() api.Errno {
	// A base that was refused may be on the disk all the same, and go on in those annexes that go now.
	if e := v.Sync(); e != api.OK {
		return e
	}
	rows := v.rows()
	side := other(v.side)
	e := v.annex(side, rows[1:])
	if e == api.OK {
		e = v.Checkpoint(append([]byte{byte(side)}, rows[0]...))
	}
	if e == api.OK {
		v.side, v.laid, v.adrift = side, 0, false
	}
	if razed := v.razeOthers(); razed != api.OK {
		return razed
	}
	return e
}

// rows are steps that make all that is there, in at least one row, none longer than a base holds.
func (v *Vault) rows() [][]byte {
	rows := [][]byte{nil}
	for _, id := range v.List() {
		steps := making(v.chunks[id])
		last := len(rows) - 1
		if len(rows[last])+len(steps) > longest {
			rows = append(rows, nil)
			last++
		}
		rows[last] = append(rows[last], steps...)
	}
	return rows
}

// recall does what the journal tells: its base, with the annexes in which that goes on, and its records.
func (v *Vault) recall() {
	if base := v.Base(); len(base) > 0 {
		v.side = int(base[0])
		v.replay(base[1:])
		v.replayAnnexes()
	}
	for _, row := range v.Records() {
		v.laid += len(row)
		v.replay(row)
	}
}
