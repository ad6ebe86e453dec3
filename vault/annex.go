package vault

import (
	"strconv"

	"buttress/api"
)

// A base has MaxRecord bytes at most. Where the chunks need more, it goes on in annexes: files beside the journal, each with a row of steps. There are two sides of them, so that one can be made while the base goes on in the other. No journal takes an annex for a file of its own, for there is no point behind the vault's name.

// The sides.
const (
	near = 1
	far  = 2
)

// other is the side that is not that one.
func other(side int) int {
	if side == near {
		return far
	}
	return near
}

// file is the name of an annex.
func (v *Vault) file(side int, i int) string {
	return v.name + "-" + strconv.Itoa(side) + "-" + strconv.Itoa(i)
}

// annexes is how many there are of a side.
func (v *Vault) annexes(side int) int {
	many := 0
	for {
		if _, e := v.disk.Size(v.file(side, many)); e != api.OK {
			return many
		}
		many++
	}
}

// annex makes rows the annexes of a side, which are safe then; ErrDead, ErrFull.
func (v *Vault) annex(side int, rows [][]byte) api.Errno {
	if e := v.raze(side); e != api.OK {
		return e
	}
	for i, row := range rows {
		if e := v.lay(v.file(side, i), row); e != api.OK {
			return e
		}
	}
	return api.OK
}

// lay makes a row a file, and that safe.
func (v *Vault) lay(file string, row []byte) api.Errno {
	for at := 0; at*api.SectorSize < len(row); at++ {
		sector := make([]byte, api.SectorSize)
		copy(sector, row[at*api.SectorSize:])
		if e := v.disk.Write(file, at, sector); e != api.OK {
			return e
		}
	}
	return v.disk.Sync(file)
}

// replayAnnexes does the steps of the annexes in which the base goes on.
func (v *Vault) replayAnnexes() {
	for i := range v.annexes(v.side) {
		file := v.file(v.side, i)
		size, _ := v.disk.Size(file)
		var row []byte
		for at := range size {
			sector, _ := v.disk.Read(file, at)
			row = append(row, sector...)
		}
		v.replay(row)
	}
}

// raze takes the annexes of a side away, the last one first: a crash may bring some of them back, but then the first ones, by which the others are found.
func (v *Vault) raze(side int) api.Errno {
	for i := v.annexes(side) - 1; i >= 0; i-- {
		if e := v.disk.Remove(v.file(side, i)); e != api.OK {
			return e
		}
	}
	return api.OK
}

// razeOthers takes the annexes away in which the base does not go on.
func (v *Vault) razeOthers() api.Errno {
	for _, side := range [...]int{near, far} {
		if side == v.side {
			continue
		}
		if e := v.raze(side); e != api.OK {
			return e
		}
	}
	return api.OK
}
