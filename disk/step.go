package disk

import (
	"cmp"
	"slices"
)

// naming is a step of names: a file leaves the name from (empty: it is made) and has the name to (empty: it is removed).
type naming struct {
	from string
	to   string
	file *file
}

// in does the step among files by their names.
func (n naming) in(files map[string]*file) {
	delete(files, n.from)
	if n.to != "" {
		files[n.to] = n.file
	}
}

// writing is a step of a file: a sector that is written. Turn says which one it was of those of all files. It is the file's own, and not its name's, which another file may have when a crash comes.
type writing struct {
	turn  int
	file  *file
	at    int
	bytes sector
}

// name does a step of names, which is not safe yet.
func (d *Disk) name(n naming) {
	n.in(d.files)
	d.namings = append(d.namings, n)
}

// write does a step of a file, which is not safe yet.
func (d *Disk) write(f *file, at int, data []byte) {
	w := writing{turn: d.turn, file: f, at: at}
	copy(w.bytes[:], data)
	f.fresh.put(at, w.bytes)
	d.writings[f] = append(d.writings[f], w)
	d.turn++
}

// keepNames makes the first so many steps of names safe; none of them waits any more.
func (d *Disk) keepNames(many int) {
	for _, n := range d.namings[:many] {
		n.in(d.safe)
	}
	d.namings = nil
}

// keepSectors makes all steps of a file safe.
func (d *Disk) keepSectors(f *file) {
	for at, x := range f.fresh.written {
		f.safe.put(at, x)
	}
	f.fresh = sectors{}
	delete(d.writings, f)
}

// keepChosen makes those steps of files safe that keep chooses; none of them waits any more.
func (d *Disk) keepChosen(keep []byte) {
	for i, w := range d.waiting() {
		if chosen(keep, i) {
			w.file.safe.put(w.at, w.bytes)
		}
	}
	for f := range d.writings {
		f.fresh = sectors{}
	}
	clear(d.writings)
}

// waiting is the steps of files that are not safe, in the order in which they were done. Those of files that are gone are among them, for their going may not be safe.
func (d *Disk) waiting() []writing {
	var all []writing
	for _, own := range d.writings {
		all = append(all, own...)
	}
	slices.SortFunc(all, func(a, b writing) int { return cmp.Compare(a.turn, b.turn) })
	return all
}

// firstOnes is how many of so many steps of names keep chooses.
func firstOnes(keep []byte, many int) int {
	if len(keep) == 0 {
		return 0
	}
	return int(keep[0]) % (many + 1)
}

// chosen says whether keep chooses step i of files.
func chosen(keep []byte, i int) bool {
	at := 1 + i/8
	return at < len(keep) && keep[at]>>(i%8)&1 == 1
}
