package journal

import (
	"strconv"
	"strings"

	"buttress/api"
	"buttress/disk"
)

// shelf is where a journal's files stand: a disk, and what their names begin with.
type shelf struct {
	disk *disk.Disk
	name string
}

// label is what the name of a file tells: of which generation it is, and which one of its files.
type label struct {
	generation int
	part       int
}

// file is the name of a file.
func (s shelf) file(l label) string {
	return s.name + "." + strconv.Itoa(l.generation) + "." + strconv.Itoa(l.part)
}

// label is what a name tells, if it is that of a file of the journal.
func (s shelf) label(file string) (label, bool) {
	rest, _ := strings.CutPrefix(file, s.name+".")
	front, back, _ := strings.Cut(rest, ".")
	generation, _ := strconv.ParseUint(front, 10, 32)
	part, _ := strconv.ParseUint(back, 10, 32)
	l := label{generation: int(generation), part: int(part)}
	return l, s.file(l) == file
}

// labels are those of the journal's files.
func (s shelf) labels() []label {
	var list []label
	for _, file := range s.disk.Names() {
		if l, ok := s.label(file); ok {
			list = append(list, l)
		}
	}
	return list
}

// newest is the greatest generation of which there is a file; 0 if there is none.
func (s shelf) newest() int {
	greatest := 0
	for _, l := range s.labels() {
		greatest = max(greatest, l.generation)
	}
	return greatest
}

// discard takes a file away. Its first sector goes safely ahead of it: a crash may bring the file back, but nothing that is read of it.
func (s shelf) discard(l label) error {
	file := s.file(l)
	if err := refused(file, s.disk.Write(file, 0, make([]byte, api.SectorSize))); err != nil {
		return err
	}
	if err := refused(file, s.disk.Sync(file)); err != nil {
		return err
	}
	return refused(file, s.disk.Remove(file))
}
