package journal

import (
	"bytes"

	"buttress/api"
)

// held is how many bytes of a stream a sector holds, behind the byte that tells how many there are.
const held = api.SectorSize - 1

// stream is a generation's bytes, in sectors of its files. The first sector that is not full ends it. As a sector only ever grows while it is not safe, a crash leaves a beginning of the stream, whichever sectors it takes and whatever stands in them: a sum might not tell.
type stream struct {
	shelf
	generation int

	// first is the number of the first sector that is not both full and safe, over all files; tail is what belongs there and behind it.
	first int
	tail  []byte
}

// read is all bytes that are found of the stream.
func (s *stream) read() []byte {
	var all []byte
	for at := range api.MaxFiles * api.MaxSectors {
		file, sector := s.place(at)
		data, e := s.disk.Read(file, sector)
		if e != api.OK || data[0] > held {
			break
		}
		all = append(all, data[1:1+data[0]]...)
		if data[0] < held {
			break
		}
	}
	return all
}

// extend puts more behind the stream, on the disk, too. If that is refused, the stream is as it was; of what is behind it on the disk then, and whether there is anything, nobody knows.
func (s *stream) extend(more []byte) error {
	before := len(s.tail)
	s.tail = append(s.tail, more...)
	err := s.room()
	for i := before / held; i < s.sectors() && err == nil; i++ {
		err = s.write(s.first+i, s.sector(i))
	}
	if err != nil {
		s.tail = s.tail[:before:before]
	}
	return err
}

// lay makes the disk have the stream from its first sector on, nothing behind it in its last file, and that safe. It writes only what is not there, for as a rule all is.
func (s *stream) lay() error {
	if err := s.ahead(); err != nil {
		return err
	}
	if err := s.room(); err != nil {
		return err
	}
	for i := range s.sectors() {
		if err := s.mend(s.first+i, s.sector(i)); err != nil {
			return err
		}
	}
	if err := s.clean(); err != nil {
		return err
	}
	for part := s.first / api.MaxSectors; part < s.parts(); part++ {
		file := s.part(part)
		if err := refused(file, s.disk.Sync(file)); err != nil {
			return err
		}
	}
	full := len(s.tail) / held
	s.first += full
	s.tail = bytes.Clone(s.tail[full*held:])
	return nil
}

// ahead refuses files in which what was safe ahead of the tail is not there any more.
func (s *stream) ahead() error {
	if s.first == 0 {
		return nil
	}
	file, sector := s.place(s.first - 1)
	data, e := s.disk.Read(file, sector)
	if e == api.OK && data[0] != held {
		e = api.ErrFile
	}
	return refused(file, e)
}

// clean makes noughts of what is behind the stream in its last file.
func (s *stream) clean() error {
	last := s.parts() - 1
	if last < 0 {
		return nil
	}
	file := s.part(last)
	size, e := s.disk.Size(file)
	for at := s.end(); at < last*api.MaxSectors+size; at++ {
		if err := s.mend(at, make([]byte, api.SectorSize)); err != nil {
			return err
		}
	}
	return refused(file, e)
}

// room refuses a stream for whose files there is no room on the disk: ahead of all writing, so that a stream that does not fit leaves nothing.
func (s *stream) room() error {
	missing := 0
	for part := range s.parts() {
		if _, e := s.disk.Size(s.part(part)); e == api.ErrFile {
			missing++
		}
	}
	if missing > 0 && missing > api.MaxFiles-len(s.disk.Names()) {
		return refused(s.part(s.parts()-1), api.ErrFull)
	}
	return nil
}

// mend writes a sector, unless it is there.
func (s *stream) mend(at int, data []byte) error {
	file, sector := s.place(at)
	there, e := s.disk.Read(file, sector)
	if e == api.OK && bytes.Equal(there, data) {
		return nil
	}
	return s.write(at, data)
}

// write writes a sector.
func (s *stream) write(at int, data []byte) error {
	file, sector := s.place(at)
	return refused(file, s.disk.Write(file, sector, data))
}

// sector is what the tail's sector i is to be.
func (s *stream) sector(i int) []byte {
	from := i * held
	to := min(from+held, len(s.tail))
	piece := s.tail[from:to:to]
	padded := append(piece, make([]byte, held-len(piece))...)
	return append([]byte{byte(len(piece))}, padded...)
}

// sectors is how many of them the tail takes.
func (s *stream) sectors() int {
	return (len(s.tail) + held - 1) / held
}

// end is the number of the first sector behind the stream.
func (s *stream) end() int {
	return s.first + s.sectors()
}

// parts is how many files the stream takes.
func (s *stream) parts() int {
	return (s.end() + api.MaxSectors - 1) / api.MaxSectors
}

// part is the name of one of the stream's files.
func (s *stream) part(i int) string {
	return s.file(label{generation: s.generation, part: i})
}

// place is the file in which a sector of the stream is, and its number there.
func (s *stream) place(at int) (string, int) {
	return s.part(at / api.MaxSectors), at % api.MaxSectors
}
