package disk

import "buttress/api"

// sector is the bytes of a sector.
type sector [api.SectorSize]byte

// sectors are those that were written, by their numbers, and the number behind the greatest. Those between take no room: a file of one sector may be as long as one of all.
type sectors struct {
	written map[int]sector
	size    int
}

// put writes a sector.
func (s *sectors) put(at int, x sector) {
	if s.written == nil {
		s.written = map[int]sector{}
	}
	s.written[at] = x
	s.size = max(s.size, at+1)
}

// lay copies each sector to its place in all.
func (s sectors) lay(all []byte) {
	for at, x := range s.written {
		copy(all[at*api.SectorSize:], x[:])
	}
}

// file is a file's sectors: those that are safe, and the last step of each that is not.
type file struct {
	safe  sectors
	fresh sectors
}

// size is how many sectors the file has.
func (f *file) size() int {
	return max(f.safe.size, f.fresh.size)
}

// read is the bytes of a sector.
func (f *file) read(at int) []byte {
	x, ok := f.fresh.written[at]
	if !ok {
		x = f.safe.written[at]
	}
	data := make([]byte, api.SectorSize)
	copy(data, x[:])
	return data
}

// all is the sectors one behind the other.
func (f *file) all() []byte {
	all := make([]byte, f.size()*api.SectorSize)
	f.safe.lay(all)
	f.fresh.lay(all)
	return all
}
