package journal

import (
	"slices"

	"buttress/wire"
)

// find is the journal that stands on a shelf: the youngest generation whose base is whole, or generation 0, which has none.
func find(s shelf) *Journal {
	var generations []int
	for _, l := range s.labels() {
		generations = append(generations, l.generation)
	}
	slices.Sort(generations)
	for _, generation := range slices.Backward(slices.Compact(generations)) {
		if j := found(s, generation); j != nil {
			return j
		}
	}
	return found(s, 0)
}

// found is the journal of a generation, up to the first frame that is not whole; nil without a base where there must be one.
func found(s shelf, generation int) *Journal {
	j := begin(s, generation, nil)
	whole := j.read()
	frames, end := wire.All(whole)
	j.tail = whole[:end:end]
	if generation > 0 {
		if len(frames) == 0 {
			return nil
		}
		j.base, frames = frames[0], frames[1:]
	}
	j.records = frames
	return j
}

// frame is b as a frame; b is no longer than one may be.
func frame(b []byte) []byte {
	framed, _ := wire.Frame(b)
	return framed
}
