package journal

import (
	"errors"

	"buttress/api"
)

var (
	errDead  = errors.New("the disk has stopped")
	errFull  = errors.New("the disk takes no more")
	errFiles = errors.New("the disk has not the files that it should have")
)

// refusal is what a disk refused of a file; it wraps why.
type refusal struct {
	file string
	why  error
}

func (r refusal) Error() string {
	return "journal: " + r.file + ": " + r.why.Error()
}

func (r refusal) Unwrap() error {
	return r.why
}

// refused is what a disk answered of a file, as an error; nil of OK.
func refused(file string, e api.Errno) error {
	switch e {
	case api.OK:
		return nil
	case api.ErrDead:
		return refusal{file: file, why: errDead}
	case api.ErrFull:
		return refusal{file: file, why: errFull}
	}
	return refusal{file: file, why: errFiles}
}

// number is the number of an error; OK if there is none.
func number(err error) api.Errno {
	switch {
	case err == nil:
		return api.OK
	case errors.Is(err, errDead):
		return api.ErrDead
	case errors.Is(err, errFull):
		return api.ErrFull
	}
	return api.ErrJournal
}
