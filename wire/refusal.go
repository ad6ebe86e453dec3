package wire

import (
	"errors"
	"strconv"

	"buttress/api"
)

// refusal is the error of all that this package refuses.
type refusal struct {
	why api.Errno
}

func (r refusal) Error() string {
	return "wire: refused by error " + strconv.Itoa(int(r.why))
}

// number is the number of an error; OK if there is none.
func number(err error) api.Errno {
	var r refusal
	if errors.As(err, &r) {
		return r.why
	}
	return api.OK
}
