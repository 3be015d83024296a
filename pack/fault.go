package pack

import (
	"errors"
	"strconv"

	"estuary/api"
	"estuary/wire"
)

// fault is what is wrong with bytes, and its place among them.
type fault struct {
	why api.Errno
	at  int
}

func (f *fault) Error() string {
	return "error " + strconv.Itoa(int(f.why)) + " at byte " + strconv.Itoa(f.at)
}

// told is what an error says that is wrong, and where; OK and 0, if there is none.
func told(err error) (api.Errno, int) {
	var f *fault
	if errors.As(err, &f) {
		return f.why, f.at
	}
	return api.OK, 0
}

// ended is the fault of a reader that has read all that it was to read, if there is one.
func ended(r *wire.Reader) error {
	if why, at := r.Done(); why != api.OK {
		return &fault{why, at}
	}
	return nil
}

// stopped tells whether a reader has a fault, and reads nothing any more.
func stopped(r *wire.Reader) bool {
	why, _ := r.Fault()
	return why != api.OK
}
