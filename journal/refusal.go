package journal

import (
	"errors"

	"estuary/api"
)

// What a disk, or a store, refuses.
var (
	errNil      = errors.New("there is no disk")
	errRange    = errors.New("a number that may not be")
	errFull     = errors.New("there is no room")
	errKnown    = errors.New("the file is there already")
	errName     = errors.New("not a name")
	errFile     = errors.New("there is no such file")
	errIO       = errors.New("the disk failed")
	errDirty    = errors.New("a cut is not synced")
	errFate     = errors.New("a fate that cannot be")
	errReadOnly = errors.New("nothing is written any more")
	errCorrupt  = errors.New("not a store's file")
)

// refusal is why something was refused that was asked of a file.
type refusal struct {
	file string
	why  error
}

func refuse(file string, why error) error { return &refusal{file, why} }

func (r *refusal) Error() string { return r.file + ": " + r.why.Error() }

func (r *refusal) Unwrap() error { return r.why }

// number is the number of what was refused; OK, if nothing was.
func number(err error) api.Errno {
	for _, x := range []struct {
		err error
		why api.Errno
	}{
		{errNil, api.ErrNil},
		{errRange, api.ErrRange},
		{errFull, api.ErrFull},
		{errKnown, api.ErrKnown},
		{errName, api.ErrName},
		{errFile, api.ErrFile},
		{errIO, api.ErrIO},
		{errDirty, api.ErrDirty},
		{errFate, api.ErrFate},
		{errReadOnly, api.ErrReadOnly},
		{errCorrupt, api.ErrCorrupt},
	} {
		if errors.Is(err, x.err) {
			return x.why
		}
	}
	return api.OK
}
