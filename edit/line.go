package edit

import (
	"strings"

	"estuary/api"
	"estuary/words"
)

// Show is an edit as a line of text.
func Show(e api.Edit) string {
	if Right(e) != api.OK {
		return ""
	}
	line := []string{Name(e.Act)}
	for _, f := range used(e.Act) {
		line = append(line, f.show(&e))
	}
	return strings.Join(line, " ")
}

// Parse reads a line; where it has a fault, the number of the word at fault.
func Parse(s string) (api.Edit, api.Errno, int) {
	line := words.Split(s)
	if len(line) == 0 {
		return api.Edit{}, api.ErrAct, 0
	}
	e := api.Edit{Act: actNamed(line[0])}
	if e.Act == 0 {
		return api.Edit{}, api.ErrAct, 0
	}
	asked := used(e.Act)
	for i, f := range asked {
		at := i + 1
		if at >= len(line) || !f.parse(line[at], &e) || !f.fits(&e) {
			return api.Edit{}, api.ErrField, at
		}
	}
	if len(line) > len(asked)+1 {
		return api.Edit{}, api.ErrField, len(asked) + 1
	}
	if !agree(&e) {
		return api.Edit{}, api.ErrField, 0
	}
	return e, api.OK, 0
}

// actNamed is the act of a name, 0 if there is none.
func actNamed(name string) api.Act {
	for a := put; a <= revoke; a++ {
		if Name(a) == name {
			return a
		}
	}
	return 0
}
