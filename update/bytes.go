package update

import (
	"estuary/api"
	"estuary/edit"
	"estuary/wire"
	"estuary/words"
)

const magic = "EST1" // the bytes with which each update begins

// part writes one part of an update.
type part func(w *wire.Writer)

// write writes parts, one behind the other.
func write(w *wire.Writer, parts ...part) {
	for _, p := range parts {
		p(w)
	}
}

func beginning(w *wire.Writer) {
	for i := range len(magic) {
		w.Byte(magic[i])
	}
}

func hashes(l []api.Hash) part {
	return func(w *wire.Writer) { w.Hashes(l) }
}

func number(n int64) part {
	return func(w *wire.Writer) { w.Uint(uint64(n)) }
}

func text(s string) part {
	return func(w *wire.Writer) { w.Text(s) }
}

// written is an update's bytes; what is wrong with the first edit that is not right, if one is.
func written(u *api.Update) ([]byte, api.Errno) {
	var w wire.Writer
	write(&w,
		beginning,
		hashes(u.Parents),
		number(int64(u.Author)),
		number(int64(u.Seq)),
		number(u.Time),
		text(u.Note),
		number(int64(len(u.Edits))),
	)
	for _, e := range u.Edits {
		edit.Write(&w, e)
	}
	return w.Done()
}

// Decode reads the bytes of a right update; the place of the fault, where there is one.
func Decode(b []byte) (api.Update, api.Errno, int) {
	if len(b) > api.MaxUpdate {
		return api.Update{}, api.ErrSize, 0
	}
	r := wire.NewReader(b)
	u := read(r)
	if why, at := r.Done(); why != api.OK {
		return api.Update{}, why, at
	}
	return u, api.OK, 0
}

// read reads part by part; a reader that has a fault answers zeros to the end, so that it is enough to ask for the fault there.
func read(r *wire.Reader) api.Update {
	var u api.Update
	readBeginning(r)
	u.Parents = r.Hashes(api.MaxParents)
	u.Author = int(readAbove0(r, api.MaxAuthor-1, api.ErrAuthor))
	u.Seq = int(readAbove0(r, api.MaxSeq, api.ErrSeq))
	u.Time = int64(r.Uint(api.MaxTime))
	u.Note = readNote(r)
	u.Edits = readEdits(r)
	return u
}

func readBeginning(r *wire.Reader) {
	for i := range len(magic) {
		at := r.At()
		if r.Byte() != magic[i] {
			r.Fail(api.ErrForm, at)
		}
	}
}

func readAbove0(r *wire.Reader, most uint64, why api.Errno) uint64 {
	at := r.At()
	n := r.Uint(most)
	if n == 0 {
		r.Fail(why, at)
	}
	return n
}

func readNote(r *wire.Reader) string {
	at := r.At()
	note := r.Text(api.MaxNote)
	if !words.Right(note) {
		r.Fail(api.ErrNote, at)
	}
	return note
}

func readEdits(r *wire.Reader) []api.Edit {
	l := make([]api.Edit, r.Uint(api.MaxEdits))
	for i := range l {
		l[i] = edit.Read(r)
	}
	return l
}
