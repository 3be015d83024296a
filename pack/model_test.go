package pack

import (
	"bytes"
	"crypto/sha256"
	"encoding/binary"
	"hash/crc32"
	"math"
	"math/rand"
	"slices"
	"testing"

	"estuary/api"
	"estuary/digest"
	"estuary/edit"
	"estuary/update"
	"estuary/wire"
)

func pick[T any](r *rand.Rand, l ...T) T { return l[r.Intn(len(l))] }

// wireRuns is runs by the chapter's words: a number is of a run, if one beside it is like it.
func wireRuns(l []uint64) []byte {
	inRun := func(i int) bool { return i > 0 && l[i] == l[i-1] || i+1 < len(l) && l[i] == l[i+1] }
	var b []byte
	for i := 0; i < len(l); {
		end := i + 1
		if inRun(i) {
			for end < len(l) && l[end] == l[i] {
				end++
			}
			b = binary.AppendVarint(b, int64(end-i))
			b = binary.AppendUvarint(b, l[i])
		} else {
			for end < len(l) && !inRun(end) {
				end++
			}
			b = binary.AppendVarint(b, int64(i-end))
			for _, x := range l[i:end] {
				b = binary.AppendUvarint(b, x)
			}
		}
		i = end
	}
	return b
}

// wireDeltas is deltas by the chapter's words.
func wireDeltas(l []int64) []byte {
	var folded []uint64
	for i, x := range l {
		if i > 0 {
			x -= l[i-1]
		}
		n, _ := binary.Uvarint(binary.AppendVarint(nil, x))
		folded = append(folded, n)
	}
	return wireRuns(folded)
}

// wireUnRuns reads runs by the chapter's words, of not too many numbers.
func wireUnRuns(b []byte, n int) ([]uint64, api.Errno, int) {
	if n < 0 {
		return nil, api.ErrRange, 0
	}
	r := wire.NewReader(b)
	var l []uint64
	for r.Left() > 0 {
		at := r.At()
		count := r.Int()
		if why, place := r.Fault(); why != api.OK {
			return nil, why, place
		}
		if count == 0 || count == 1 {
			return nil, api.ErrForm, at
		}
		if many := max(count, -count); many < 0 || many > int64(n-len(l)) {
			return nil, api.ErrColumn, at
		}
		for range max(1, -count) {
			l = append(l, r.Uint(math.MaxUint64))
			if why, place := r.Fault(); why != api.OK {
				return nil, why, place
			}
		}
		for range max(1, count) - 1 {
			l = append(l, l[len(l)-1])
		}
		if !bytes.Equal(wireRuns(l), b[:r.At()]) {
			return nil, api.ErrForm, at
		}
	}
	if len(l) < n {
		return nil, api.ErrColumn, len(b)
	}
	return l, api.OK, 0
}

// wireUnDeltas reads deltas by the chapter's words.
func wireUnDeltas(b []byte, n int) ([]int64, api.Errno, int) {
	folded, why, at := wireUnRuns(b, n)
	var l []int64
	for i, x := range folded {
		d, _ := binary.Varint(binary.AppendUvarint(nil, x))
		if i > 0 {
			d += l[i-1]
		}
		l = append(l, d)
	}
	return l, why, at
}

// table is saved bytes in parts.
type table struct {
	n       []byte
	columns [9][]byte
	behind  []byte // what stands behind the columns
}

// bytes puts saved bytes together, with the sum.
func (x *table) bytes() []byte {
	b := append([]byte("ESP1"), x.n...)
	for _, c := range x.columns {
		b = binary.AppendUvarint(b, uint64(len(c)))
		b = append(b, c...)
	}
	return summed(append(b, x.behind...))
}

// place is that of a column's Raw, from 1 on.
func (x *table) place(column int) int {
	at := 4 + len(x.n)
	for _, c := range x.columns[:column-1] {
		at += len(binary.AppendUvarint(nil, uint64(len(c)))) + len(c)
	}
	return at
}

func summed(b []byte) []byte {
	return binary.BigEndian.AppendUint32(slices.Clip(b), crc32.ChecksumIEEE(b))
}

func idOf(t *testing.T, u api.Update) api.Hash {
	t.Helper()
	b, why := update.Encode(u)
	if why != api.OK {
		t.Fatalf("%v: %d", u, why)
	}
	return sha256.Sum256(b)
}

// tableOf is the saved bytes of right updates by the chapter's words.
func tableOf(t *testing.T, l []api.Update) *table {
	t.Helper()
	var ids []api.Hash
	var parents, places, authors, counts []uint64
	var seqs, times []int64
	x := &table{n: binary.AppendUvarint(nil, uint64(len(l)))}
	var w wire.Writer
	for i, u := range l {
		parents = append(parents, uint64(len(u.Parents)))
		for _, h := range u.Parents {
			k := 1
			for k <= i && ids[i-k] != h {
				k++
			}
			if k > i {
				k = 0
				x.columns[2] = append(x.columns[2], h[:]...)
			}
			places = append(places, uint64(k))
		}
		authors, seqs, times = append(authors, uint64(u.Author)), append(seqs, int64(u.Seq)), append(times, u.Time)
		x.columns[6] = append(binary.AppendUvarint(x.columns[6], uint64(len(u.Note))), u.Note...)
		counts = append(counts, uint64(len(u.Edits)))
		for _, e := range u.Edits {
			edit.Write(&w, e)
		}
		ids = append(ids, idOf(t, u))
	}
	x.columns[0], x.columns[1], x.columns[3] = wireRuns(parents), wireRuns(places), wireRuns(authors)
	x.columns[4], x.columns[5], x.columns[7] = wireDeltas(seqs), wireDeltas(times), wireRuns(counts)
	x.columns[8], _ = w.Done()
	return x
}

// wireLoad loads by the chapter's words.
func wireLoad(b []byte) ([]api.Update, api.Errno, int) {
	switch {
	case len(b) > api.MaxPacked:
		return nil, api.ErrSize, 0
	case len(b) < 8:
		return nil, api.ErrShort, len(b)
	case !bytes.Equal(summed(b[:len(b)-4]), b):
		return nil, api.ErrSum, len(b) - 4
	}
	for i, x := range []byte{0x45, 0x53, 0x50, 0x31} {
		if b[i] != x {
			return nil, api.ErrMagic, i
		}
	}
	r := wire.NewReader(b[:len(b)-4])
	r.Fix32()
	n := int(r.Uint(api.MaxUpdates))
	var columns [9][]byte
	var at [9]int
	for i := range columns {
		at[i] = r.At()
		columns[i] = r.Raw(api.MaxPacked)
	}
	if why, place := r.Done(); why != api.OK {
		return nil, why, place
	}
	x, bad := loadColumns(n, columns)
	if bad > 0 {
		return nil, api.ErrColumn, at[bad-1]
	}
	l, bad := x.updates()
	if bad > 0 {
		return nil, api.ErrColumn, at[bad-1]
	}
	if len(l) < n {
		return nil, api.ErrColumn, 0
	}
	return l, api.OK, 0
}

// loaded is the columns of saved bytes, read.
type loaded struct {
	parents, places, authors, counts []uint64
	hashes                           []api.Hash
	seqs, times                      []int64
	notes                            []string
	edits                            []api.Edit
}

// loadColumns reads columns; the number of the first that is wrong.
func loadColumns(n int, columns [9][]byte) (x loaded, bad int) {
	const most = 1 << 53
	good := func(column int, ok bool) {
		if !ok && bad == 0 {
			bad = column
		}
	}
	runs := func(column, n int, most func(i int) uint64) []uint64 {
		l, why, _ := wireUnRuns(columns[column-1], n)
		good(column, why == api.OK)
		for i, v := range l {
			good(column, v <= most(i))
		}
		return l
	}
	deltas := func(column int) []int64 {
		l, why, _ := wireUnDeltas(columns[column-1], n)
		good(column, why == api.OK && !slices.ContainsFunc(l, func(v int64) bool { return v > most }))
		return l
	}
	one := func(v uint64) func(int) uint64 { return func(int) uint64 { return v } }
	x.parents = runs(1, n, one(8))
	if bad > 0 {
		return x, bad
	}
	var whose []uint64
	for i, k := range x.parents {
		whose = append(whose, slices.Repeat([]uint64{uint64(i)}, int(k))...)
	}
	x.places = runs(2, len(whose), func(i int) uint64 { return whose[i] })
	zeros := len(slices.DeleteFunc(slices.Clone(x.places), func(v uint64) bool { return v != 0 }))
	good(3, len(columns[2]) == 32*zeros)
	for h := range slices.Chunk(columns[2][:min(len(columns[2]), 32*zeros)/32*32], 32) {
		x.hashes = append(x.hashes, api.Hash(h))
	}
	x.authors, x.seqs, x.times = runs(4, n, one(most)), deltas(5), deltas(6)
	r := wire.NewReader(columns[6])
	for range n {
		x.notes = append(x.notes, r.Text(200))
	}
	why, _ := r.Done()
	good(7, why == api.OK)
	x.counts = runs(8, n, one(64))
	if bad > 0 {
		return x, bad
	}
	r = wire.NewReader(columns[8])
	for _, k := range x.counts {
		for range k {
			x.edits = append(x.edits, edit.Read(r))
		}
	}
	why, _ = r.Done()
	good(9, why == api.OK)
	return x, bad
}

// updates are those up to the first that is not right; 2, if a parent is told in another way.
func (x *loaded) updates() ([]api.Update, int) {
	var l []api.Update
	var ids []api.Hash
	for i, k := range x.parents {
		u := api.Update{Author: int(x.authors[i]), Seq: int(x.seqs[i]), Time: x.times[i], Note: x.notes[i], Edits: x.edits[:x.counts[i]]}
		x.edits = x.edits[x.counts[i]:]
		for _, place := range x.places[:k] {
			if place > 0 {
				u.Parents = append(u.Parents, ids[i-int(place)])
			} else {
				u.Parents = append(u.Parents, x.hashes[0])
				x.hashes = x.hashes[1:]
			}
			nearest := slices.Index(reversed(ids), u.Parents[len(u.Parents)-1]) + 1
			if uint64(nearest) != place {
				return nil, 2
			}
		}
		x.places = x.places[k:]
		b, why := update.Encode(u)
		if why != api.OK {
			break
		}
		l, ids = append(l, u), append(ids, digest.Sum(b))
	}
	return l, 0
}

func reversed(l []api.Hash) []api.Hash {
	l = slices.Clone(l)
	slices.Reverse(l)
	return l
}

func sameUpdates(a, b []api.Update) bool { return slices.EqualFunc(a, b, update.Same) }
