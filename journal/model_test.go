package journal

import (
	"bytes"
	"encoding/binary"
	"hash/crc32"
	"math/rand"
	"slices"
	"strings"
	"testing"

	"estuary/api"
	"estuary/replica"
	"estuary/words"
)

func pick[T any](r *rand.Rand, l ...T) T { return l[r.Intn(len(l))] }

// plainDisk is a disk by the chapter's words.
type plainDisk struct {
	capacity   int
	files      []api.Image
	fail, stop int
	stopped    bool // Stop became 0
}

func copied(x api.Image) api.Image {
	return api.Image{Name: x.Name, Durable: slices.Clone(x.Durable), Now: slices.Clone(x.Now)}
}

func (d *plainDisk) fork() *plainDisk {
	f := *d
	f.files = nil
	for _, x := range d.files {
		f.files = append(f.files, copied(x))
	}
	return &f
}

func (d *plainDisk) find(name string) *api.Image {
	for i := range d.files {
		if d.files[i].Name == name {
			return &d.files[i]
		}
	}
	return nil
}

func (d *plainDisk) free() int {
	n := d.capacity
	for _, x := range d.files {
		n -= max(len(x.Now), len(x.Durable))
	}
	return n
}

func (d *plainDisk) images() []api.Image {
	l := d.fork().files
	slices.SortFunc(l, func(a, b api.Image) int { return strings.Compare(a.Name, b.Name) })
	return l
}

func open(x *api.Image) bool {
	return !(len(x.Now) >= len(x.Durable) && bytes.Equal(x.Now[:len(x.Durable)], x.Durable))
}

// changing counts a changing call: does it fail?
func (d *plainDisk) changing() bool {
	fails := d.stopped
	if d.fail > 0 {
		d.fail--
		fails = fails || d.fail == 0
	}
	if d.stop > 0 {
		d.stop--
		d.stopped = d.stopped || d.stop == 0
		fails = fails || d.stop == 0
	}
	return fails
}

func (d *plainDisk) create(name string) api.Errno {
	switch {
	case !words.Key(name):
		return api.ErrName
	case d.find(name) != nil:
		return api.ErrKnown
	case len(d.files) == 16:
		return api.ErrFull
	case d.changing():
		return api.ErrIO
	}
	d.files = append(d.files, api.Image{Name: name})
	return api.OK
}

func (d *plainDisk) append(name string, b []byte) (int, api.Errno) {
	x := d.find(name)
	switch {
	case x == nil:
		return 0, api.ErrFile
	case open(x):
		return 0, api.ErrDirty
	case len(b) > d.free():
		return 0, api.ErrFull
	case d.changing():
		return 0, api.ErrIO
	}
	at := len(x.Now)
	x.Now = slices.Concat(x.Now, b)
	return at, api.OK
}

func (d *plainDisk) sync(name string) api.Errno {
	x := d.find(name)
	switch {
	case x == nil:
		return api.ErrFile
	case d.changing():
		return api.ErrIO
	}
	x.Durable = slices.Clone(x.Now)
	return api.OK
}

func (d *plainDisk) cut(name string, n int) api.Errno {
	x := d.find(name)
	switch {
	case x == nil:
		return api.ErrFile
	case n < 0 || n > len(x.Now):
		return api.ErrRange
	case d.changing():
		return api.ErrIO
	}
	x.Now = slices.Clone(x.Now[:n])
	return api.OK
}

func (d *plainDisk) crash(l []api.Fate) api.Errno {
	left := d.fork().files
	for i := range left {
		left[i].Now = slices.Clone(left[i].Durable)
	}
	for i, f := range l {
		x := d.find(f.Name)
		if x == nil {
			return api.ErrFile
		}
		if slices.ContainsFunc(l[:i], func(g api.Fate) bool { return g.Name == f.Name }) {
			return api.ErrFate
		}
		loose := 0
		if !open(x) {
			loose = len(x.Now) - len(x.Durable)
		}
		if f.Keep < 0 || f.Keep > loose || len(f.Junk) > loose-f.Keep {
			return api.ErrFate
		}
		if open(x) {
			continue
		}
		for k := range left {
			if left[k].Name == f.Name {
				left[k].Now = slices.Concat(x.Durable, x.Now[len(x.Durable):len(x.Durable)+f.Keep], f.Junk)
				left[k].Durable = slices.Clone(left[k].Now)
			}
		}
	}
	*d = plainDisk{capacity: d.capacity, files: left}
	return api.OK
}

// framed is a frame by the words of wire's chapter.
func framed(kind byte, b []byte) []byte {
	f := binary.BigEndian.AppendUint32([]byte{kind}, uint32(len(b)))
	f = binary.BigEndian.AppendUint32(f, crc32.ChecksumIEEE(f))
	f = append(f, b...)
	return binary.BigEndian.AppendUint32(f, crc32.ChecksumIEEE(f))
}

func plainHead() []byte { return framed(1, []byte{0x45, 0x53, 0x54, 0x4a}) }

// unframed is the bytes of the frame of a kind with which b begins.
func unframed(kind byte, b []byte) ([]byte, bool) {
	if len(b) < 13 || b[0] != kind {
		return nil, false
	}
	n := int(binary.BigEndian.Uint32(b[1:]))
	if n > len(b)-13 || !bytes.Equal(framed(kind, b[9:9+n]), b[:13+n]) {
		return nil, false
	}
	return b[9 : 9+n], true
}

// plainStore is a store by the chapter's words.
type plainStore struct {
	d        *plainDisk
	name     string
	r        *replica.Replica
	records  [][]byte
	lost     int
	readOnly bool
}

// said is what a file says, the place at which what is lost begins, and whether it is corrupt.
func said(b []byte, o api.Options) (r *replica.Replica, records [][]byte, at int, corrupt bool) {
	r, _ = replica.New(o)
	h := plainHead()
	if len(b) <= len(h) && !bytes.Equal(b, h) {
		return r, nil, 0, false
	}
	if !bytes.HasPrefix(b, h) {
		return r, nil, 0, true
	}
	for at = len(h); ; {
		row, is := unframed(2, b[at:])
		next := r.Fork()
		if !is || next.Receive(row).Why != api.OK {
			return r, records, at, false
		}
		r, records, at = next, append(records, row), at+13+len(row)
	}
}

func plainOpen(d *plainDisk, name string, o api.Options) (*plainStore, api.Errno) {
	if !words.Key(name) {
		return nil, api.ErrName
	}
	if _, why := replica.New(o); why != api.OK {
		return nil, why
	}
	if d.find(name) == nil {
		if why := d.create(name); why != api.OK {
			return nil, why
		}
	}
	b := slices.Clone(d.find(name).Now)
	r, records, at, corrupt := said(b, o)
	if corrupt {
		return nil, api.ErrCorrupt
	}
	if at < len(b) {
		if why := d.cut(name, at); why != api.OK {
			return nil, why
		}
	}
	if why := d.sync(name); why != api.OK {
		return nil, why
	}
	if at == 0 {
		if _, why := d.append(name, plainHead()); why != api.OK {
			return nil, why
		}
		if why := d.sync(name); why != api.OK {
			return nil, why
		}
	}
	return &plainStore{d: d, name: name, r: r, records: records, lost: len(b) - at}, api.OK
}

// do is a Receive, or a Commit.
func (s *plainStore) do(call func(r *replica.Replica) api.Receipt) api.Receipt {
	before := s.r.Fork()
	x := call(s.r)
	if len(x.Taken) == 0 {
		return x
	}
	refused := func(why api.Errno) api.Receipt {
		s.r = before
		return api.Receipt{Why: why, Id: x.Id}
	}
	if s.readOnly {
		return refused(api.ErrReadOnly)
	}
	var all []byte
	var rows [][]byte
	for _, h := range x.Taken {
		row := s.r.Bytes([]api.Hash{h})[0]
		rows = append(rows, row)
		all = append(all, framed(2, row)...)
	}
	if _, why := s.d.append(s.name, all); why != api.OK {
		s.readOnly = why != api.ErrFull
		return refused(why)
	}
	if why := s.d.sync(s.name); why != api.OK {
		s.readOnly = true
		return refused(why)
	}
	s.records = append(s.records, rows...)
	return x
}

func sameImages(a, b []api.Image) bool {
	return slices.EqualFunc(a, b, func(x, y api.Image) bool {
		return x.Name == y.Name && bytes.Equal(x.Durable, y.Durable) && bytes.Equal(x.Now, y.Now)
	})
}

func sameReceipt(a, b api.Receipt) bool {
	return a.Why == b.Why && a.Id == b.Id && slices.Equal(a.Taken, b.Taken) && a.Steps == b.Steps
}

func sameRows(a, b [][]byte) bool { return slices.EqualFunc(a, b, bytes.Equal) }

// sameReplica holds all that two replicas tell against each other.
func sameReplica(t *testing.T, a, b *replica.Replica) {
	t.Helper()
	if !slices.Equal(a.Accepted(), b.Accepted()) || !slices.Equal(a.Waiting(), b.Waiting()) || !slices.Equal(a.Missing(), b.Missing()) {
		t.Fatalf("%d accepted, %d wait, %d missing; not %d, %d, %d", len(a.Accepted()), len(a.Waiting()), len(a.Missing()), len(b.Accepted()), len(b.Waiting()), len(b.Missing()))
	}
	if a.Render() != b.Render() || a.Kept() != b.Kept() || a.Steps() != b.Steps() || !sameRows(a.Export(), b.Export()) {
		t.Fatalf("%s, %d kept, %d steps; not %s, %d, %d", a.Render(), a.Kept(), a.Steps(), b.Render(), b.Kept(), b.Steps())
	}
}

// sameStore holds a store against one by the chapter's words.
func sameStore(t *testing.T, s *Store, m *plainStore) {
	t.Helper()
	if s.Lost() != m.lost || s.ReadOnly() != m.readOnly || !sameRows(s.Records(), m.records) {
		t.Fatalf("%d lost, read-only %v, %d records; not %d, %v, %d", s.Lost(), s.ReadOnly(), len(s.Records()), m.lost, m.readOnly, len(m.records))
	}
	sameReplica(t, s.Replica(), m.r)
}

// sameDisk holds a disk against one by the chapter's words.
func sameDisk(t *testing.T, d *Disk, m *plainDisk) {
	t.Helper()
	if !sameImages(d.Images(), m.images()) || d.Free() != m.free() {
		t.Fatalf("%v, %d free; not %v, %d", d.Images(), d.Free(), m.images(), m.free())
	}
	for _, x := range m.files {
		if b, why := d.Read(x.Name); why != api.OK || !bytes.Equal(b, x.Now) {
			t.Fatalf("Read(%s) = %x, %d", x.Name, b, why)
		}
	}
}
