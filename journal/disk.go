package journal

import (
	"bytes"
	"slices"

	"estuary/api"
	"estuary/words"
)

// Disk is files of bytes, durable ones and such as are not synced yet.
type Disk struct {
	capacity int
	files    map[string]file
	power    power
}

// NewDisk is an empty disk of so many bytes.
func NewDisk(capacity int) (*Disk, api.Errno) {
	return Load(capacity, nil)
}

// Load is a disk with these files.
func Load(capacity int, l []api.Image) (*Disk, api.Errno) {
	if capacity < 1 || capacity > api.MaxDisk {
		return nil, api.ErrRange
	}
	if len(l) > api.MaxFiles {
		return nil, api.ErrFull
	}
	d := &Disk{capacity: capacity, files: map[string]file{}}
	for _, x := range l {
		if err := d.load(x); err != nil {
			return nil, number(err)
		}
	}
	return d, api.OK
}

// load puts a file on a disk that has fewer than it may have.
func (d *Disk) load(x api.Image) error {
	if err := d.checkNew(x.Name); err != nil {
		return err
	}
	f := fileOf(x)
	if f.size() > d.Free() {
		return refuse(x.Name, errFull)
	}
	d.files[x.Name] = f
	return nil
}

// checkNew tells why there can be no new file of a name.
func (d *Disk) checkNew(name string) error {
	if !words.Key(name) {
		return refuse(name, errName)
	}
	if _, is := d.files[name]; is {
		return refuse(name, errKnown)
	}
	return nil
}

// names are those of the files, rising.
func (d *Disk) names() []string {
	var l []string
	if d == nil {
		return l
	}
	for name := range d.files {
		l = append(l, name)
	}
	slices.Sort(l)
	return l
}

// Images are its files.
func (d *Disk) Images() []api.Image {
	var l []api.Image
	for _, name := range d.names() {
		l = append(l, d.files[name].image(name))
	}
	return l
}

// Fork is another one of the same.
func (d *Disk) Fork() *Disk {
	if d == nil {
		return nil
	}
	f := &Disk{capacity: d.capacity, files: make(map[string]file, len(d.files)), power: d.power}
	for name, x := range d.files {
		f.files[name] = x.fork()
	}
	return f
}

// find is a file of a name.
func (d *Disk) find(name string) (file, error) {
	if d == nil {
		return file{}, refuse(name, errNil)
	}
	f, is := d.files[name]
	if !is {
		return file{}, refuse(name, errFile)
	}
	return f, nil
}

// Read is a file's bytes.
func (d *Disk) Read(name string) ([]byte, api.Errno) {
	f, err := d.find(name)
	return bytes.Clone(f.now), number(err)
}

// Free is how many more bytes have room.
func (d *Disk) Free() int {
	if d == nil {
		return 0
	}
	n := d.capacity
	for _, f := range d.files {
		n -= f.size()
	}
	return n
}
