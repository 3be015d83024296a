package journal

import "estuary/api"

// Create makes a file without bytes.
func (d *Disk) Create(name string) api.Errno {
	return number(d.create(name))
}

func (d *Disk) create(name string) error {
	if d == nil {
		return refuse(name, errNil)
	}
	if err := d.checkNew(name); err != nil {
		return err
	}
	if len(d.files) >= api.MaxFiles {
		return refuse(name, errFull)
	}
	return d.change(name, file{})
}

// Append puts bytes behind a file's; how many stood ahead of them.
func (d *Disk) Append(name string, b []byte) (int, api.Errno) {
	at, err := d.lengthen(name, b)
	return at, number(err)
}

func (d *Disk) lengthen(name string, b []byte) (int, error) {
	f, err := d.find(name)
	if err != nil {
		return 0, err
	}
	if f.cutOpen() {
		return 0, refuse(name, errDirty)
	}
	if len(b) > d.Free() {
		return 0, refuse(name, errFull)
	}
	if err := d.change(name, f.longer(b)); err != nil {
		return 0, err
	}
	return len(f.now), nil
}

// Sync makes what a file has durable.
func (d *Disk) Sync(name string) api.Errno {
	return number(d.sync(name))
}

func (d *Disk) sync(name string) error {
	f, err := d.find(name)
	if err != nil {
		return err
	}
	return d.change(name, f.synced())
}

// Cut leaves a file its first n bytes.
func (d *Disk) Cut(name string, n int) api.Errno {
	return number(d.shorten(name, n))
}

func (d *Disk) shorten(name string, n int) error {
	f, err := d.find(name)
	if err != nil {
		return err
	}
	if n < 0 || n > len(f.now) {
		return refuse(name, errRange)
	}
	return d.change(name, f.shorter(n))
}

// change makes a file what it is behind a changing call; where the call fails, that is given up again.
func (d *Disk) change(name string, next file) (err error) {
	before, was := d.files[name]
	defer func() {
		switch {
		case err == nil:
		case was:
			d.files[name] = before
		default:
			delete(d.files, name)
		}
	}()
	d.files[name] = next
	if d.power.fails() {
		return refuse(name, errIO)
	}
	return nil
}

// Fail makes the n-th changing call from now on fail.
func (d *Disk) Fail(n int) {
	if d != nil {
		d.power.fail = max(n, 0)
	}
}

// Stop makes that one fail and all behind it, till the next Crash; what an earlier Stop did is over.
func (d *Disk) Stop(n int) {
	if d != nil {
		d.power.stop, d.power.off = max(n, 0), false
	}
}

// Crash takes power away and gives it back: of each file that is left which its fate says.
func (d *Disk) Crash(l []api.Fate) api.Errno {
	fates, err := d.fates(l)
	if err != nil {
		return number(err)
	}
	for _, name := range d.names() {
		d.files[name] = d.files[name].crashed(fates[name])
	}
	d.power = power{}
	return api.OK
}

// fates are those of the files that have one.
func (d *Disk) fates(l []api.Fate) (map[string]api.Fate, error) {
	if d == nil {
		return nil, errNil
	}
	fates := make(map[string]api.Fate, len(l))
	for _, x := range l {
		f, err := d.find(x.Name)
		if err != nil {
			return nil, err
		}
		if _, is := fates[x.Name]; is || !f.mayMeet(x) {
			return nil, refuse(x.Name, errFate)
		}
		fates[x.Name] = x
	}
	return fates, nil
}
