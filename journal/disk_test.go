package journal

import (
	"bytes"
	"math"
	"math/rand"
	"slices"
	"strings"
	"testing"

	"estuary/api"
)

func newDisk(t *testing.T, capacity int, l ...api.Image) *Disk {
	t.Helper()
	d, why := Load(capacity, l)
	if d == nil || why != api.OK {
		t.Fatalf("Load: %d", why)
	}
	return d
}

func image(name, durable, now string) api.Image {
	return api.Image{Name: name, Durable: []byte(durable), Now: []byte(now)}
}

func isFile(t *testing.T, d *Disk, name, durable, now string) {
	t.Helper()
	for _, x := range d.Images() {
		if x.Name == name {
			if string(x.Durable) != durable || string(x.Now) != now {
				t.Errorf("%s: %q, %q; not %q, %q", name, x.Durable, x.Now, durable, now)
			}
			return
		}
	}
	t.Errorf("there is no %s", name)
}

func want(t *testing.T, what string, got, want api.Errno) {
	t.Helper()
	if got != want {
		t.Errorf("%s: %d, not %d", what, got, want)
	}
}

// P24.1
func TestNewDisk(t *testing.T) {
	for _, n := range []int{math.MinInt, -1, 0, api.MaxDisk + 1, math.MaxInt} {
		if d, why := NewDisk(n); d != nil || why != api.ErrRange {
			t.Errorf("NewDisk(%d) = %v, %d", n, d, why)
		}
		if d, why := Load(n, make([]api.Image, 17)); d != nil || why != api.ErrRange {
			t.Errorf("Load(%d) = %v, %d", n, d, why)
		}
	}
	for _, n := range []int{1, 1000, api.MaxDisk} {
		d, why := NewDisk(n)
		if why != api.OK || d.Free() != n || len(d.Images()) != 0 {
			t.Errorf("NewDisk(%d) = %v, %d", n, d, why)
		}
	}
}

// P24.1, P2
func TestLoad(t *testing.T) {
	long := strings.Repeat("n", api.MaxKey)
	many := func(n int) []api.Image {
		var l []api.Image
		for i := range n {
			l = append(l, image(string(rune('a'+i)), "", ""))
		}
		return l
	}
	for name, c := range map[string]struct {
		l   []api.Image
		why api.Errno
	}{
		"none":                    {nil, api.OK},
		"as many as may be":       {many(16), api.OK},
		"too many":                {many(17), api.ErrFull},
		"too many, one no name":   {append(many(16), image("", "", "")), api.ErrFull},
		"no name":                 {[]api.Image{image("", "", "")}, api.ErrName},
		"a long name":             {[]api.Image{image(long, "", "")}, api.OK},
		"a name that is too long": {[]api.Image{image(long+"n", "", "")}, api.ErrName},
		"a name that is no text":  {[]api.Image{image("\xff", "", "")}, api.ErrName},
		"a name with a line feed": {[]api.Image{image("a\n", "", "")}, api.ErrName},
		"a name with a blank":     {[]api.Image{image(" €", "", "")}, api.OK},
		"twice":                   {[]api.Image{image("a", "", ""), image("a", "", "")}, api.ErrKnown},
		"twice, and too large":    {[]api.Image{image("a", "", ""), image("a", "", "12345678901")}, api.ErrKnown},
		"too large, and twice":    {[]api.Image{image("a", "", "12345678901"), image("a", "", "")}, api.ErrFull},
		"now as large as may be":  {[]api.Image{image("a", "", "1234567890")}, api.OK},
		"now is too large":        {[]api.Image{image("a", "", "12345678901")}, api.ErrFull},
		"durable is too large":    {[]api.Image{image("a", "12345678901", "")}, api.ErrFull},
		"the greater counts":      {[]api.Image{image("a", "12345", "123"), image("b", "123", "12345")}, api.OK},
		"one byte too many":       {[]api.Image{image("a", "12345", "123"), image("b", "123", "123456")}, api.ErrFull},
		"full, and then no name":  {[]api.Image{image("a", "12345", "123"), image("b", "123", "123456"), image("", "", "")}, api.ErrFull},
	} {
		d, why := Load(10, c.l)
		if why != c.why || (d == nil) != (why != api.OK) {
			t.Errorf("%s: %v, %d, not %d", name, d, why, c.why)
		}
		if d != nil && !sameImages(d.Images(), c.l) {
			t.Errorf("%s: %v", name, d.Images())
		}
	}
	d := newDisk(t, 10, image("b", "123", "12"), image("a", "1", "1234"), image("B", "x", "y"))
	if !sameImages(d.Images(), []api.Image{image("B", "x", "y"), image("a", "1", "1234"), image("b", "123", "12")}) || d.Free() != 2 {
		t.Errorf("%v, %d free", d.Images(), d.Free())
	}
}

// P24.1, P24.2, P2: each error, in its turn
func TestDiskFaults(t *testing.T) {
	d := newDisk(t, 10, image("a", "123", "1234"), image("cut", "123", "12"), image("odd", "x", "yz"))
	before := d.Images()
	want(t, "Create of no name", d.Create(""), api.ErrName)
	want(t, "Create of a line feed", d.Create("\n"), api.ErrName)
	want(t, "Create of a file", d.Create("a"), api.ErrKnown)
	for _, name := range []string{"", "b", "\n"} {
		b, why := d.Read(name)
		if want(t, "Read", why, api.ErrFile); len(b) > 0 {
			t.Errorf("%x", b)
		}
		_, why = d.Append(name, make([]byte, 20))
		want(t, "Append", why, api.ErrFile)
		want(t, "Sync", d.Sync(name), api.ErrFile)
		want(t, "Cut", d.Cut(name, -1), api.ErrFile)
		want(t, "Crash", d.Crash([]api.Fate{{Name: name, Keep: -1}}), api.ErrFile)
	}
	for _, name := range []string{"cut", "odd"} {
		for _, n := range []int{0, 1, 20} {
			at, why := d.Append(name, make([]byte, n))
			if want(t, "Append to a cut", why, api.ErrDirty); at != 0 {
				t.Errorf("at %d", at)
			}
		}
	}
	if at, why := d.Append("a", make([]byte, 2)); why != api.ErrFull || at != 0 || d.Free() != 1 {
		t.Errorf("Append: %d, %d, %d free", at, why, d.Free())
	}
	for _, n := range []int{-1, 5, math.MinInt, math.MaxInt} {
		want(t, "Cut", d.Cut("a", n), api.ErrRange)
	}
	want(t, "Cut behind now", d.Cut("cut", 3), api.ErrRange)
	if !sameImages(d.Images(), before) {
		t.Errorf("%v", d.Images())
	}
}

// P24.2
func TestDiskCalls(t *testing.T) {
	d := newDisk(t, 10)
	want(t, "Create", d.Create("a"), api.OK)
	isFile(t, d, "a", "", "")
	for at, s := range []string{"x", "y", "z"} {
		if n, why := d.Append("a", []byte(s)); n != at || why != api.OK {
			t.Errorf("Append: %d, %d", n, why)
		}
	}
	if n, why := d.Append("a", nil); n != 3 || why != api.OK {
		t.Errorf("Append of none: %d, %d", n, why)
	}
	isFile(t, d, "a", "", "xyz")
	want(t, "Sync", d.Sync("a"), api.OK)
	isFile(t, d, "a", "xyz", "xyz")
	d.Append("a", []byte("123"))
	want(t, "Cut of what is not durable", d.Cut("a", 4), api.OK)
	if n, why := d.Append("a", []byte("4")); n != 4 || why != api.OK {
		t.Errorf("Append behind such a cut: %d, %d", n, why)
	}
	isFile(t, d, "a", "xyz", "xyz14")
	want(t, "Cut of what is durable", d.Cut("a", 2), api.OK)
	isFile(t, d, "a", "xyz", "xy")
	if d.Free() != 7 {
		t.Errorf("%d free with an open cut", d.Free())
	}
	want(t, "Sync of a cut", d.Sync("a"), api.OK)
	isFile(t, d, "a", "xy", "xy")
	if n, why := d.Append("a", []byte("12345678")); n != 2 || why != api.OK || d.Free() != 0 {
		t.Errorf("Append to the last byte: %d, %d", n, why)
	}
	want(t, "Cut to all", d.Cut("a", 10), api.OK)
	want(t, "Cut to none", d.Cut("a", 0), api.OK)
	isFile(t, d, "a", "xy", "")
	for n := range 15 {
		want(t, "Create", d.Create(string(rune('b'+n))), api.OK)
	}
	want(t, "Create of one more", d.Create("z"), api.ErrFull)
	want(t, "Create of a known one", d.Create("b"), api.ErrKnown)
	want(t, "Create of no name", d.Create(""), api.ErrName)
	want(t, "Crash", d.Crash(nil), api.OK)
	if len(d.Images()) != 16 {
		t.Error("a file without bytes does not stay through a crash")
	}
}

// fill is one changing call of each sort.
func fill(d *Disk) map[string]func() api.Errno {
	return map[string]func() api.Errno{
		"Create": func() api.Errno { return d.Create("new") },
		"Append": func() api.Errno { _, why := d.Append("a", []byte("56")); return why },
		"empty":  func() api.Errno { _, why := d.Append("a", nil); return why },
		"Sync":   func() api.Errno { return d.Sync("a") },
		"again":  func() api.Errno { return d.Sync("b") },
		"Cut":    func() api.Errno { return d.Cut("a", 1) },
		"to all": func() api.Errno { return d.Cut("a", 4) },
	}
}

// P24.2, P24.3: a call that fails changes nothing but what is counted
func TestCallsThatFail(t *testing.T) {
	for name := range fill(nil) {
		d := newDisk(t, 10, image("a", "123", "1234"), image("b", "x", "x"))
		before := d.Images()
		unchanged := func() {
			t.Helper()
			if !sameImages(d.Images(), before) || d.Free() != 5 {
				t.Errorf("%s: %v", name, d.Images())
			}
		}
		d.Fail(1)
		want(t, name, fill(d)[name](), api.ErrIO)
		unchanged()
		d.Stop(1)
		for range 3 {
			want(t, name, fill(d)[name](), api.ErrIO)
			unchanged()
		}
		d.Stop(0)
		want(t, name, fill(d)[name](), api.OK)
	}
}

// P24.2: calls that are refused for another reason are not counted, whatever is stopped
func TestWhatIsCounted(t *testing.T) {
	d := newDisk(t, 10, image("a", "123", "1234"), image("cut", "123", "12"))
	refused := func() {
		t.Helper()
		want(t, "Create", d.Create(""), api.ErrName)
		want(t, "Create", d.Create("a"), api.ErrKnown)
		_, why := d.Append("b", nil)
		want(t, "Append", why, api.ErrFile)
		_, why = d.Append("cut", nil)
		want(t, "Append", why, api.ErrDirty)
		_, why = d.Append("a", make([]byte, 4))
		want(t, "Append", why, api.ErrFull)
		want(t, "Sync", d.Sync("b"), api.ErrFile)
		want(t, "Cut", d.Cut("a", 5), api.ErrRange)
		d.Read("a")
		d.Free()
		d.Images()
		d.Crash([]api.Fate{{Name: "b"}})
	}
	d.Fail(2)
	refused()
	want(t, "the first", d.Sync("a"), api.OK)
	refused()
	want(t, "the second", d.Sync("a"), api.ErrIO)
	want(t, "the third", d.Sync("a"), api.OK)
	d.Stop(2)
	refused()
	want(t, "the first", d.Cut("a", 4), api.OK)
	for range 3 {
		refused()
		want(t, "stopped", d.Sync("a"), api.ErrIO)
	}
}

// P24.3
func TestFailAndStop(t *testing.T) {
	d := newDisk(t, 10, image("a", "", ""))
	calls := func(what string, fails string) {
		t.Helper()
		var got []byte
		for range fails {
			switch d.Sync("a") {
			case api.OK:
				got = append(got, '.')
			case api.ErrIO:
				got = append(got, 'x')
			}
		}
		if string(got) != fails {
			t.Errorf("%s: %s, not %s", what, got, fails)
		}
	}
	d.Fail(3)
	calls("Fail", "..x...")
	d.Fail(2)
	d.Fail(0)
	calls("Fail(0)", "...")
	d.Fail(2)
	d.Fail(-5)
	calls("Fail(-5)", "...")
	d.Fail(1)
	d.Fail(2)
	calls("Fail anew", ".x..")
	d.Stop(3)
	calls("Stop", "..xxxx")
	d.Fail(2)
	calls("Fail while it is stopped", "xx")
	d.Stop(0)
	calls("Stop(0)", "...")
	d.Stop(1)
	calls("Stop(1)", "xx")
	d.Stop(-1)
	calls("Stop(-1)", "..")
	d.Stop(1)
	calls("Stop(1)", "x")
	d.Stop(3)
	calls("Stop anew", "..xx")
	d.Stop(2)
	d.Fail(1)
	calls("both", "xxx")
	d.Stop(0)
	d.Fail(4)
	d.Stop(2)
	calls("both", ".xxxx")
	d.Stop(0)
	calls("Fail was counted down while it was stopped", "..")
	d.Fail(3)
	d.Stop(1)
	calls("Stop ahead of Fail", "x")
	d.Stop(0)
	calls("Fail is left", ".x..")
	d.Fail(2)
	d.Stop(3)
	want(t, "a Crash that is refused", d.Crash([]api.Fate{{Name: "b"}}), api.ErrFile)
	calls("behind it", ".xxx")
	d.Fail(2)
	want(t, "Crash", d.Crash(nil), api.OK)
	calls("behind a Crash", "....")
	d.Stop(5)
	d.Fail(5)
	want(t, "Crash", d.Crash(nil), api.OK)
	calls("behind a Crash", "........")
}

// P24.3: what a crash leaves
func TestCrash(t *testing.T) {
	whole := []api.Image{image("a", "123", "123456"), image("cut", "123", "12"), image("odd", "123", "xyz123"), image("same", "12", "12")}
	junk := func(name string, keep int, junk string) api.Fate {
		return api.Fate{Name: name, Keep: keep, Junk: []byte(junk)}
	}
	for name, c := range map[string]struct {
		l   []api.Fate
		why api.Errno
		a   string // what a is behind it
	}{
		"no fates":                     {nil, api.OK, "123"},
		"none kept":                    {[]api.Fate{junk("a", 0, "")}, api.OK, "123"},
		"one kept":                     {[]api.Fate{junk("a", 1, "")}, api.OK, "1234"},
		"all kept":                     {[]api.Fate{junk("a", 3, "")}, api.OK, "123456"},
		"one more":                     {[]api.Fate{junk("a", 4, "")}, api.ErrFate, ""},
		"below 0":                      {[]api.Fate{junk("a", -1, "")}, api.ErrFate, ""},
		"far below 0":                  {[]api.Fate{junk("a", math.MinInt, "j")}, api.ErrFate, ""},
		"far above":                    {[]api.Fate{junk("a", math.MaxInt, "j")}, api.ErrFate, ""},
		"junk":                         {[]api.Fate{junk("a", 0, "jkl")}, api.OK, "123jkl"},
		"both":                         {[]api.Fate{junk("a", 1, "jk")}, api.OK, "1234jk"},
		"little junk":                  {[]api.Fate{junk("a", 1, "j")}, api.OK, "1234j"},
		"too much junk":                {[]api.Fate{junk("a", 0, "jklm")}, api.ErrFate, ""},
		"too much junk behind kept":    {[]api.Fate{junk("a", 2, "jk")}, api.ErrFate, ""},
		"no such file":                 {[]api.Fate{junk("b", 0, "")}, api.ErrFile, ""},
		"no such file, twice":          {[]api.Fate{junk("b", -1, ""), junk("b", 0, "")}, api.ErrFile, ""},
		"twice":                        {[]api.Fate{junk("a", 1, ""), junk("a", 1, "")}, api.ErrFate, ""},
		"wrong, and no such file":      {[]api.Fate{junk("a", 9, ""), junk("b", 0, "")}, api.ErrFate, ""},
		"right, and no such file":      {[]api.Fate{junk("a", 1, ""), junk("b", 0, "")}, api.ErrFile, ""},
		"a cut":                        {[]api.Fate{junk("cut", 0, ""), junk("odd", 0, ""), junk("a", 1, "")}, api.OK, "1234"},
		"kept of a cut":                {[]api.Fate{junk("cut", 1, "")}, api.ErrFate, ""},
		"junk of a cut":                {[]api.Fate{junk("cut", 0, "j")}, api.ErrFate, ""},
		"below 0 of a cut":             {[]api.Fate{junk("cut", -1, "")}, api.ErrFate, ""},
		"kept of a long cut":           {[]api.Fate{junk("odd", 1, "")}, api.ErrFate, ""},
		"junk of a long cut":           {[]api.Fate{junk("odd", 0, "j")}, api.ErrFate, ""},
		"junk of what is all durable":  {[]api.Fate{junk("same", 0, "j")}, api.ErrFate, ""},
		"none of what is all durable":  {[]api.Fate{junk("same", 0, "")}, api.OK, "123"},
		"kept of what is all durable":  {[]api.Fate{junk("same", 1, "")}, api.ErrFate, ""},
		"the last of some is no right": {[]api.Fate{junk("a", 1, ""), junk("same", 0, ""), junk("cut", 0, "j")}, api.ErrFate, ""},
	} {
		d := newDisk(t, 20, whole...)
		want(t, name, d.Crash(c.l), c.why)
		if c.why != api.OK {
			if !sameImages(d.Images(), whole) {
				t.Errorf("%s: %v", name, d.Images())
			}
			continue
		}
		isFile(t, d, "a", c.a, c.a)
		isFile(t, d, "cut", "123", "123")
		isFile(t, d, "odd", "123", "123")
		isFile(t, d, "same", "12", "12")
		if n, why := d.Append("cut", []byte("4")); n != 3 || why != api.OK {
			t.Errorf("%s: Append behind it: %d, %d", name, n, why)
		}
	}
}

// P24.1: what is done to a Fork the disk does not know, nor the other way round; what counts down is the Fork's too
func TestDiskFork(t *testing.T) {
	d := newDisk(t, 20, image("a", "123", "1234"))
	d.Append("a", []byte("5"))
	d.Fail(2)
	f := d.Fork()
	d.Append("a", []byte("d"))
	f.Append("a", []byte("f"))
	isFile(t, d, "a", "123", "12345d")
	isFile(t, f, "a", "123", "12345f")
	want(t, "Fail", d.Sync("a"), api.ErrIO)
	want(t, "Fail of the Fork", f.Sync("a"), api.ErrIO)
	d.Stop(1)
	want(t, "Stop", d.Sync("a"), api.ErrIO)
	g := d.Fork()
	want(t, "the Fork of a stopped one", g.Sync("a"), api.ErrIO)
	want(t, "the other Fork", f.Sync("a"), api.OK)
	g.Crash(nil)
	g.Create("g")
	isFile(t, g, "a", "123", "123")
	isFile(t, d, "a", "123", "12345d")
	if len(d.Images()) != 1 || len(g.Images()) != 2 || d.Free() != 14 || g.Free() != 17 {
		t.Error("a Fork's file is the disk's")
	}
}

// P1
func TestNilDisk(t *testing.T) {
	var d *Disk
	d.Fail(1)
	d.Stop(1)
	if d.Fork() != nil || len(d.Images()) != 0 || d.Free() != 0 {
		t.Error("a nil disk has something")
	}
	b, why := d.Read("a")
	if want(t, "Read", why, api.ErrNil); len(b) > 0 {
		t.Errorf("%x", b)
	}
	at, why := d.Append("", nil)
	if want(t, "Append", why, api.ErrNil); at != 0 {
		t.Errorf("at %d", at)
	}
	want(t, "Create", d.Create(""), api.ErrNil)
	want(t, "Sync", d.Sync(""), api.ErrNil)
	want(t, "Cut", d.Cut("", -1), api.ErrNil)
	want(t, "Crash", d.Crash([]api.Fate{{Keep: -1}}), api.ErrNil)
	if s, why := Open(d, "", api.Options{}); s != nil || why != api.ErrNil {
		t.Errorf("Open: %v, %d", s, why)
	}
}

// P3
func TestDiskIsNewMemory(t *testing.T) {
	given := []api.Image{image("a", "123", "1234")}
	given[0].Now = append(given[0].Now, 'x')[:4]
	d := newDisk(t, 20, given...)
	b := []byte("56x")
	d.Append("a", b[:2])
	if given[0].Now[:5][4] != 'x' || b[2] != 'x' {
		t.Error("what was handed in is changed")
	}
	clear(given[0].Now[:5])
	clear(given[0].Durable)
	clear(b)
	for range 2 {
		x := d.Images()[0]
		clear(x.Now[:cap(x.Now)])
		clear(x.Durable[:cap(x.Durable)])
		now, _ := d.Read("a")
		clear(now[:cap(now)])
	}
	isFile(t, d, "a", "123", "123456")
	fates := []api.Fate{{Name: "a", Keep: 1, Junk: []byte("j")}}
	d.Crash(fates)
	clear(fates[0].Junk)
	isFile(t, d, "a", "1234j", "1234j")
}

// anyFates are fates for some files, most of them such as may be.
func anyFates(r *rand.Rand, l []api.Image, junk func(n int) []byte) []api.Fate {
	var fates []api.Fate
	for _, x := range l {
		if r.Intn(3) == 0 {
			continue
		}
		f := api.Fate{Name: x.Name}
		if loose := len(x.Now) - len(x.Durable); loose > 0 && !open(&x) {
			f.Keep = r.Intn(loose + 1)
			f.Junk = junk(r.Intn(loose - f.Keep + 1))
		}
		fates = append(fates, f)
	}
	return fates
}

func anyBytes(r *rand.Rand, n int) []byte {
	b := make([]byte, n)
	r.Read(b)
	return b
}

// P24.1, P24.2, P24.3: calls by chance, on a disk and on its Forks
func TestDiskByChance(t *testing.T) {
	for seed := range int64(600) {
		r := rand.New(rand.NewSource(seed))
		capacity := 1 + r.Intn(60)
		disks, models := []*Disk{newDisk(t, capacity)}, []*plainDisk{{capacity: capacity}}
		for range 120 {
			n := r.Intn(len(disks))
			d, m := disks[n], models[n]
			diskStep(t, r, d, m)
			if r.Intn(20) == 0 && len(disks) < 5 {
				disks, models = append(disks, d.Fork()), append(models, m.fork())
			}
			for i := range disks {
				sameDisk(t, disks[i], models[i])
			}
		}
	}
}

// diskStep does one call on a disk and on its model.
func diskStep(t *testing.T, r *rand.Rand, d *Disk, m *plainDisk) {
	t.Helper()
	name := pick(r, "a", "a", "b", "c", "d", "", "\n", string(rune('a'+r.Intn(20))))
	switch r.Intn(10) {
	case 0, 1:
		want(t, "Create", d.Create(name), m.create(name))
	case 2, 3, 4:
		b := anyBytes(r, r.Intn(9))
		at, why := d.Append(name, b)
		modelAt, modelWhy := m.append(name, b)
		if want(t, "Append", why, modelWhy); at != modelAt {
			t.Fatalf("at %d, not %d", at, modelAt)
		}
	case 5:
		want(t, "Sync", d.Sync(name), m.sync(name))
	case 6:
		n := r.Intn(20) - 1
		want(t, "Cut", d.Cut(name, n), m.cut(name, n))
	case 7:
		n := r.Intn(6) - 1
		d.Fail(n)
		m.fail = max(0, n)
	case 8:
		n := r.Intn(6) - 2
		d.Stop(n)
		m.stop, m.stopped = max(0, n), false
	case 9:
		fates := anyFates(r, m.images(), func(n int) []byte { return anyBytes(r, n) })
		if r.Intn(3) == 0 {
			fates = append(fates, api.Fate{Name: name, Keep: r.Intn(4) - 1, Junk: anyBytes(r, r.Intn(3))})
		}
		want(t, "Crash", d.Crash(fates), m.crash(fates))
	}
}

// P24.2: a large file is not gone through with each call, so that it grows in good time
func TestLargeFile(t *testing.T) {
	const size = 1 << 22
	d := newDisk(t, size)
	want(t, "Create", d.Create("a"), api.OK)
	b := bytes.Repeat([]byte("x"), 1<<8)
	for i := range size / len(b) {
		if at, why := d.Append("a", b); at != i*len(b) || why != api.OK {
			t.Fatalf("%d, %d", at, why)
		}
		want(t, "Sync", d.Sync("a"), api.OK)
	}
	if _, why := d.Append("a", b[:1]); why != api.ErrFull || d.Free() != 0 {
		t.Errorf("%d, %d free", why, d.Free())
	}
	if n := slices.IndexFunc(d.Images()[0].Durable, func(x byte) bool { return x != 'x' }); n != -1 {
		t.Errorf("byte %d", n)
	}
}
