package bloom

import (
	"bytes"
	"math"
	"math/big"
	"math/rand"
	"slices"
	"testing"

	"estuary/api"
)

func pick[T any](r *rand.Rand, l ...T) T { return l[r.Intn(len(l))] }

// anyHash is a hash by chance, as unlike to others as an id.
func anyHash(r *rand.Rand) api.Hash {
	var h api.Hash
	r.Read(h[:])
	return h
}

func anyHashes(r *rand.Rand, n int) []api.Hash {
	l := make([]api.Hash, n)
	for i := range l {
		l[i] = anyHash(r)
	}
	return l
}

func made(t *testing.T, bits, probes int, l ...api.Hash) *Filter {
	t.Helper()
	f, why := New(bits, probes)
	if f == nil || why != api.OK {
		t.Fatalf("New(%d, %d) = %v, %d", bits, probes, f, why)
	}
	for _, h := range l {
		f.Add(h)
	}
	return f
}

// spots is where a hash stands by the chapter's words.
func spots(h api.Hash, bits, probes int) []int {
	x, y := new(big.Int).SetBytes(h[:8]), new(big.Int).SetBytes(h[8:16])
	round := new(big.Int).Lsh(big.NewInt(1), 64)
	var l []int
	for i := range probes {
		n := new(big.Int).Mul(big.NewInt(int64(i)), y)
		n.Add(n, x).Mod(n, round).Mod(n, big.NewInt(int64(bits)))
		l = append(l, int(n.Int64()))
	}
	return l
}

// model is a filter by the chapter's words.
type model struct {
	probes int
	set    []bool
}

func newModel(bits, probes int, l ...api.Hash) *model {
	m := &model{probes: probes, set: make([]bool, bits)}
	for _, h := range l {
		m.add(h)
	}
	return m
}

func (m *model) add(h api.Hash) {
	for _, n := range spots(h, len(m.set), m.probes) {
		m.set[n] = true
	}
}

func (m *model) has(h api.Hash) bool {
	return !slices.ContainsFunc(spots(h, len(m.set), m.probes), func(n int) bool { return !m.set[n] })
}

// encode is the bytes of a filter: the bits as a number of one, two or three bytes, the probes, the length likewise, the bytes.
func (m *model) encode() []byte {
	b := append(length(len(m.set)), byte(m.probes))
	b = append(b, length(len(m.set)/8)...)
	raw := make([]byte, len(m.set)/8)
	for n, is := range m.set {
		if is {
			raw[n/8] += 1 << (n % 8)
		}
	}
	return append(b, raw...)
}

func length(n int) []byte {
	var b []byte
	for ; n >= 128; n /= 128 {
		b = append(b, byte(n%128+128))
	}
	return append(b, byte(n))
}

// same holds a filter against its model.
func same(t *testing.T, f *Filter, m *model, asked ...api.Hash) {
	t.Helper()
	set := 0
	for _, is := range m.set {
		if is {
			set++
		}
	}
	if f.Bits() != len(m.set) || f.Probes() != m.probes || f.Set() != set {
		t.Fatalf("%d bits, %d probes, %d set; not %d, %d, %d", f.Bits(), f.Probes(), f.Set(), len(m.set), m.probes, set)
	}
	if b := f.Encode(); !bytes.Equal(b, m.encode()) {
		t.Fatalf("Encode = %x, not %x", b, m.encode())
	}
	for _, h := range asked {
		if f.Has(h) != m.has(h) || !slices.Equal(f.Spots(h), spots(h, len(m.set), m.probes)) {
			t.Fatalf("%x: Has %v, Spots %v", h, f.Has(h), f.Spots(h))
		}
	}
}

// P21.1
func TestNew(t *testing.T) {
	for _, c := range []struct {
		bits, probes int
		why          api.Errno
	}{
		{8, 1, api.OK}, {8, api.MaxProbes, api.OK}, {api.MaxFilter, 1, api.OK}, {api.MaxFilter, api.MaxProbes, api.OK}, {72, 7, api.OK}, {api.MaxFilter - 8, 7, api.OK},
		{0, 1, api.ErrRange}, {-8, 1, api.ErrRange}, {4, 1, api.ErrRange}, {12, 1, api.ErrRange}, {9, 1, api.ErrRange}, {15, 1, api.ErrRange},
		{api.MaxFilter + 8, 1, api.ErrRange}, {api.MaxFilter + 1, 1, api.ErrRange}, {api.MaxFilter - 1, 1, api.ErrRange}, {math.MinInt, 1, api.ErrRange}, {math.MaxInt - 7, 1, api.ErrRange},
		{8, 0, api.ErrRange}, {8, -1, api.ErrRange}, {8, api.MaxProbes + 1, api.ErrRange}, {8, math.MaxInt, api.ErrRange}, {8, math.MinInt, api.ErrRange}, {0, 0, api.ErrRange},
	} {
		f, why := New(c.bits, c.probes)
		if why != c.why || (f != nil) != (why == api.OK) {
			t.Errorf("New(%v) = %v, %d", c, f, why)
		}
		if f != nil {
			same(t, f, newModel(c.bits, c.probes), api.Hash{}, api.Hash{1, 2, 3, 4, 5, 6, 7, 8, 9})
		}
	}
}

// The examples: P21.1 to P21.3
func TestExamples(t *testing.T) {
	if l := made(t, 8, 1).Spots(api.Hash{}); !slices.Equal(l, []int{0}) {
		t.Errorf("the zero hash: %v", l)
	}
	if f, why := New(12, 1); f != nil || why != api.ErrRange {
		t.Errorf("New(12, 1) = %v, %d", f, why)
	}
	f := Of(nil)
	if f.Bits() != 64 || f.Probes() != 7 || f.Set() != 0 || f.Has(api.Hash{}) || f.Has(api.Hash{1}) {
		t.Errorf("Of(none): %d bits, %d set", f.Bits(), f.Set())
	}
	if b := made(t, 8, 2).Encode(); !bytes.Equal(b, []byte{8, 2, 1, 0}) {
		t.Errorf("Encode = %x", b)
	}
}

// P21.1: how many bits a list has, hashes that stand in it more than once
func TestOf(t *testing.T) {
	r := rand.New(rand.NewSource(1))
	all := anyHashes(r, 7000)
	for n, bits := range map[int]int{0: 64, 1: 64, 6: 64, 7: 72, 8: 80, 9: 96, 10: 104, 11: 112, 100: 1000, 101: 1016, 4096: 40960, 6552: 65520, 6553: 65536, 6554: 65536, 7000: 65536} {
		l := slices.Concat(all[:n], all[:n/2], all[:n/3])
		r.Shuffle(len(l), func(i, j int) { l[i], l[j] = l[j], l[i] })
		f := Of(l)
		if f.Bits() != bits || f.Probes() != 7 {
			t.Errorf("of %d: %d bits, %d probes", n, f.Bits(), f.Probes())
		}
		same(t, f, newModel(bits, 7, l...), all[:min(n+5, len(all))]...)
	}
}

// P21.2: the numbers go round at 64 bits, and what is behind the sixteenth byte counts for nothing
func TestSpots(t *testing.T) {
	full := api.Hash{}
	for i := range 16 {
		full[i] = 0xff
	}
	f := made(t, 24, 4)
	for _, c := range []struct {
		h    api.Hash
		want []int
	}{
		{api.Hash{7: 1}, []int{1, 1, 1, 1}},
		{api.Hash{15: 1}, []int{0, 1, 2, 3}},
		{api.Hash{7: 23, 15: 1}, []int{23, 0, 1, 2}},
		{api.Hash{6: 1, 15: 25}, []int{16, 17, 18, 19}},
		{api.Hash{16: 9, 31: 9}, []int{0, 0, 0, 0}},
		// 2^64 - 1 is 15 modulo 24, and one less with each step
		{full, []int{15, 14, 13, 12}},
	} {
		if l := f.Spots(c.h); !slices.Equal(l, c.want) || !slices.Equal(l, spots(c.h, 24, 4)) {
			t.Errorf("%x: %v, not %v", c.h, l, c.want)
		}
	}
}

// P21.2, P21.5, P21.7: any filters, held against the chapter's words, with Forks that go their own way
func TestAnyCalls(t *testing.T) {
	type pair struct {
		f *Filter
		m *model
	}
	for seed := range int64(150) {
		r := rand.New(rand.NewSource(seed))
		bits, probes := 8*(1+r.Intn(pick(r, 3, 40, api.MaxFilter/8))), 1+r.Intn(api.MaxProbes)
		pairs := []pair{{made(t, bits, probes), newModel(bits, probes)}}
		hashes := anyHashes(r, 12)
		for range 20 {
			p := pick(r, pairs...)
			switch r.Intn(5) {
			case 0:
				pairs = append(pairs, pair{p.f.Fork(), &model{probes, slices.Clone(p.m.set)}})
			case 1:
				o := pick(r, pairs...)
				if why := p.f.Join(o.f); why != api.OK {
					t.Fatalf("Join: %d", why)
				}
				for n, is := range o.m.set {
					p.m.set[n] = p.m.set[n] || is
				}
			default:
				h := pick(r, hashes...)
				p.f.Add(h)
				p.m.add(h)
			}
		}
		for _, p := range pairs {
			same(t, p.f, p.m, hashes...)
		}
	}
}

// P21.2: Join, the errors in their order
func TestJoinRefuses(t *testing.T) {
	h := api.Hash{1, 2, 3, 4, 5, 6, 7, 8, 9}
	f := made(t, 64, 3, h)
	was := f.Encode()
	for name, c := range map[string]struct {
		o   *Filter
		why api.Errno
	}{
		"nil":              {nil, api.ErrNil},
		"more bits":        {made(t, 72, 3, api.Hash{9}), api.ErrShape},
		"fewer bits":       {made(t, 56, 3, api.Hash{9}), api.ErrShape},
		"fewer probes":     {made(t, 64, 2, api.Hash{9}), api.ErrShape},
		"more probes":      {made(t, 64, 4, api.Hash{9}), api.ErrShape},
		"both":             {made(t, 8, 1), api.ErrShape},
		"the same, itself": {f, api.OK},
	} {
		if why := f.Join(c.o); why != c.why || !bytes.Equal(f.Encode(), was) {
			t.Errorf("%s: %d, %x", name, why, f.Encode())
		}
	}
	o := made(t, 64, 3, api.Hash{9})
	was = o.Encode()
	if why := f.Join(o); why != api.OK || !f.Has(h) || !f.Has(api.Hash{9}) || !bytes.Equal(o.Encode(), was) {
		t.Errorf("Join: %d", why)
	}
}

// P21.5: what was added, or joined, is never said not to be there; and what was not mostly is
func TestNeverAWrongNo(t *testing.T) {
	for seed := range int64(20) {
		r := rand.New(rand.NewSource(seed))
		l := anyHashes(r, 1+r.Intn(500))
		f := Of(l)
		g := made(t, f.Bits(), f.Probes(), anyHashes(r, 9)...)
		if why := g.Join(f); why != api.OK {
			t.Fatal(why)
		}
		for _, h := range l {
			if !f.Has(h) || !g.Has(h) {
				t.Fatalf("%x is not in", h)
			}
		}
		wrong := 0
		for _, h := range anyHashes(r, 1000) {
			if f.Has(h) {
				wrong++
			}
		}
		if wrong > 60 {
			t.Errorf("of %d: %d of 1000 others may be in", len(l), wrong)
		}
	}
}

// P21.7
func TestAnyOrder(t *testing.T) {
	for seed := range int64(30) {
		r := rand.New(rand.NewSource(seed))
		bits, probes := 8*(1+r.Intn(90)), 1+r.Intn(api.MaxProbes)
		l := anyHashes(r, 1+r.Intn(30))
		f := made(t, bits, probes, l...)
		again := append(slices.Clone(l), l[:r.Intn(len(l))]...)
		r.Shuffle(len(again), func(i, j int) { again[i], again[j] = again[j], again[i] })
		cut := r.Intn(len(again) + 1)
		g, h := made(t, bits, probes, again[:cut]...), made(t, bits, probes, again[cut:]...)
		if why := g.Join(h); why != api.OK {
			t.Fatal(why)
		}
		if !bytes.Equal(f.Encode(), g.Encode()) || !bytes.Equal(f.Encode(), made(t, bits, probes, again...).Encode()) {
			t.Fatal("added in another order it is another filter")
		}
		if !bytes.Equal(Of(l).Encode(), Of(again).Encode()) {
			t.Fatal("Of the same in another order is another filter")
		}
	}
}

// P21.3: the faults, in their order
func TestDecodeRefuses(t *testing.T) {
	join := func(b []byte, more ...byte) []byte { return append(slices.Clone(b), more...) }
	full := made(t, api.MaxFilter, 16).Encode()
	for name, c := range map[string]struct {
		b   []byte
		why api.Errno
		at  int
	}{
		"nothing":                        {nil, api.ErrShort, 0},
		"bits that end early":            {[]byte{0x80}, api.ErrShort, 1},
		"bits of a wrong form":           {[]byte{0x88, 0x00, 1, 1, 0}, api.ErrForm, 1},
		"no bits":                        {[]byte{0, 1, 0}, api.ErrRange, 0},
		"seven bits":                     {[]byte{7, 1, 0}, api.ErrRange, 0},
		"twelve bits":                    {[]byte{12, 1, 1, 0}, api.ErrRange, 0},
		"twelve bits, and nothing":       {[]byte{12}, api.ErrRange, 0},
		"bits above the limit":           {[]byte{0x88, 0x80, 4, 1, 0}, api.ErrRange, 0},
		"nothing behind the bits":        {[]byte{8}, api.ErrShort, 1},
		"no probes":                      {[]byte{8, 0, 1, 0}, api.ErrRange, 1},
		"too many probes":                {[]byte{8, 17, 1, 0}, api.ErrRange, 1},
		"too many probes, two ahead":     {[]byte{0x80, 1, 255}, api.ErrRange, 2},
		"nothing behind the probes":      {[]byte{8, 1}, api.ErrShort, 2},
		"a length that ends early":       {[]byte{8, 1, 0x81}, api.ErrShort, 3},
		"a length of a wrong form":       {[]byte{8, 1, 0x81, 0, 0}, api.ErrForm, 3},
		"a length above the limit":       {[]byte{8, 1, 0x81, 0x40}, api.ErrLong, 2},
		"the greatest length":            {[]byte{8, 1, 0x80, 0x40}, api.ErrShort, 4},
		"no bytes":                       {[]byte{8, 1, 0}, api.ErrForm, 2},
		"too few bytes":                  {[]byte{16, 1, 1, 0}, api.ErrForm, 2},
		"too many bytes":                 {[]byte{8, 1, 2, 0, 0}, api.ErrForm, 2},
		"too many bytes, and some more":  {[]byte{8, 1, 2, 0, 0, 9}, api.ErrForm, 2},
		"too many bytes, that end early": {[]byte{8, 1, 2, 0}, api.ErrShort, 4},
		"bytes that end early":           {[]byte{16, 1, 2, 0}, api.ErrShort, 4},
		"one byte more":                  {[]byte{8, 1, 1, 0, 0}, api.ErrMore, 4},
		"the greatest, one byte less":    {full[:len(full)-1], api.ErrShort, len(full) - 1},
		"the greatest, one byte more":    {join(full, 0), api.ErrMore, len(full)},
	} {
		if f, why, at := Decode(c.b); f != nil || why != c.why || at != c.at {
			t.Errorf("%s: %v, %d at %d", name, f, why, at)
		}
	}
	f, why, at := Decode(full)
	if why != api.OK || at != 0 {
		t.Fatalf("the greatest: %d at %d", why, at)
	}
	same(t, f, newModel(api.MaxFilter, 16))
}

// P21.3, P21.6
func TestThereAndBack(t *testing.T) {
	for seed := range int64(200) {
		r := rand.New(rand.NewSource(seed))
		bits, probes := 8*(1+r.Intn(pick(r, 2, 20, 300))), 1+r.Intn(api.MaxProbes)
		l := anyHashes(r, r.Intn(20))
		f := made(t, bits, probes, l...)
		b := f.Encode()
		g, why, at := Decode(b)
		if why != api.OK || at != 0 {
			t.Fatalf("Decode: %d at %d", why, at)
		}
		same(t, g, newModel(bits, probes, l...), append(l, anyHash(r))...)
		g.Add(anyHash(r))
		if !bytes.Equal(f.Encode(), b) {
			t.Fatal("a decoded filter changes another")
		}
		spoilt := slices.Clone(b)
		spoilt[r.Intn(len(b))] ^= byte(1 << r.Intn(8))
		spoilt = append(spoilt[:len(b)-r.Intn(2)], make([]byte, r.Intn(2))...)
		if g, why, _ := Decode(spoilt); why == api.OK && !bytes.Equal(g.Encode(), spoilt) {
			t.Fatalf("%x was taken, and is written as %x", spoilt, g.Encode())
		}
	}
}

// P21.4, P1
func TestNil(t *testing.T) {
	var f *Filter
	f.Add(api.Hash{})
	if f.Has(api.Hash{}) || len(f.Encode()) > 0 || f.Bits() != 0 || f.Probes() != 0 || f.Set() != 0 || len(f.Spots(api.Hash{1})) > 0 || f.Fork() != nil {
		t.Error("a nil filter has something")
	}
	if f.Join(nil) != api.ErrNil || f.Join(made(t, 8, 1)) != api.ErrNil {
		t.Error("Join of a nil filter")
	}
}

// P3
func TestNothingIsShared(t *testing.T) {
	l := []api.Hash{{1}, {2}, {1}}
	kept := slices.Clone(l)
	f := Of(l[:2])
	was := f.Encode()
	if !slices.Equal(l, kept) {
		t.Error("Of changes its list")
	}
	clear(l)
	b := f.Encode()
	g, _, _ := Decode(b)
	clear(b[:cap(b)])
	s := f.Spots(api.Hash{3})
	clear(s[:cap(s)])
	if !bytes.Equal(f.Encode(), was) || !bytes.Equal(g.Encode(), was) || !slices.Equal(f.Spots(api.Hash{3}), spots(api.Hash{3}, 64, 7)) {
		t.Error("what is answered is shared")
	}
}

// P21.3: what was set ahead does not stay
func TestLoad(t *testing.T) {
	w := newWords(72)
	for n := range 72 {
		w.put(n)
	}
	w.load([]byte{1, 0, 0, 0, 0, 0, 0, 0, 0x80})
	if w.count() != 2 || !w.has(0) || !w.has(71) {
		t.Errorf("%x", w)
	}
}
