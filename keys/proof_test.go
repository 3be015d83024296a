package keys

import (
	"bytes"
	"math/rand"
	"reflect"
	"slices"
	"strconv"
	"testing"

	"estuary/api"
	"estuary/digest"
	"estuary/update"
	"estuary/wire"
)

func idOf(sealed []byte) api.Hash { return digest.Sum(sealed[:len(sealed)-tagSize]) }

// raws is rows of bytes as wire writes them, one behind the other.
func raws(l ...[]byte) []byte {
	var w wire.Writer
	for _, b := range l {
		w.Raw(b)
	}
	all, _ := w.Done()
	return all
}

// byId is two sealed updates, the one with the lower id first.
func byId(a, b []byte) ([]byte, []byte) {
	if digest.Compare(idOf(a), idOf(b)) > 0 {
		return b, a
	}
	return a, b
}

func proved(t *testing.T, a, b []byte) []byte {
	t.Helper()
	p, why := Proof(a, b)
	if why != api.OK {
		t.Fatalf("Proof: %d", why)
	}
	return p
}

// P25.4, the first example
func TestProofExample(t *testing.T) {
	k := Derive("k")
	a, b := byId(sealedBy(t, k, said1(t, "x")), sealedBy(t, k, said1(t, "y")))
	if p, why := Proof(a, a); len(p) > 0 || why != api.ErrProof {
		t.Errorf("an update and itself: %x, %d", p, why)
	}
	p := proved(t, a, b)
	if !bytes.Equal(p, raws(a, b)) || !bytes.Equal(proved(t, b, a), p) {
		t.Errorf("a proof: %x", p)
	}
	want := api.Fork{Author: 1, Seq: 1, Ids: []api.Hash{idOf(a), idOf(b)}}
	if f, why := ringOf(t, api.Holder{Author: 1, Key: k}).Judge(p); why != api.OK || !reflect.DeepEqual(f, want) {
		t.Errorf("judged: %v, %d", f, why)
	}
	refusedJudge(t, "another key", ringOf(t, api.Holder{Author: 1, Key: Derive("other")}), p, api.ErrTag)
	refusedJudge(t, "no key", ringOf(t, api.Holder{Author: 2, Key: k}), p, api.ErrKey)
}

// refusedJudge asks Judge of a ring for an error, with nothing beside it.
func refusedJudge(t *testing.T, name string, r *Ring, p []byte, want api.Errno) {
	t.Helper()
	if f, why := r.Judge(p); why != want || f.Author != 0 || f.Seq != 0 || len(f.Ids) > 0 {
		t.Errorf("%s: %v, %d, not %d", name, f, why, want)
	}
}

// tagged is bytes with a tag behind them that no key makes.
func tagged(b []byte) []byte { return append(slices.Clone(b), make([]byte, tagSize)...) }

// P25.4, P2: of several errors the first; the tags play no part.
func TestProofRefuses(t *testing.T) {
	good := tagged(said1(t, "x"))
	bad := tagged([]byte("EST2"))
	none := tagged(nil)
	for name, x := range map[string]struct {
		a, b []byte
		why  api.Errno
	}{
		"nothing":                   {nil, nil, api.ErrShort},
		"a short first":             {good[:tagSize-1], good, api.ErrShort},
		"a short second":            {good, good[:tagSize-1], api.ErrShort},
		"a wrong one, a short one":  {bad, nil, api.ErrShort},
		"a wrong first":             {bad, good, api.ErrForm},
		"a wrong second":            {good, bad, api.ErrForm},
		"a tag alone first":         {none, bad, api.ErrShort},
		"a tag alone second":        {bad, none, api.ErrForm},
		"the same":                  {good, good, api.ErrProof},
		"the same by another tag":   {good, sealedBy(t, Derive("k"), said1(t, "x")), api.ErrProof},
		"another author":            {good, tagged(encoded(t, api.Update{Author: 2, Seq: 1})), api.ErrProof},
		"another Seq":               {good, tagged(encoded(t, api.Update{Author: 1, Seq: 2})), api.ErrProof},
		"another author and Seq":    {good, tagged(encoded(t, api.Update{Author: 2, Seq: 2})), api.ErrProof},
		"too many bytes":            {tagged(make([]byte, api.MaxUpdate+1)), good, api.ErrSize},
		"another one of the author": {good, tagged(said1(t, "y")), api.OK},
	} {
		if p, why := Proof(x.a, x.b); why != x.why || (len(p) > 0) != (why == api.OK) {
			t.Errorf("%s: %x, %d, not %d", name, p, why, x.why)
		}
	}
}

// P25.4: with most MaxUpdate + 32 the largest updates can be judged.
func TestProofOfTheLargest(t *testing.T) {
	k := Derive("k")
	a, b := sealedBy(t, k, encoded(t, largest(t, "x"))), sealedBy(t, k, encoded(t, largest(t, "y")))
	if len(a) != api.MaxUpdate+tagSize {
		t.Fatalf("%d bytes", len(a))
	}
	r := ringOf(t, api.Holder{Author: 1, Key: k})
	if f, why := r.Judge(proved(t, a, b)); why != api.OK || !slices.Equal(f.Ids, up(idOf(a), idOf(b))) {
		t.Errorf("%v, %d", f, why)
	}
	refusedJudge(t, "too long", r, raws(append(slices.Clone(a), 0), b), api.ErrLong)
}

// P25.4, P25.5, P2: wire's faults, then Open's of the first, of the second, then what is no proof.
func TestJudgeRefuses(t *testing.T) {
	k := Derive("k")
	r := ringOf(t, api.Holder{Author: 1, Key: k}, api.Holder{Author: 2, Key: k})
	low, high := byId(sealedBy(t, k, said1(t, "x")), sealedBy(t, k, said1(t, "y")))
	other := sealedBy(t, k, encoded(t, api.Update{Author: 2, Seq: 1}))
	second := sealedBy(t, k, encoded(t, api.Update{Author: 1, Seq: 2}))
	alien := sealedBy(t, k, encoded(t, api.Update{Author: 3, Seq: 1}))
	forged := sealedBy(t, Derive("other"), said1(t, "z"))
	bad := tagged([]byte("EST2"))
	long := append([]byte{0xa1, 0x80, 0x04}, low...) // a length of MaxUpdate + 33
	for name, x := range map[string]struct {
		p   []byte
		why api.Errno
	}{
		"nothing":                            {nil, api.ErrShort},
		"one alone":                          {raws(low), api.ErrShort},
		"a wrong one alone":                  {raws(bad), api.ErrShort},
		"a length in too many bytes":         {append([]byte{0x80, 0x00}, raws(high)...), api.ErrForm},
		"a length that is too great":         {long, api.ErrLong},
		"a wrong one, and one too long":      {append(raws(bad), long...), api.ErrLong},
		"three":                              {raws(low, high, high), api.ErrMore},
		"wrong ones, and a byte behind":      {append(raws(bad, bad), 0), api.ErrMore},
		"two of no bytes":                    {raws(nil, nil), api.ErrShort},
		"a short one, and a wrong one":       {raws(low[:tagSize-1], bad), api.ErrShort},
		"a wrong one, and a short one":       {raws(bad, low[:tagSize-1]), api.ErrForm},
		"a forged one, and an alien's":       {raws(forged, alien), api.ErrTag},
		"an alien's, and a forged one":       {raws(alien, forged), api.ErrKey},
		"a good one, and a forged one":       {raws(low, forged), api.ErrTag},
		"the same, and a forged one":         {raws(high, forged), api.ErrTag},
		"a good one, and an alien's":         {raws(low, alien), api.ErrKey},
		"the greater one first":              {raws(high, low), api.ErrProof},
		"the same twice":                     {raws(low, low), api.ErrProof},
		"of two authors":                     {raws(low, other), api.ErrProof},
		"of two authors, the other way":      {raws(other, low), api.ErrProof},
		"of two numbers":                     {raws(low, second), api.ErrProof},
		"of two numbers, the other way":      {raws(second, low), api.ErrProof},
		"a forged one, in the wrong order":   {raws(high, sealedBy(t, Derive("other"), low[:len(low)-tagSize])), api.ErrTag},
		"a wrong one, with an author's none": {raws(tagged(nil), low), api.ErrShort},
	} {
		refusedJudge(t, name, r, x.p, x.why)
	}
	p := proved(t, low, high)
	if _, why := r.Judge(p); why != api.OK {
		t.Errorf("a good proof: %d", why)
	}
	refusedJudge(t, "no ring", nil, p, api.ErrNil)
	refusedJudge(t, "no ring, nothing", nil, nil, api.ErrNil)
	refusedJudge(t, "an empty ring", ringOf(t), p, api.ErrKey)
	for n := range p {
		refusedJudge(t, "cut", r, p[:n], api.ErrShort)
	}
}

// P25.7: who has not both tags can make nothing of a proof, whatever is spoilt of it.
func TestJudgeSpoilt(t *testing.T) {
	k := Derive("k")
	r := ringOf(t, api.Holder{Author: 1, Key: k})
	p := proved(t, sealedBy(t, k, said1(t, "x")), sealedBy(t, k, said1(t, "y")))
	for i := range p {
		for bit := range 8 {
			b := slices.Clone(p)
			b[i] ^= 1 << bit
			if f, why := r.Judge(b); why == api.OK || len(f.Ids) > 0 {
				t.Errorf("byte %d, bit %d: %v", i, bit, f)
			}
		}
	}
}

// anySealed is what some authors sealed; those above the honest ones say unlike things with one number.
func anySealed(t *testing.T, r *rand.Rand, honest int) [][]byte {
	t.Helper()
	var all [][]byte
	for author := 1; author <= 4; author++ {
		for seq := 1; seq <= 4; seq++ {
			times := 1
			if author > honest {
				times += r.Intn(2)
			}
			for i := range times {
				b := encoded(t, api.Update{Author: author, Seq: seq, Time: int64(r.Intn(3)), Note: strconv.Itoa(i)})
				all = append(all, sealedBy(t, Derive(strconv.Itoa(author)), b))
			}
		}
	}
	return all
}

// P25.7, P25.6 (E16): of each two that were sealed there is a proof just if they are unlike ones of one number, and it judges their author; honest ones are judged by nothing.
func TestNobodyElse(t *testing.T) {
	ring := ringOf(t, api.Holder{Author: 1, Key: Derive("1")}, api.Holder{Author: 2, Key: Derive("2")}, api.Holder{Author: 3, Key: Derive("3")}, api.Holder{Author: 4, Key: Derive("4")})
	judged := 0
	for seed := range int64(12) {
		r := rand.New(rand.NewSource(seed))
		honest := r.Intn(4)
		all := anySealed(t, r, honest)
		for _, a := range all {
			for _, b := range all {
				u, _, _ := update.Decode(a[:len(a)-tagSize])
				v, _, _ := update.Decode(b[:len(b)-tagSize])
				forks := u.Author == v.Author && u.Seq == v.Seq && !update.Same(u, v)
				p, why := Proof(a, b)
				if (why == api.OK) != forks {
					t.Fatalf("seed %d: %v and %v: %d", seed, u, v, why)
				}
				f, why := ring.Judge(raws(byId(a, b)))
				if (why == api.OK) != forks || forks && (f.Author != u.Author || f.Seq != u.Seq || f.Author <= honest) {
					t.Fatalf("seed %d: %v and %v: %v, %d", seed, u, v, f, why)
				}
				if forks {
					judged++
					if !bytes.Equal(p, raws(byId(a, b))) || !slices.Equal(f.Ids, up(idOf(a), idOf(b))) {
						t.Fatalf("seed %d: %x, %v", seed, p, f)
					}
				}
			}
		}
	}
	if judged < 20 {
		t.Errorf("only %d", judged)
	}
}

// P3: what is handed in stays as it is, with the room behind it; answers are new memory.
func TestProofIsApart(t *testing.T) {
	k := Derive("k")
	r := ringOf(t, api.Holder{Author: 1, Key: k})
	a, spareA := withSpare(sealedBy(t, k, said1(t, "x")))
	b, spareB := withSpare(sealedBy(t, k, said1(t, "y")))
	p, spare := withSpare(proved(t, a, b))
	proved(t, a, b)[3] = 0
	f, _ := r.Judge(p)
	f.Ids[0], f.Ids = api.Hash{}, append(f.Ids, api.Hash{}, api.Hash{})
	if again, why := r.Judge(p); why != api.OK || !slices.Equal(again.Ids, up(idOf(a), idOf(b))) {
		t.Error("an answer is kept")
	}
	if !bytes.Equal(p, proved(t, a, b)) || !untouched(spareA) || !untouched(spareB) || !untouched(spare) {
		t.Error("Proof, or Judge, shares memory")
	}
}

// What is caught and was no refusal goes on: nobody is to take a fault of the program for one of the proof.
func TestOtherPanicsGoOn(t *testing.T) {
	defer func() {
		if recover() != "another one" {
			t.Error("it was swallowed")
		}
	}()
	if why := number(refusal{api.ErrProof}); why != api.ErrProof || (refusal{why}).Error() == "" {
		t.Error("a refusal")
	}
	number("another one")
}
