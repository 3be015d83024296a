package edit

import (
	"bytes"
	"math"
	"strings"
	"testing"

	"estuary/api"
	"estuary/value"
	"estuary/wire"
	"estuary/words"
)

var other = api.Hash{0xab, 1, 2}

func own(n int) api.Ref { return api.Ref{Kind: api.RefOwn, N: n} }
func op(n int) api.Ref  { return api.Ref{Kind: api.RefOp, Hash: other, N: n} }

func number(n int64) api.Value { return api.Value{Kind: api.Int, N: n} }
func text(s string) api.Value  { return api.Value{Kind: api.Text, S: s} }

const otherHex = "ab01020000000000000000000000000000000000000000000000000000000000"

type said struct {
	e    api.Edit
	line string
	b    []byte
}

func join(l ...[]byte) []byte {
	return bytes.Join(l, nil)
}

func opBytes(n byte) []byte {
	return join([]byte{2}, other[:], []byte{n})
}

// rightEdits are right edits of all acts, with their lines and bytes.
func rightEdits() []said {
	key := strings.Repeat("k", api.MaxKey)
	return []said{
		{api.Edit{Act: api.Put, Key: "a", Value: number(1)}, `put . . "a" 1`, []byte{1, 0, 0, 1, 'a', 2, 2}},
		{api.Edit{Act: api.Put, Obj: own(1), At: own(64), Value: api.Value{Kind: api.Outline}}, `put #1 #64 "" <>`, []byte{1, 1, 1, 1, 64, 0, 11}},
		{api.Edit{Act: api.Put, Obj: op(7), Key: "a \"b\"", Value: text("b c")}, `put ` + otherHex + `#7 . "a \"b\"" "b c"`, join([]byte{1}, opBytes(7), []byte{0, 5, 'a', ' ', '"', 'b', '"', 4, 3, 'b', ' ', 'c'})},
		{api.Edit{Act: api.Delete, Key: key}, `delete . . "` + key + `"`, join([]byte{2, 0, 0, 64}, []byte(key))},
		{api.Edit{Act: api.Delete, Obj: own(3), At: op(1)}, `delete #3 ` + otherHex + `#1 ""`, join([]byte{2, 1, 3}, opBytes(1), []byte{0})},
		{api.Edit{Act: api.Add, Key: "n", N: -1}, `add . . "n" -1`, []byte{3, 0, 0, 1, 'n', 1}},
		{api.Edit{Act: api.Add, Key: "n"}, `add . . "n" 0`, []byte{3, 0, 0, 1, 'n', 0}},
		{api.Edit{Act: api.Add, At: own(2), N: math.MinInt64}, `add . #2 "" -9223372036854775808`, []byte{3, 0, 1, 2, 0, 0xff, 0xff, 0xff, 0xff, 0xff, 0xff, 0xff, 0xff, 0xff, 1}},
		{api.Edit{Act: api.Insert, Obj: own(1), At: own(2), Value: text("b c")}, `insert #1 #2 "b c"`, []byte{4, 1, 1, 1, 2, 4, 3, 'b', ' ', 'c'}},
		{api.Edit{Act: api.Insert, Value: api.Value{}}, `insert . . null`, []byte{4, 0, 0, 0}},
		{api.Edit{Act: api.Mark, Obj: own(1), Key: "b", Value: api.Value{Kind: api.Counter, N: -3}}, `mark #1 . . "b" 0 +-3`, []byte{5, 1, 1, 0, 0, 1, 'b', 0, 7, 5}},
		{api.Edit{Act: api.Mark, Obj: own(1), At: own(2), To: op(3), Key: "b", Sides: 3, Value: api.Value{Kind: api.Bytes, S: "\xff"}}, `mark #1 #2 ` + otherHex + `#3 "b" 3 x"ff"`, join([]byte{5, 1, 1, 1, 2}, opBytes(3), []byte{1, 'b', 3, 5, 1, 0xff})},
		{api.Edit{Act: api.Grow, Obj: own(1), Key: "m", Value: api.Value{Kind: api.Float, F: 1.5}}, `grow #1 . "m" 1.5`, []byte{6, 1, 1, 0, 1, 'm', 3, 0x3f, 0xf8, 0, 0, 0, 0, 0, 0}},
		{api.Edit{Act: api.Grow, Obj: own(1), At: own(2), Key: "€", Value: api.Value{Kind: api.Map}}, `grow #1 #2 "€" {}`, []byte{6, 1, 1, 1, 2, 3, 0xe2, 0x82, 0xac, 8}},
		{api.Edit{Act: api.Move, Obj: own(1), At: own(2), Key: "m"}, `move #1 #2 . "m"`, []byte{7, 1, 1, 1, 2, 0, 1, 'm'}},
		{api.Edit{Act: api.Move, At: own(2), To: own(2), Key: "m"}, `move . #2 #2 "m"`, []byte{7, 0, 1, 2, 1, 2, 1, 'm'}},
		{api.Edit{Act: api.Prune, Obj: op(1), At: op(64)}, `prune ` + otherHex + `#1 ` + otherHex + `#64`, join([]byte{8}, opBytes(1), opBytes(64))},
		{api.Edit{Act: api.Grant, Who: 7, N: 3}, `grant 7 3`, []byte{9, 7, 6}},
		{api.Edit{Act: api.Grant, Who: api.MaxAuthor - 1, N: api.MaxRank}, `grant 4294967295 9`, []byte{9, 0xff, 0xff, 0xff, 0xff, 15, 18}},
		{api.Edit{Act: api.Grant, Who: 1, N: 1}, `grant 1 1`, []byte{9, 1, 2}},
		{api.Edit{Act: api.Revoke, Who: 300}, `revoke 300`, []byte{10, 0xac, 2}},
	}
}

// same holds edits against each other, floats by their bits.
func same(a, b api.Edit) bool {
	bits := math.Float64bits(a.Value.F) == math.Float64bits(b.Value.F)
	a.Value.F, b.Value.F = 0, 0
	return bits && a == b
}

// uses is the chapter's table.
func uses() []string {
	return []string{"", "Obj At Key Value", "Obj At Key", "Obj At Key N", "Obj At Value", "Obj At To Key Sides Value", "Obj At Key Value", "Obj At To Key", "Obj At", "Who N", "Who"}
}

// spoils are, for each field, what makes it another one than zero.
func spoils() map[string][]func(*api.Edit) {
	refs := []api.Ref{own(1), op(1), {Hash: other}, {N: 1}, {Kind: 3}}
	l := map[string][]func(*api.Edit){
		"Key":   {func(e *api.Edit) { e.Key = "z" }},
		"Sides": {func(e *api.Edit) { e.Sides = 1 }, func(e *api.Edit) { e.Sides = -1 }},
		"N":     {func(e *api.Edit) { e.N = 1 }},
		"Who":   {func(e *api.Edit) { e.Who = 1 }},
	}
	for _, ref := range refs {
		l["Obj"] = append(l["Obj"], func(e *api.Edit) { e.Obj = ref })
		l["At"] = append(l["At"], func(e *api.Edit) { e.At = ref })
		l["To"] = append(l["To"], func(e *api.Edit) { e.To = ref })
	}
	for _, v := range []api.Value{{Kind: api.Bool}, {N: 1}, {F: 1}, {F: math.Copysign(0, -1)}, {S: "a"}, {F: math.NaN()}} {
		l["Value"] = append(l["Value"], func(e *api.Edit) { e.Value = v })
	}
	return l
}

// P4.1
func TestNamesAndUses(t *testing.T) {
	names := strings.Fields("none put delete add insert mark grow move prune grant revoke")
	for a := range 256 {
		name, use := "", ""
		if a > 0 && a < len(names) {
			name, use = names[a], uses()[a]
		}
		if Name(api.Act(a)) != name || Uses(api.Act(a)) != use {
			t.Errorf("%d: %q, %q", a, Name(api.Act(a)), Uses(api.Act(a)))
		}
	}
	if put != api.Put || remove != api.Delete || add != api.Add || insert != api.Insert || mark != api.Mark || grow != api.Grow || move != api.Move || prune != api.Prune || grant != api.Grant || revoke != api.Revoke {
		t.Error("the acts' numbers are not those of package api")
	}
}

// P4.2
func TestRightEdits(t *testing.T) {
	for _, c := range rightEdits() {
		if why := Right(c.e); why != api.OK {
			t.Errorf("%s: %d", c.line, why)
		}
	}
}

// P4.2
func TestFieldsThatAreNotUsed(t *testing.T) {
	for _, c := range rightEdits() {
		for name, l := range spoils() {
			if strings.Contains(" "+uses()[c.e.Act]+" ", " "+name+" ") {
				continue
			}
			for i, spoil := range l {
				e := c.e
				spoil(&e)
				if why := Right(e); why != api.ErrField {
					t.Errorf("%s with %s %d: %d", c.line, name, i, why)
				}
			}
		}
	}
}

// wrongRefs may not be.
func wrongRefs() []api.Ref {
	return []api.Ref{{N: 1}, {Hash: other}, {Kind: api.RefOwn}, own(65), own(-1), {Kind: api.RefOwn, Hash: other, N: 1}, op(0), op(65), op(-5), op(math.MinInt), {Kind: 3, N: 1}, {Kind: 255}}
}

// P4.2
func TestFieldsThatMayNotBeSo(t *testing.T) {
	check := func(name string, e api.Edit) {
		t.Helper()
		if why := Right(e); why != api.ErrField {
			t.Errorf("%s: %d", name, why)
		}
		var w wire.Writer
		w.Byte(1)
		Write(&w, e)
		if _, why := w.Done(); why != api.ErrField || w.Len() != 1 {
			t.Errorf("%s is written: %d, Len %d", name, why, w.Len())
		}
		if line := Show(e); line != "" {
			t.Errorf("%s is shown: %s", name, line)
		}
	}
	for _, c := range rightEdits() {
		use := " " + uses()[c.e.Act] + " "
		for _, ref := range wrongRefs() {
			e := c.e
			e.Obj = ref
			check("Obj of "+c.line, e)
			e = c.e
			e.At = ref
			check("At of "+c.line, e)
			e = c.e
			e.To = ref
			check("To of "+c.line, e)
		}
		for _, key := range []string{"\n", "\x7f", "\xff", strings.Repeat("k", api.MaxKey+1)} {
			e := c.e
			e.Key = key
			check("Key of "+c.line, e)
		}
		for _, v := range []api.Value{{Kind: api.Bool, N: 2}, {Kind: api.Text, S: "\xff"}, {Kind: 12}, {Kind: api.Float, F: math.NaN()}} {
			e := c.e
			e.Value = v
			check("Value of "+c.line, e)
		}
		for k := api.Map; k <= api.Outline && c.e.Act == api.Mark; k++ {
			e := c.e
			e.Value = api.Value{Kind: k}
			check("Value of "+c.line, e)
		}
		for _, sides := range []int{-1, 4, 256} {
			e := c.e
			e.Sides = sides
			check("Sides of "+c.line, e)
		}
		for _, n := range []int64{0, -1, api.MaxRank + 1} {
			e := c.e
			e.N = n
			if c.e.Act == api.Grant {
				check("N of "+c.line, e)
			}
		}
		for _, who := range []int{0, -1, api.MaxAuthor, math.MaxInt} {
			e := c.e
			e.Who = who
			if strings.Contains(use, " Who ") {
				check("Who of "+c.line, e)
			}
		}
	}
}

// P4.2
func TestFieldsThatDoNotFitOneAnother(t *testing.T) {
	for _, a := range []api.Act{api.Put, api.Delete, api.Add} {
		for _, at := range []api.Ref{own(3), op(3)} {
			if why := Right(api.Edit{Act: a, At: at, Key: "a"}); why != api.ErrField {
				t.Errorf("%d with Key and At: %d", a, why)
			}
		}
		if why := Right(api.Edit{Act: a}); why != api.ErrField {
			t.Errorf("%d with neither Key nor At: %d", a, why)
		}
	}
	for _, e := range []api.Edit{{Act: api.Move, Key: "m"}, {Act: api.Prune}, {Act: api.Mark}, {Act: api.Grow}, {Act: api.Move, At: own(1)}} {
		if why := Right(e); why != api.ErrField {
			t.Errorf("%v: %d", e, why)
		}
	}
}

// P4.2, P4.3, P4.5
func TestActsThatAreNone(t *testing.T) {
	for _, a := range []api.Act{0, 11, 255} {
		e := api.Edit{Act: a, Obj: api.Ref{Kind: 9}, Who: -1}
		if why := Right(e); why != api.ErrAct {
			t.Errorf("%d: %d", a, why)
		}
		var w wire.Writer
		Write(&w, e)
		if _, why := w.Done(); why != api.ErrAct || w.Len() != 0 {
			t.Errorf("%d is written: %d", a, why)
		}
		if Show(e) != "" {
			t.Errorf("%d is shown", a)
		}
	}
}

func written(t *testing.T, e api.Edit) []byte {
	t.Helper()
	var w wire.Writer
	Write(&w, e)
	b, why := w.Done()
	if why != api.OK {
		t.Fatalf("%v: %d", e, why)
	}
	return b
}

// P4.3, P4.6
func TestBytes(t *testing.T) {
	for _, c := range rightEdits() {
		if b := written(t, c.e); !bytes.Equal(b, c.b) {
			t.Errorf("%s: %x, not %x", c.line, b, c.b)
		}
		r := wire.NewReader(join([]byte{9}, c.b, []byte{9}))
		r.Byte()
		e := Read(r)
		if why, at := r.Fault(); why != api.OK || at != 0 || !same(e, c.e) || r.At() != len(c.b)+1 {
			t.Errorf("%s is read as %v, %d at %d", c.line, e, why, at)
		}
	}
	Write(nil, rightEdits()[0].e)
	Write(nil, api.Edit{})
}

// P4.3
func TestReadFaults(t *testing.T) {
	h := other[:]
	long := bytes.Repeat([]byte{'k'}, 65)
	type want struct {
		name string
		b    []byte
		why  api.Errno
		at   int
	}
	for _, c := range []want{
		{"nothing", nil, api.ErrShort, 0},
		{"the act 0", []byte{0}, api.ErrAct, 0},
		{"the act 11", []byte{11, 0, 0}, api.ErrAct, 0},
		{"the act alone", []byte{1}, api.ErrShort, 1},
		{"a reference's kind 3", []byte{1, 3, 0}, api.ErrForm, 1},
		{"At's kind 3", []byte{1, 0, 3}, api.ErrForm, 2},
		{"RefOwn without N", []byte{1, 1}, api.ErrShort, 2},
		{"RefOwn 0", []byte{1, 1, 0, 0}, api.ErrField, 2},
		{"RefOwn 65", []byte{1, 1, 65, 0}, api.ErrRange, 2},
		{"RefOwn 80 00", []byte{1, 1, 0x80, 0}, api.ErrForm, 3},
		{"RefOp, a hash that is short", join([]byte{1, 2}, h[:31]), api.ErrShort, 33},
		{"RefOp 0", join([]byte{1, 2}, h, []byte{0}), api.ErrField, 34},
		{"RefOp 65", join([]byte{1, 2}, h, []byte{65}), api.ErrRange, 34},
		{"RefOp without N", join([]byte{1, 2}, h), api.ErrShort, 34},
		{"a key that is long", join([]byte{1, 0, 0, 65}, long), api.ErrLong, 3},
		{"a key that is short", []byte{1, 0, 0, 2, 'a'}, api.ErrShort, 5},
		{"a key that is not UTF-8", []byte{1, 0, 0, 2, 'a', 0xff}, api.ErrForm, 5},
		{"a key with a line feed", []byte{1, 0, 0, 1, '\n', 99}, api.ErrField, 3},
		{"a key with 127", []byte{2, 0, 0, 2, 'a', 127}, api.ErrField, 3},
		{"an empty key of a Mark", []byte{5, 0, 0, 0, 0, 9, 99}, api.ErrField, 4},
		{"an empty key of a Grow", []byte{6, 0, 0, 0, 99}, api.ErrField, 3},
		{"an empty key of a Move", []byte{7, 0, 0, 0, 0}, api.ErrField, 4},
		{"a value's kind", []byte{1, 0, 0, 1, 'a', 12}, api.ErrForm, 5},
		{"a value that is short", []byte{1, 0, 0, 1, 'a', 2}, api.ErrShort, 6},
		{"a Mark's value that is an object", []byte{5, 0, 0, 0, 1, 'b', 0, 8}, api.ErrField, 7},
		{"a Mark's value that is no value", []byte{5, 0, 0, 0, 1, 'b', 0, 1, 2}, api.ErrForm, 8},
		{"sides 4", []byte{5, 0, 0, 0, 1, 'b', 4, 99}, api.ErrField, 6},
		{"sides 255", []byte{5, 0, 0, 0, 1, 'b', 255}, api.ErrField, 6},
		{"a Grant's rank 0", []byte{9, 7, 0}, api.ErrField, 2},
		{"a Grant's rank -1", []byte{9, 7, 1}, api.ErrField, 2},
		{"a Grant's rank 10", []byte{9, 7, 20}, api.ErrField, 2},
		{"a Grant's rank that is missing", []byte{9, 7}, api.ErrShort, 2},
		{"who 0, of a Grant", []byte{9, 0, 0}, api.ErrField, 1},
		{"who 0, of a Revoke", []byte{10, 0}, api.ErrField, 1},
		{"who above most", []byte{10, 0x80, 0x80, 0x80, 0x80, 16}, api.ErrRange, 1},
		{"Put with Key and At", []byte{1, 0, 1, 3, 1, 'a', 0}, api.ErrField, 0},
		{"Put with neither", []byte{1, 0, 0, 0, 0}, api.ErrField, 0},
		{"Put with neither, cut", []byte{1, 0, 0, 0}, api.ErrShort, 4},
		{"Delete with Key and At", []byte{2, 0, 1, 3, 1, 'a'}, api.ErrField, 0},
		{"Delete with neither", []byte{2, 0, 0, 0}, api.ErrField, 0},
		{"Add with neither", []byte{3, 0, 0, 0, 2}, api.ErrField, 0},
		{"Move of nothing", []byte{7, 0, 0, 0, 1, 'm'}, api.ErrField, 0},
		{"Prune of nothing", []byte{8, 0, 0}, api.ErrField, 0},
		{"the first of two faults", []byte{1, 1, 0, 3}, api.ErrField, 2},
	} {
		for _, ahead := range []int{0, 3} {
			r := wire.NewReader(join(make([]byte, ahead), c.b))
			for range ahead {
				r.Byte()
			}
			e := Read(r)
			if why, at := r.Fault(); !same(e, api.Edit{}) || why != c.why || at != c.at+ahead {
				t.Errorf("%s, %d bytes ahead: %v, %d at %d", c.name, ahead, e, why, at)
			}
		}
	}
}

// P4.3, P1
func TestReadOfReadersWithAFault(t *testing.T) {
	r := wire.NewReader(rightEdits()[0].b)
	r.Fail(api.ErrTalk, 9)
	e := Read(r)
	if why, at := r.Fault(); !same(e, api.Edit{}) || why != api.ErrTalk || at != 9 {
		t.Errorf("%v, %d at %d", e, why, at)
	}
	if e := Read(nil); !same(e, api.Edit{}) {
		t.Errorf("of a nil Reader: %v", e)
	}
}

// checkOneWay: what is read is right, and is written just so; it tells whether it was read.
func checkOneWay(t *testing.T, b []byte) bool {
	t.Helper()
	r := wire.NewReader(b)
	e := Read(r)
	if why, _ := r.Fault(); why != api.OK {
		if !same(e, api.Edit{}) {
			t.Fatalf("%x: a fault, and %v", b, e)
		}
		return false
	}
	if Right(e) != api.OK || !bytes.Equal(written(t, e), b[:r.At()]) {
		t.Fatalf("%x is read as %v", b, e)
	}
	return true
}

// P4.3, P4.6: each byte turned in all ways, and each cut.
func TestSpoiltBytes(t *testing.T) {
	read := 0
	for _, c := range rightEdits() {
		for cut := range c.b {
			if checkOneWay(t, c.b[:cut]) {
				t.Errorf("%x is read", c.b[:cut])
			}
		}
		for at := range c.b {
			for turn := 1; turn < 256; turn++ {
				b := bytes.Clone(c.b)
				b[at] ^= byte(turn)
				if checkOneWay(t, b) {
					read++
				}
			}
		}
	}
	if read == 0 {
		t.Error("none was read")
	}
}

// P4.4
func TestOp(t *testing.T) {
	self := api.Hash{5}
	e := api.Edit{Act: api.Mark, Obj: own(1), At: op(2), To: api.Ref{Hash: other, N: 9}, Key: "k", Sides: 2, Value: number(3), N: 4, Who: 5}
	want := api.Op{Id: api.Id{Hash: self, N: 8}, Author: 6, Act: api.Mark, Obj: api.Id{Hash: self, N: 1}, At: api.Id{Hash: other, N: 2}, Key: "k", Sides: 2, Value: number(3), N: 4, Who: 5}
	if got := Op(e, self, 8, 6); got != want {
		t.Errorf("%v", got)
	}
	e = api.Edit{Act: 99, Obj: api.Ref{Kind: 3, Hash: other, N: 1}, At: own(-7), To: op(1000)}
	want = api.Op{Id: api.Id{Hash: self, N: -1}, Author: -2, Act: 99, At: api.Id{Hash: self, N: -7}, To: api.Id{Hash: other, N: 1000}}
	if got := Op(e, self, -1, -2); got != want {
		t.Errorf("of a wrong edit: %v", got)
	}
}

// P4.4
func TestRef(t *testing.T) {
	self := api.Hash{5}
	for id, want := range map[api.Id]api.Ref{
		{}:                    {},
		{Hash: self, N: 3}:    own(3),
		{Hash: other, N: 3}:   op(3),
		{N: 3}:                {Kind: api.RefOp, N: 3},
		{Hash: self}:          {Kind: api.RefOwn},
		{Hash: other}:         {Kind: api.RefOp, Hash: other},
		{Hash: other, N: -90}: op(-90),
	} {
		if got := Ref(id, self); got != want {
			t.Errorf("%v: %v", id, got)
		}
	}
	if Ref(api.Id{}, api.Hash{}) != (api.Ref{}) || Ref(api.Id{N: 2}, api.Hash{}) != own(2) {
		t.Error("in the update of the zero hash")
	}
}

// P4.8
func TestRefOfWhatAnOpMeans(t *testing.T) {
	for _, self := range []api.Hash{{}, {5}} {
		for _, ref := range []api.Ref{{}, own(1), own(64), op(1), op(64)} {
			o := Op(api.Edit{Act: api.Move, Obj: ref, At: ref, To: ref}, self, 1, 1)
			if Ref(o.Obj, self) != ref || Ref(o.At, self) != ref || Ref(o.To, self) != ref {
				t.Errorf("%v in %x", ref, self[:1])
			}
		}
	}
}

// P4.4
func TestPlace(t *testing.T) {
	obj, at, id := api.Id{Hash: other, N: 1}, api.Id{Hash: other, N: 2}, api.Id{Hash: api.Hash{9}, N: 4}
	for a := range 256 {
		o := api.Op{Id: id, Act: api.Act(a), Obj: obj, At: at, To: at, Key: "k"}
		var want api.Place
		switch o.Act {
		case api.Put, api.Delete, api.Add:
			want = api.Place{Obj: obj, Key: "k", At: at}
		case api.Insert, api.Grow:
			want = api.Place{Obj: obj, At: id}
		}
		if got := Place(o); got != want {
			t.Errorf("%d: %v", a, got)
		}
	}
}

// P4.5, P4.7
func TestLines(t *testing.T) {
	for _, c := range rightEdits() {
		if line := Show(c.e); line != c.line {
			t.Errorf("%s, not %s", line, c.line)
		}
		if e, why, at := Parse(c.line); why != api.OK || at != 0 || !same(e, c.e) {
			t.Errorf("%s: %v, %d at %d", c.line, e, why, at)
		}
		if e, why, at := Parse("  " + c.line + "   "); why != api.OK || at != 0 || !same(e, c.e) {
			t.Errorf("%s with blanks: %v, %d at %d", c.line, e, why, at)
		}
	}
	e, why, _ := Parse(`insert   #1 #2    "b c"`)
	if why != api.OK || Show(e) != `insert #1 #2 "b c"` {
		t.Errorf("blanks between: %v, %d", e, why)
	}
}

// P4.5
func TestLinesThatAreNone(t *testing.T) {
	type want struct {
		why api.Errno
		at  int
	}
	upper := strings.ToUpper(otherHex)
	long := strings.Repeat("k", 65)
	for s, w := range map[string]want{
		"":                                   {api.ErrAct, 0},
		"   ":                                {api.ErrAct, 0},
		"jump . .":                           {api.ErrAct, 0},
		"Put . . \"a\" 1":                    {api.ErrAct, 0},
		`"put" . . "a" 1`:                    {api.ErrAct, 0},
		"put\t. . \"a\" 1":                   {api.ErrAct, 0},
		"put":                                {api.ErrField, 1},
		"put .":                              {api.ErrField, 2},
		"put . .":                            {api.ErrField, 3},
		`put . . "a"`:                        {api.ErrField, 4},
		`put . . "a" 1 2`:                    {api.ErrField, 5},
		`put . . "a" 1 2 3`:                  {api.ErrField, 5},
		`put . . "a" x 2`:                    {api.ErrField, 4},
		`put x . "a" 1`:                      {api.ErrField, 1},
		`put .. . "a" 1`:                     {api.ErrField, 1},
		`put # . "a" 1`:                      {api.ErrField, 1},
		`put #0 . "a" 1`:                     {api.ErrField, 1},
		`put #65 . "a" 1`:                    {api.ErrField, 1},
		`put #01 . "a" 1`:                    {api.ErrField, 1},
		`put #+1 . "a" 1`:                    {api.ErrField, 1},
		`put #-1 . "a" 1`:                    {api.ErrField, 1},
		`put 1 . "a" 1`:                      {api.ErrField, 1},
		"put " + otherHex + ` . "a" 1`:       {api.ErrField, 1},
		"put " + otherHex + `# . "a" 1`:      {api.ErrField, 1},
		"put " + otherHex + `#0 . "a" 1`:     {api.ErrField, 1},
		"put " + otherHex + `#65 . "a" 1`:    {api.ErrField, 1},
		"put " + otherHex + `7 . "a" 1`:      {api.ErrField, 1},
		"put " + otherHex[1:] + `#1 . "a" 1`: {api.ErrField, 1},
		"put " + otherHex + `0#1 . "a" 1`:    {api.ErrField, 1},
		"put " + upper + `#1 . "a" 1`:        {api.ErrField, 1},
		"put #" + strings.Repeat("1", 70) + ` . 1`: {api.ErrField, 1},
		`put . . a 1`:                     {api.ErrField, 3},
		`put . . "a"b 1`:                  {api.ErrField, 3},
		`put . . "a\n" 1`:                 {api.ErrField, 3},
		`put . . "a 1`:                    {api.ErrField, 3},
		`put . . "` + long + `" 1`:        {api.ErrField, 3},
		`put . . "a" 01`:                  {api.ErrField, 4},
		`put . . "a" "b`:                  {api.ErrField, 4},
		`put . #1 "a" 1`:                  {api.ErrField, 0},
		`put . . "" 1`:                    {api.ErrField, 0},
		`put . . "" 1 1`:                  {api.ErrField, 5},
		`delete . . ""`:                   {api.ErrField, 0},
		`add . . "a" +1`:                  {api.ErrField, 4},
		`add . . "a" -0`:                  {api.ErrField, 4},
		`add . . "a" 9223372036854775808`: {api.ErrField, 4},
		`mark . . . "" 0 1`:               {api.ErrField, 4},
		`mark . . . "b" 4 1`:              {api.ErrField, 5},
		`mark . . . "b" -1 1`:             {api.ErrField, 5},
		`mark . . . "b" 00 1`:             {api.ErrField, 5},
		`mark . . . "b" 3 {}`:             {api.ErrField, 6},
		`grow . . "" 1`:                   {api.ErrField, 3},
		`move . #1 . ""`:                  {api.ErrField, 4},
		`move . . . "m"`:                  {api.ErrField, 0},
		`prune . .`:                       {api.ErrField, 0},
		`grant 0 1`:                       {api.ErrField, 1},
		`grant 4294967296 1`:              {api.ErrField, 1},
		`grant -1 1`:                      {api.ErrField, 1},
		`grant 7 0`:                       {api.ErrField, 2},
		`grant 7 10`:                      {api.ErrField, 2},
		`grant 7`:                         {api.ErrField, 2},
		`grant 7 3 x`:                     {api.ErrField, 3},
		`revoke`:                          {api.ErrField, 1},
		`revoke 7 1`:                      {api.ErrField, 2},
		`revoke 18446744073709551617`:     {api.ErrField, 1},
	} {
		if e, why, at := Parse(s); why != w.why || at != w.at || !same(e, api.Edit{}) {
			t.Errorf("%q: %v, %d at %d", s, e, why, at)
		}
	}
}

// P4.7: each byte of a line turned: what is taken is shown just so.
func TestSpoiltLines(t *testing.T) {
	taken := 0
	for _, c := range rightEdits() {
		for at := range c.line {
			for _, sign := range []byte(" 0179a.#\"\\-+z\xff\n") {
				s := c.line[:at] + string([]byte{sign}) + c.line[at+1:]
				e, why, _ := Parse(s)
				if why != api.OK {
					continue
				}
				taken++
				if Right(e) != api.OK || Show(e) != strings.Join(words.Split(s), " ") {
					t.Errorf("%q is taken as %v", s, e)
				}
			}
		}
	}
	if taken < 100 {
		t.Errorf("only %d were taken", taken)
	}
}

// P4.3, P4.5: a value is taken as value takes it.
func TestValuesInEdits(t *testing.T) {
	for _, s := range []string{"null", "true", "-5", "1.0e21", `"\u0000 \n"`, `x"00"`, "@9007199254740992", "+-1", "{}", "[]", "''", "<>"} {
		v, _ := value.Parse(s)
		e, why, at := Parse("insert . . " + s)
		if why != api.OK || at != 0 || e.Value != v || Show(e) != "insert . . "+s {
			t.Errorf("%s: %v, %d at %d", s, e, why, at)
		}
		if got := Read(wire.NewReader(written(t, e))); !same(got, e) {
			t.Errorf("%s is read as %v", s, got)
		}
		_, why, at = Parse(`mark . . . "b" 0 ` + s)
		if scalar := value.Scalar(v.Kind); scalar != (why == api.OK) || !scalar && at != 6 {
			t.Errorf("a mark of %s: %d at %d", s, why, at)
		}
	}
}
