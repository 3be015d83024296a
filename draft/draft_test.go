package draft

import (
	"math"
	"reflect"
	"slices"
	"strings"
	"testing"

	"estuary/api"
	"estuary/dag"
	"estuary/edit"
	"estuary/history"
	"estuary/render"
	"estuary/replica"
	"estuary/update"
)

func ok(t *testing.T, why api.Errno) {
	t.Helper()
	if why != api.OK {
		t.Fatalf("error %d", why)
	}
}

// begun is a draft over nothing.
func begun(t *testing.T) *Draft {
	t.Helper()
	d, why := New(nil, 1)
	ok(t, why)
	return d
}

// says asks that a draft's edits are these lines.
func says(t *testing.T, d *Draft, lines ...string) {
	t.Helper()
	var l []string
	for _, e := range d.Edits() {
		l = append(l, edit.Show(e))
	}
	if !slices.Equal(l, lines) {
		t.Errorf("edits %q, not %q", l, lines)
	}
}

// shows asks for a draft's document.
func shows(t *testing.T, d *Draft, want string) {
	t.Helper()
	if got := render.Text(d.Nodes()); got != want {
		t.Errorf("%s, not %s", got, want)
	}
}

// The second example: P19.1 to P19.3.
func TestTyped(t *testing.T) {
	d := begun(t)
	ok(t, d.Put(by(byKey("t")), kind(api.String)))
	ok(t, d.Type(by(byKey("t")), 0, 0, "hi"))
	says(t, d, `put . . "t" ''`, `insert #1 . "h"`, `insert #1 #2 "i"`)
	shows(t, d, `{"t":'hi'}`)
	if why := d.Type(by(byKey("t")), 3, 0, "x"); why != api.ErrPlace {
		t.Errorf("behind the end: %d", why)
	}
	ok(t, d.Type(by(byKey("t")), 2, 0, "\n"))
	ok(t, d.Type(by(byKey("t")), 0, 2, "€"))
	says(t, d, `put . . "t" ''`, `insert #1 . "h"`, `insert #1 #2 "i"`, `insert #1 #3 "\n"`, `delete #1 #2 ""`, `delete #1 #3 ""`, `insert #1 . "€"`)
	shows(t, d, `{"t":'€\n'}`)
}

// P19.1: who may write, and over what
func TestNew(t *testing.T) {
	for author, want := range map[int]api.Errno{math.MinInt: api.ErrAuthor, -1: api.ErrAuthor, 0: api.ErrAuthor, 1: api.OK, api.MaxAuthor - 1: api.OK, api.MaxAuthor: api.ErrAuthor, math.MaxInt: api.ErrAuthor} {
		for _, g := range []*dag.Graph{nil, dag.New()} {
			if d, why := New(g, author); why != want || (d == nil) != (why != api.OK) {
				t.Errorf("author %d: %d", author, why)
			}
		}
	}
	d := begun(t)
	if len(d.Edits()) > 0 || render.Text(d.Nodes()) != "{}" {
		t.Error("a new draft over nothing")
	}
}

// P19.1, P19.5: what the graph gets later the draft does not know
func TestLater(t *testing.T) {
	w := newWorld()
	h := w.add(t, 1, nil, put("a", whole(1)))
	d, why := New(w.g, 1)
	ok(t, why)
	w.add(t, 1, list(h), put("a", whole(2)), put("b", whole(2)))
	shows(t, d, `{"a":1}`)
	if why := d.Add(by(byKey("b")), 1); why != api.ErrAbsent {
		t.Errorf("Add: %d", why)
	}
	ok(t, d.Delete(by(byKey("a"))))
	u, why := d.Update(7, "n")
	ok(t, why)
	if !slices.Equal(u.Parents, list(h)) || u.Seq != 2 || u.Author != 1 || u.Time != 7 || u.Note != "n" || len(u.Edits) != 1 {
		t.Errorf("%v", u)
	}
}

// P1: a nil draft
func TestNil(t *testing.T) {
	var d *Draft
	for name, why := range map[string]api.Errno{
		"Put": d.Put(nil, whole(1)), "Delete": d.Delete(nil), "Add": d.Add(nil, 1), "Insert": d.Insert(nil, 0, whole(1)), "Type": d.Type(nil, 0, 0, ""), "Rewrite": d.Rewrite(nil, ""),
		"Mark": d.Mark(nil, 0, 1, "m", whole(1)), "Grow": d.Grow(nil, "k", whole(1)), "Move": d.Move(nil, nil, "k"), "Prune": d.Prune(nil),
	} {
		if why != api.ErrNil {
			t.Errorf("%s: %d", name, why)
		}
	}
	if u, why := d.Update(0, ""); why != api.ErrNil || !reflect.DeepEqual(u, api.Update{}) {
		t.Errorf("Update: %v, %d", u, why)
	}
	if len(d.Edits()) > 0 || len(d.Nodes()) > 0 {
		t.Error("Edits, Nodes")
	}
}

// thing is a graph in which something of each kind lies: a Map m, a List l, a String t, an Outline o, an Outline p with one node, a Counter n and an Int i at the root.
func thing(t *testing.T) (*world, api.Hash) {
	t.Helper()
	w := newWorld()
	own := func(n int) api.Ref { return api.Ref{Kind: api.RefOwn, N: n} }
	h := w.add(t, 2, nil,
		put("m", kind(api.Map)), put("l", kind(api.List)), put("t", kind(api.String)), put("o", kind(api.Outline)), put("n", counter(5)), put("i", whole(1)),
		api.Edit{Act: api.Insert, Obj: own(2), Value: whole(1)}, api.Edit{Act: api.Insert, Obj: own(2), At: own(7), Value: counter(2)}, api.Edit{Act: api.Insert, Obj: own(2), At: own(8), Value: kind(api.Map)},
		api.Edit{Act: api.Insert, Obj: own(3), Value: text("a")}, api.Edit{Act: api.Insert, Obj: own(3), At: own(10), Value: text("b")}, api.Edit{Act: api.Insert, Obj: own(3), At: own(11), Value: text("c")},
		api.Edit{Act: api.Grow, Obj: own(4), Key: "j", Value: counter(3)}, api.Edit{Act: api.Grow, Obj: own(4), At: own(13), Key: "k", Value: whole(4)}, api.Edit{Act: api.Grow, Obj: own(4), Key: "l", Value: whole(5)},
		put("p", kind(api.Outline)), api.Edit{Act: api.Grow, Obj: own(16), Key: "k", Value: whole(6)},
		api.Edit{Act: api.Delete, Obj: own(3), At: own(11)}, // the b is hidden
	)
	return w, h
}

const thingText = `{"i":1,"l":[1,+2,{}],"m":{},"n":+5,"o":<"j":+3<"k":4>,"l":5>,"p":<"k":6>,"t":'ac'}`

// of is a line in which %n stands for the edit n of an update.
func of(h api.Hash, line string) string {
	words := strings.Fields(line)
	for i, w := range words {
		if n, is := strings.CutPrefix(w, "%"); is {
			words[i] = strings.Fields(edit.Show(api.Edit{Act: api.Prune, At: api.Ref{Kind: api.RefOp, Hash: h, N: 1}}))[2]
			words[i] = strings.TrimSuffix(words[i], "1") + n
		}
	}
	return strings.Join(words, " ")
}

// P19.2 to P19.4: what each call says, and what is shown then
func TestSaid(t *testing.T) {
	for i, x := range []struct {
		call  func(d *Draft) api.Errno
		text  string
		lines []string
	}{
		{func(d *Draft) api.Errno { return d.Put(by(byKey("i")), kind(api.List)) }, strings.Replace(thingText, `"i":1`, `"i":[]`, 1), []string{`put . . "i" []`}},
		{func(d *Draft) api.Errno { return d.Put(by(byKey("m"), byKey("x")), whole(2)) }, strings.Replace(thingText, `"m":{}`, `"m":{"x":2}`, 1), []string{`put %1 . "x" 2`}},
		{func(d *Draft) api.Errno { return d.Put(by(byKey("l"), byIndex(2), byKey("x")), whole(2)) }, strings.Replace(thingText, `+2,{}`, `+2,{"x":2}`, 1), []string{`put %9 . "x" 2`}},
		{func(d *Draft) api.Errno { return d.Put(by(byKey("l"), byIndex(0)), whole(2)) }, strings.Replace(thingText, `[1,`, `[2,`, 1), []string{`put %2 %7 "" 2`}},
		{func(d *Draft) api.Errno { return d.Put(by(byKey("t"), byIndex(1)), text("é")) }, strings.Replace(thingText, `'ac'`, `'aé'`, 1), []string{`put %3 %12 "" "é"`}},
		{func(d *Draft) api.Errno { return d.Put(by(byKey("o"), byChild(0), byChild(0)), text("é")) }, strings.Replace(thingText, `"k":4`, `"k":"é"`, 1), []string{`put %4 %14 "" "é"`}},
		{func(d *Draft) api.Errno { return d.Delete(by(byKey("m"))) }, strings.Replace(thingText, `"m":{},`, ``, 1), []string{`delete . . "m"`}},
		{func(d *Draft) api.Errno { return d.Delete(by(byKey("l"), byIndex(1))) }, strings.Replace(thingText, `+2,`, ``, 1), []string{`delete %2 %8 ""`}},
		{func(d *Draft) api.Errno { return d.Delete(by(byKey("t"), byIndex(1))) }, strings.Replace(thingText, `'ac'`, `'a'`, 1), []string{`delete %3 %12 ""`}},
		{func(d *Draft) api.Errno { return d.Add(by(byKey("n")), -7) }, strings.Replace(thingText, `+5`, `+-2`, 1), []string{`add . . "n" -7`}},
		{func(d *Draft) api.Errno { return d.Add(by(byKey("n")), 0) }, thingText, []string{`add . . "n" 0`}},
		{func(d *Draft) api.Errno { return d.Add(by(byKey("l"), byIndex(1)), 1) }, strings.Replace(thingText, `+2`, `+3`, 1), []string{`add %2 %8 "" 1`}},
		{func(d *Draft) api.Errno { return d.Add(by(byKey("o"), byChild(0)), 1) }, strings.Replace(thingText, `+3`, `+4`, 1), []string{`add %4 %13 "" 1`}},
		{func(d *Draft) api.Errno { return d.Insert(by(byKey("l")), 0, kind(api.Map)) }, strings.Replace(thingText, `[1,`, `[{},1,`, 1), []string{`insert %2 . {}`}},
		{func(d *Draft) api.Errno { return d.Insert(by(byKey("l")), 3, whole(9)) }, strings.Replace(thingText, `{}]`, `{},9]`, 1), []string{`insert %2 %9 9`}},
		{func(d *Draft) api.Errno { return d.Insert(by(byKey("t")), 1, text("x")) }, strings.Replace(thingText, `'ac'`, `'axc'`, 1), []string{`insert %3 %10 "x"`}},
		{func(d *Draft) api.Errno { return d.Type(by(byKey("t")), 1, 0, "xy") }, strings.Replace(thingText, `'ac'`, `'axyc'`, 1), []string{`insert %3 %10 "x"`, `insert %3 #1 "y"`}},
		{func(d *Draft) api.Errno { return d.Type(by(byKey("t")), 1, 1, "xy") }, strings.Replace(thingText, `'ac'`, `'axy'`, 1), []string{`delete %3 %12 ""`, `insert %3 %10 "x"`, `insert %3 #2 "y"`}},
		{func(d *Draft) api.Errno { return d.Type(by(byKey("t")), 0, 2, "") }, strings.Replace(thingText, `'ac'`, `''`, 1), []string{`delete %3 %10 ""`, `delete %3 %12 ""`}},
		{func(d *Draft) api.Errno { return d.Type(by(byKey("t")), 2, 0, "") }, thingText, nil},
		{func(d *Draft) api.Errno { return d.Rewrite(by(byKey("t")), "ac") }, thingText, nil},
		{func(d *Draft) api.Errno { return d.Rewrite(by(byKey("t")), "xay") }, strings.Replace(thingText, `'ac'`, `'xay'`, 1), []string{`insert %3 . "x"`, `delete %3 %12 ""`, `insert %3 %10 "y"`}},
		{func(d *Draft) api.Errno { return d.Mark(by(byKey("t")), 0, 2, "bold", truth()) }, thingText, []string{`mark %3 %10 %12 "bold" 2 true`}},
		{func(d *Draft) api.Errno { return d.Mark(by(byKey("t")), 1, 2, "bold", api.Value{}) }, thingText, []string{`mark %3 %12 %12 "bold" 2 null`}},
		{func(d *Draft) api.Errno { return d.Mark(by(byKey("l")), 0, 2, "x", truth()) }, thingText, []string{`mark %2 %7 %8 "x" 2 true`}},
		{func(d *Draft) api.Errno { return d.Grow(by(byKey("o")), "i", whole(7)) }, strings.Replace(thingText, `<"j"`, `<"i":7,"j"`, 1), []string{`grow %4 . "i" 7`}},
		{func(d *Draft) api.Errno { return d.Grow(by(byKey("o"), byChild(1)), "i", text("")) }, strings.Replace(thingText, `"l":5`, `"l":5<"i":"">`, 1), []string{`grow %4 %15 "i" ""`}},
		{func(d *Draft) api.Errno { return d.Grow(by(byKey("o"), byChild(0), byChild(0)), "i", whole(7)) }, strings.Replace(thingText, `"k":4`, `"k":4<"i":7>`, 1), []string{`grow %4 %14 "i" 7`}},
		{func(d *Draft) api.Errno {
			return d.Move(by(byKey("o"), byChild(1)), by(byKey("o"), byChild(0), byChild(0)), "z")
		}, strings.Replace(thingText, `"k":4>,"l":5`, `"k":4<"z":5>>`, 1), []string{`move %4 %15 %14 "z"`}},
		{func(d *Draft) api.Errno { return d.Move(by(byKey("o"), byChild(0), byChild(0)), by(byKey("o")), "z") }, strings.Replace(thingText, `+3<"k":4>,"l":5`, `+3,"l":5,"z":4`, 1), []string{`move %4 %14 . "z"`}},
		{func(d *Draft) api.Errno { return d.Move(by(byKey("o"), byChild(0)), by(byKey("o")), "j") }, thingText, []string{`move %4 %13 . "j"`}},
		{func(d *Draft) api.Errno { return d.Prune(by(byKey("o"), byChild(0))) }, strings.Replace(thingText, `"j":+3<"k":4>,`, ``, 1), []string{`prune %4 %13`}},
		{func(d *Draft) api.Errno { return d.Prune(by(byKey("o"), byChild(0), byChild(0))) }, strings.Replace(thingText, `<"k":4>`, ``, 1), []string{`prune %4 %14`}},
	} {
		w, h := thing(t)
		d, why := New(w.g, 1)
		ok(t, why)
		shows(t, d, thingText)
		if why := x.call(d); why != api.OK {
			t.Errorf("call %d: %d", i, why)
			continue
		}
		shows(t, d, x.text)
		var lines []string
		for _, s := range x.lines {
			lines = append(lines, of(h, s))
		}
		says(t, d, lines...)
	}
}

func truth() api.Value { return api.Value{Kind: api.Bool, N: 1} }

// P19.3: a mark goes from ahead of its first element to behind its last one: what comes in at its ends is not marked
func TestMarked(t *testing.T) {
	w, _ := thing(t)
	d, why := New(w.g, 1)
	ok(t, why)
	ok(t, d.Mark(by(byKey("t")), 0, 2, "bold", truth()))
	ok(t, d.Type(by(byKey("t")), 1, 0, "x"))
	at, why := render.Find(d.Nodes(), by(byKey("t")))
	ok(t, why)
	if n := d.Nodes()[at]; n.Text != "axc" || !slices.Equal(n.Spans, []api.Span{{From: 0, To: 3, Name: "bold", Value: truth()}}) {
		t.Errorf("%v", n)
	}
	ok(t, d.Mark(by(byKey("t")), 1, 2, "bold", api.Value{}))
	if n := d.Nodes()[at]; !slices.Equal(n.Spans, []api.Span{{From: 0, To: 1, Name: "bold", Value: truth()}, {From: 2, To: 3, Name: "bold", Value: truth()}}) {
		t.Errorf("%v", n)
	}
}

// bad is what is wrong with a call.
type bad struct {
	call func(d *Draft) api.Errno
	why  api.Errno
}

// badPlaces are Puts, Deletes and Adds that are refused.
func badPlaces() []bad {
	one, junk, long := whole(1), api.Value{Kind: 99}, slices.Repeat(by(byKey("m")), api.MaxSteps+1)
	put := func(v api.Value, why api.Errno, steps ...api.Step) bad {
		return bad{func(d *Draft) api.Errno { return d.Put(steps, v) }, why}
	}
	del := func(why api.Errno, steps ...api.Step) bad {
		return bad{func(d *Draft) api.Errno { return d.Delete(steps) }, why}
	}
	add := func(why api.Errno, steps ...api.Step) bad {
		return bad{func(d *Draft) api.Errno { return d.Add(steps, 1) }, why}
	}
	return []bad{
		put(junk, api.ErrLong, long...), put(junk, api.ErrField, byKey("zz"), byKey("")), put(junk, api.ErrField, byKey("zz"), api.Step{Kind: api.ByKey, Key: "a", N: 1}), put(junk, api.ErrField, byIndex(-1), byKey("a")), put(junk, api.ErrField, api.Step{Kind: 9}), put(junk, api.ErrField, byKey("l"), byIndex(-1)),
		put(junk, api.ErrAbsent, byKey("zz"), byKey("a")), put(junk, api.ErrSort, byKey("i"), byKey("a"), byKey("a")), put(junk, api.ErrSort, byKey("t"), byIndex(0), byKey("a")), put(junk, api.ErrSort, byKey("t"), byIndex(9), byKey("a")),
		put(junk, api.ErrSort, byKey("l"), byKey("a")), put(junk, api.ErrSort, byKey("i"), byKey("a")), put(junk, api.ErrSort, byKey("o"), byChild(0), byKey("a")), put(junk, api.ErrSort, byKey("o"), byKey("a")), put(junk, api.ErrSort, byKey("t"), byKey("a")),
		put(junk, api.ErrSort), put(junk, api.ErrAbsent, byKey("l"), byIndex(3)), put(junk, api.ErrAbsent, byKey("t"), byIndex(2)), put(junk, api.ErrAbsent, byKey("o"), byChild(2)), put(junk, api.ErrSort, byKey("m"), byIndex(0)), put(junk, api.ErrSort, byKey("l"), byChild(0)),
		put(junk, api.ErrValue, byKey("zz")), put(api.Value{Kind: api.Map, N: 1}, api.ErrValue, byKey("m"), byKey("zz")), put(api.Value{Kind: api.Float, F: math.NaN()}, api.ErrValue, byKey("l"), byIndex(0)),
		put(one, api.ErrValue, byKey("t"), byIndex(0)), put(text("ab"), api.ErrValue, byKey("t"), byIndex(0)), put(text(""), api.ErrValue, byKey("t"), byIndex(0)), put(kind(api.Map), api.ErrValue, byKey("o"), byChild(0)), put(junk, api.ErrValue, byKey("o"), byChild(0)),
		del(api.ErrLong, long...), del(api.ErrField, byKey("")), del(api.ErrSort), del(api.ErrAbsent, byKey("zz")), del(api.ErrAbsent, byKey("t"), byIndex(2)), del(api.ErrSort, byKey("t"), byKey("a")), del(api.ErrSort, byKey("o"), byChild(0)), del(api.ErrSort, byKey("o"), byChild(0), byChild(0)), del(api.ErrAbsent, byKey("o"), byChild(0), byChild(1)),
		add(api.ErrLong, long...), add(api.ErrField, byKey("")), add(api.ErrSort), add(api.ErrAbsent, byKey("zz")), add(api.ErrSort, byKey("i")), add(api.ErrSort, byKey("l")), add(api.ErrSort, byKey("l"), byIndex(0)), add(api.ErrSort, byKey("o"), byChild(1)), add(api.ErrSort, byKey("t"), byIndex(0)),
	}
}

// badRows are calls of sequences that are refused.
func badRows() []bad {
	var l []bad
	into := func(f func(d *Draft, steps []api.Step) api.Errno, list, characters api.Errno) {
		for _, x := range []struct {
			steps []api.Step
			why   api.Errno
		}{
			{slices.Repeat(by(byKey("m")), api.MaxSteps+1), api.ErrLong}, {by(byKey("t"), byIndex(-1)), api.ErrField}, {by(byKey("zz")), api.ErrAbsent}, {by(byKey("t"), byIndex(0)), api.ErrSort}, {by(byKey("t"), byIndex(7)), api.ErrSort}, {by(byKey("t"), byKey("a")), api.ErrSort},
			{nil, api.ErrSort}, {by(byKey("m")), api.ErrSort}, {by(byKey("i")), api.ErrSort}, {by(byKey("o")), api.ErrSort}, {by(byKey("o"), byChild(0)), api.ErrSort}, {by(byKey("l"), byIndex(3)), api.ErrAbsent}, {by(byKey("l"), byIndex(2)), api.ErrSort},
			{by(byKey("l")), list}, {by(byKey("t")), characters},
		} {
			l = append(l, bad{func(d *Draft) api.Errno { return f(d, x.steps) }, x.why})
		}
	}
	insert := func(at int, v api.Value, list, characters api.Errno) {
		into(func(d *Draft, steps []api.Step) api.Errno { return d.Insert(steps, at, v) }, list, characters)
	}
	typed := func(at, count int, s string, characters api.Errno) {
		into(func(d *Draft, steps []api.Step) api.Errno { return d.Type(steps, at, count, s) }, api.ErrSort, characters)
	}
	mark := func(from, to int, name string, v api.Value, why api.Errno) {
		into(func(d *Draft, steps []api.Step) api.Errno { return d.Mark(steps, from, to, name, v) }, why, why)
	}
	junk := api.Value{Kind: 99}
	insert(-1, junk, api.ErrPlace, api.ErrPlace)
	insert(4, junk, api.ErrPlace, api.ErrPlace)
	insert(3, junk, api.ErrValue, api.ErrPlace)
	insert(math.MaxInt, whole(1), api.ErrPlace, api.ErrPlace)
	insert(0, junk, api.ErrValue, api.ErrValue)
	typed(-1, 0, "\xff", api.ErrPlace)
	typed(0, -1, "\xff", api.ErrPlace)
	typed(3, 0, "\xff", api.ErrPlace)
	typed(1, 2, "", api.ErrPlace)
	typed(3, -1, "", api.ErrPlace)
	typed(math.MaxInt, math.MaxInt, "", api.ErrPlace)
	typed(1, math.MaxInt, "", api.ErrPlace)
	typed(math.MinInt, math.MinInt, "", api.ErrPlace)
	typed(1, 1, "\xff", api.ErrValue)
	typed(2, 0, "a\xe2\x82", api.ErrValue)
	into(func(d *Draft, steps []api.Step) api.Errno { return d.Rewrite(steps, "\xff") }, api.ErrSort, api.ErrValue)
	mark(-1, 1, "", junk, api.ErrPlace)
	mark(1, 1, "", junk, api.ErrPlace)
	mark(2, 1, "", junk, api.ErrPlace)
	mark(0, 4, "", junk, api.ErrPlace)
	mark(math.MinInt, math.MaxInt, "", junk, api.ErrPlace)
	mark(0, 1, "", junk, api.ErrField)
	mark(0, 2, "a\n", junk, api.ErrField)
	mark(0, 2, strings.Repeat("k", api.MaxKey+1), junk, api.ErrField)
	mark(0, 2, "k", junk, api.ErrValue)
	mark(0, 2, "k", kind(api.List), api.ErrValue)
	return l
}

// badNodes are calls of outlines that are refused.
func badNodes() []bad {
	junk, long := api.Value{Kind: 99}, slices.Repeat(by(byKey("m")), api.MaxSteps+1)
	var l []bad
	grow := func(key string, v api.Value, why api.Errno, steps ...api.Step) {
		l = append(l, bad{func(d *Draft) api.Errno { return d.Grow(steps, key, v) }, why})
	}
	move := func(steps, to []api.Step, key string, why api.Errno) {
		l = append(l, bad{func(d *Draft) api.Errno { return d.Move(steps, to, key) }, why})
	}
	prune := func(why api.Errno, steps ...api.Step) {
		l = append(l, bad{func(d *Draft) api.Errno { return d.Prune(steps) }, why})
	}
	j, k, x := by(byKey("o"), byChild(0)), by(byKey("o"), byChild(0), byChild(0)), by(byKey("o"), byChild(1))
	grow("", junk, api.ErrLong, long...)
	grow("", junk, api.ErrField, byKey("o"), byChild(-1))
	grow("", junk, api.ErrAbsent, byKey("zz"))
	grow("", junk, api.ErrSort)
	grow("", junk, api.ErrSort, byKey("i"))
	grow("", junk, api.ErrSort, byKey("l"))
	grow("", junk, api.ErrSort, byKey("t"), byIndex(0))
	grow("", junk, api.ErrSort, byKey("t"), byIndex(5))
	grow("", junk, api.ErrField, byKey("o"))
	grow("\x7f", junk, api.ErrField, j...)
	grow("k", junk, api.ErrValue, byKey("o"))
	grow("k", kind(api.Map), api.ErrValue, j...)
	grow("k", kind(api.Outline), api.ErrValue, byKey("o"))
	move(long, long, "", api.ErrLong)
	move(by(byKey("zz")), long, "", api.ErrAbsent)
	move(by(byKey("t"), byIndex(0)), long, "", api.ErrSort)
	move(by(byKey("i")), long, "", api.ErrLong)
	move(by(byKey("i")), by(byKey("zz")), "", api.ErrAbsent)
	move(j, by(byKey("o"), byChild(2)), "", api.ErrAbsent)
	move(j, by(byKey("t"), byIndex(0)), "", api.ErrSort)
	move(by(byKey("o")), by(byKey("o")), "", api.ErrSort)
	move(nil, nil, "", api.ErrSort)
	move(by(byKey("i")), j, "", api.ErrSort)
	move(j, nil, "", api.ErrSort)
	move(j, by(byKey("i")), "", api.ErrSort)
	move(j, by(byKey("p")), "", api.ErrSort)
	move(j, by(byKey("p"), byChild(0)), "", api.ErrSort)
	move(j, j, "", api.ErrRing)
	move(j, k, "", api.ErrRing)
	move(k, j, "", api.ErrField)
	move(x, j, strings.Repeat("k", api.MaxKey+1), api.ErrField)
	move(x, by(byKey("o")), "\n", api.ErrField)
	prune(api.ErrLong, long...)
	prune(api.ErrField, byKey(""))
	prune(api.ErrAbsent, byKey("o"), byChild(2))
	prune(api.ErrSort)
	prune(api.ErrSort, byKey("o"))
	prune(api.ErrSort, byKey("i"))
	prune(api.ErrSort, byKey("l"), byIndex(0))
	prune(api.ErrSort, byKey("t"), byIndex(0))
	return l
}

// P19.2 to P19.4, P2: the first error that applies; a call that has one makes no edit
func TestRefused(t *testing.T) {
	w, _ := thing(t)
	d, why := New(w.g, 1)
	ok(t, why)
	check := func(edits int) {
		t.Helper()
		for name, l := range map[string][]bad{"places": badPlaces(), "rows": badRows(), "nodes": badNodes()} {
			for i, x := range l {
				before := render.Full(d.Nodes())
				if why := x.call(d); why != x.why {
					t.Errorf("%s, number %d: %d, not %d", name, i, why, x.why)
				}
				if len(d.Edits()) != edits || render.Full(d.Nodes()) != before {
					t.Errorf("%s, number %d changed something", name, i)
				}
			}
		}
	}
	check(0)
	// All errors are told ahead of there being no room.
	for range api.MaxEdits {
		ok(t, d.Put(by(byKey("full")), whole(1)))
	}
	check(api.MaxEdits)
}

// P19.2, P19.3: MaxNest objects in one another, and no more; ways of MaxSteps steps, and no longer ones
func TestNested(t *testing.T) {
	d := begun(t)
	steps := by(byKey("a"))
	ok(t, d.Put(steps, kind(api.List)))
	for n := 1; n < api.MaxNest; n++ {
		ok(t, d.Insert(steps, 0, kind(api.List)))
		steps = append(steps, byIndex(0))
	}
	for k := api.Map; k <= api.Outline; k++ {
		if why := d.Insert(steps, 0, kind(k)); why != api.ErrValue {
			t.Errorf("the kind %d, too deep: %d", k, why)
		}
	}
	ok(t, d.Insert(steps, 0, whole(1)))
	if why := d.Put(append(steps, byIndex(0)), kind(api.Map)); why != api.ErrLong {
		t.Errorf("a way too long: %d", why)
	}
	d = begun(t)
	steps = nil
	for range api.MaxNest {
		steps = append(steps, byKey("a"))
		ok(t, d.Put(steps, kind(api.Map)))
	}
	if why := d.Put(append(steps, byKey("a")), whole(1)); why != api.ErrLong {
		t.Errorf("a way too long: %d", why)
	}
}

// P19.2 to P19.4: ErrFull at the end; half of a call's edits are never made
func TestFull(t *testing.T) {
	w, _ := thing(t)
	for room, calls := range map[int][]func(d *Draft) api.Errno{
		0: {
			func(d *Draft) api.Errno { return d.Put(by(byKey("i")), whole(1)) }, func(d *Draft) api.Errno { return d.Delete(by(byKey("i"))) }, func(d *Draft) api.Errno { return d.Add(by(byKey("n")), 1) },
			func(d *Draft) api.Errno { return d.Insert(by(byKey("l")), 0, whole(1)) }, func(d *Draft) api.Errno { return d.Mark(by(byKey("l")), 0, 1, "m", whole(1)) }, func(d *Draft) api.Errno { return d.Grow(by(byKey("o")), "k", whole(1)) },
			func(d *Draft) api.Errno { return d.Move(by(byKey("o"), byChild(0)), by(byKey("o")), "k") }, func(d *Draft) api.Errno { return d.Prune(by(byKey("o"), byChild(0))) }, func(d *Draft) api.Errno { return d.Type(by(byKey("t")), 0, 1, "") }, func(d *Draft) api.Errno { return d.Type(by(byKey("t")), 0, 0, "x") },
		},
		2:  {func(d *Draft) api.Errno { return d.Type(by(byKey("t")), 0, 2, "x") }, func(d *Draft) api.Errno { return d.Rewrite(by(byKey("t")), "xay") }},
		20: {func(d *Draft) api.Errno { return d.Type(by(byKey("t")), 1, 1, strings.Repeat("é", 20)) }, func(d *Draft) api.Errno { return d.Rewrite(by(byKey("t")), strings.Repeat("é", 5000)) }},
	} {
		for i, call := range calls {
			d, why := New(w.g, 1)
			ok(t, why)
			for range api.MaxEdits - room {
				ok(t, d.Put(by(byKey("i")), whole(1)))
			}
			before := render.Full(d.Nodes())
			if why := call(d); why != api.ErrFull || len(d.Edits()) != api.MaxEdits-room || render.Full(d.Nodes()) != before {
				t.Errorf("room %d, call %d: %d", room, i, why)
			}
			// There is room for just as many as there was.
			ok(t, d.Type(by(byKey("t")), 0, 0, strings.Repeat("x", room)))
			if len(d.Edits()) != api.MaxEdits {
				t.Errorf("%d edits", len(d.Edits()))
			}
			// A call without edits has room always.
			ok(t, d.Type(by(byKey("t")), 0, 0, ""))
			ok(t, d.Rewrite(by(byKey("t")), strings.Repeat("x", room)+"ac"))
		}
	}
}

// P19.3: just as many edits as there is room for
func TestJustFull(t *testing.T) {
	d := begun(t)
	ok(t, d.Put(by(byKey("t")), kind(api.String)))
	ok(t, d.Type(by(byKey("t")), 0, 0, strings.Repeat("€", api.MaxEdits-1)))
	if e := d.Edits(); len(e) != api.MaxEdits || e[api.MaxEdits-1].At != (api.Ref{Kind: api.RefOwn, N: api.MaxEdits - 1}) {
		t.Errorf("%d edits", len(e))
	}
	u, why := d.Update(0, "")
	ok(t, why)
	ok(t, update.Right(u))
}

// P19.5: Update's errors are those of update.Right
func TestUpdateRefused(t *testing.T) {
	d := begun(t)
	for _, x := range []struct {
		time int64
		note string
		why  api.Errno
	}{{-1, "\n", api.ErrTime}, {api.MaxTime + 1, "", api.ErrTime}, {math.MinInt64, "", api.ErrTime}, {0, "\n", api.ErrNote}, {0, strings.Repeat("n", api.MaxNote+1), api.ErrNote}, {api.MaxTime, strings.Repeat("n", api.MaxNote), api.OK}} {
		if u, why := d.Update(x.time, x.note); why != x.why || why != api.OK && !reflect.DeepEqual(u, api.Update{}) {
			t.Errorf("Update(%d, %.5q) = %v, %d", x.time, x.note, u, why)
		}
	}
	for range api.MaxEdits {
		ok(t, d.Put(by(byKey(strings.Repeat("k", api.MaxKey))), api.Value{Kind: api.Bytes, S: strings.Repeat("x", api.MaxText)}))
	}
	if u, why := d.Update(0, ""); why != api.ErrSize || !reflect.DeepEqual(u, api.Update{}) {
		t.Errorf("too many bytes: %d", why)
	}
}

// P19.5: the same update as a replica's Commit, over few heads and over many
func TestUpdateAsCommitted(t *testing.T) {
	for heads := range 2*api.MaxParents + 1 {
		r, why := replica.New(api.Options{Every: 4, Keep: 2})
		ok(t, why)
		w := newWorld()
		for n := range heads {
			h := w.add(t, 2+n, nil, put("a", whole(n)))
			if n%3 == 0 {
				w.add(t, 1, list(h), put("b", whole(n)))
			}
		}
		for _, h := range w.g.Order() {
			u, _ := w.g.Update(h)
			b, _ := update.Encode(u)
			r.Receive(b)
		}
		for author := 1; author < heads+3; author++ {
			d, why := New(w.g, author)
			ok(t, why)
			ok(t, d.Put(by(byKey("c")), whole(author)))
			u, why := d.Update(5, "note")
			ok(t, why)
			id, why := update.Id(u)
			ok(t, why)
			if x := r.Fork().Commit(author, 5, "note", d.Edits()); x.Why != api.OK || x.Id != id {
				t.Errorf("%d heads, author %d: another update", heads, author)
			}
		}
	}
}

// P3: nothing is kept that is handed in, and what is answered is memory of its own
func TestMemory(t *testing.T) {
	w, _ := thing(t)
	d, why := New(w.g, 1)
	ok(t, why)
	steps := append(make([]api.Step, 0, 8), byKey("t"))
	ok(t, d.Type(steps, 0, 1, "xy"))
	if !slices.Equal(steps[:2], by(byKey("t"), api.Step{})) {
		t.Error("the way, or its spare room, was changed")
	}
	ok(t, d.Mark(steps, 0, 1, "m", truth()))
	steps[0] = byKey("zz")
	edits, nodes := d.Edits(), render.Full(d.Nodes())
	u, why := d.Update(0, "")
	ok(t, why)
	want := update.Copy(u)
	for range 2 {
		l, n := d.Edits(), d.Nodes()
		v, _ := d.Update(0, "")
		clear(l[:cap(l)])
		clear(v.Edits[:cap(v.Edits)])
		clear(v.Parents[:cap(v.Parents)])
		for i := range n {
			clear(n[i].Spans[:cap(n[i].Spans)])
		}
		clear(n[:cap(n)])
		if v, _ := d.Update(0, ""); !update.Same(v, want) || !slices.Equal(d.Edits(), edits) || render.Full(d.Nodes()) != nodes {
			t.Fatal("an answer is memory of the draft's")
		}
	}
	l := d.Edits()
	ok(t, d.Type(by(byKey("t")), 0, 0, "z"))
	if !slices.Equal(l, edits) || l[:cap(l)][len(l):] != nil && slices.ContainsFunc(l[:cap(l)][len(l):], func(e api.Edit) bool { return e != api.Edit{} }) {
		t.Error("an older answer got what came later")
	}
	if len(w.g.Order()) != 1 {
		t.Error("the graph was changed")
	}
	before, _ := history.At(w.g, w.g.Heads())
	if render.Text(render.Nodes(before)) != thingText {
		t.Error("the graph's document was changed")
	}
}
