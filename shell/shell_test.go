package shell

import (
	"fmt"
	"regexp"
	"strings"
	"testing"

	"estuary/api"
	"estuary/digest"
	"estuary/update"
	"estuary/value"
)

// talks asks for the answers of a script: pairs of a line and its answer, in which * stands for twelve digits, ? for eight, and ; for a line's end.
func talks(t *testing.T, l ...string) {
	t.Helper()
	s := &session{deeds: deeds(), stations: map[string]*station{}}
	var script, answers strings.Builder
	for i := 0; i < len(l); i += 2 {
		got := s.do(l[i])
		script.WriteString(l[i] + "\n")
		answers.WriteString(got)
		form := strings.ReplaceAll(regexp.QuoteMeta(l[i+1]), `\*`, "[0-9a-f]{12}")
		form = strings.ReplaceAll(form, `\?`, "[0-9a-f]{8}")
		if form != "" {
			form = strings.ReplaceAll(form, ";", "\n") + "\n"
		}
		if !regexp.MustCompile("^" + form + "$").MatchString(got) {
			t.Errorf("%s: %q, not %q", l[i], got, l[i+1])
		}
	}
	if got := Run(script.String()); got != answers.String() {
		t.Errorf("Run: %q, not %q", got, answers.String())
	}
}

// hexOf is an update's bytes as a word, and the first twelve digits of its id.
func hexOf(t *testing.T, u api.Update) (string, string, api.Hash) {
	t.Helper()
	b, why := update.Encode(u)
	if why != api.OK {
		t.Fatalf("Encode: %d", why)
	}
	h := digest.Sum(b)
	return value.Print(api.Value{Kind: api.Bytes, S: string(b)}), digest.Short(h, 12), h
}

func put(key string, n int) []api.Edit {
	return []api.Edit{{Act: api.Put, Key: key, Value: api.Value{Kind: api.Int, N: int64(n)}}}
}

// The chapter's examples: P28.1
func TestExamples(t *testing.T) {
	talks(t,
		"new a 2 2 4", "ok",
		`edit a 1 put . . "k" 1`, "ok * 1 1",
		"text a", `{"k":1}`,
		"put a 1 /t ''", "ok * 1 1",
		`type a 1 /t 0 0 "hi"`, "ok * 1 1",
		"text a", `{"k":1,"t":'hi'}`,
		"undo a 1", "ok * 1 1",
		"text a", `{"k":1,"t":''}`,
		"redo a 1", "ok * 1 1",
		"text a", `{"k":1,"t":'hi'}`,
		"new b 1 0 4", "ok",
		"talk a b", "talked 4",
		"text b", `{"k":1,"t":'hi'}`,
		"diff a b", "none",
		"text c", "errno 270",
		"hello", "errno 280",
	)
}

// DOC.md's examples of the whole, by scripts
func TestWholeExamples(t *testing.T) {
	talks(t,
		"new a 2 2 4", "ok", "text a", "{}", "heads a", "none", "missing a", "none", "all a", "none",
		`take a x""`, "errno 20",
		`put a 1 /n +5`, "ok * 1 1",
		"put a 1 /t ''", "ok * 1 1",
		"put a 1 /o <>", "ok * 1 1",
		`grow a 1 /o "p" "x"`, "ok * 1 1",
		`grow a 1 /o "q" "y"`, "ok * 1 1",
		"fork a b", "ok",
		"add a 1 /n 2", "ok * 1 1", "add b 2 /n 3", "ok * 1 1",
		`type a 1 /t 0 0 "ab"`, "ok * 1 1", `type b 2 /t 0 0 "cd"`, "ok * 1 1",
		`move a 1 /o~0 /o~1 "m"`, "ok * 1 1", `move b 2 /o~1 /o~0 "m"`, "ok * 1 1",
		"talk a b", "talked 5",
		"read a /n", "+10",
		"diff a b", "none",
	)
}

// P28.1: what is no line's, and what ends one
func TestScripts(t *testing.T) {
	for script, want := range map[string]string{
		"":                                 "",
		"\n":                               "",
		"\n\n \n   \n":                     "",
		"#":                                "",
		"# new a 1 1 1\n  #x text a\n":     "",
		"new a 1 1 1":                      "ok\n",
		"new a 1 1 1\n":                    "ok\n",
		"\n\nnew a 1 1 1\n\n#\ntext a\n\n": "ok\n{}\n",
		"  new   a 1  1 1  \ntext a":       "ok\n{}\n",
		"new a 1 1 1\r\ntext a\n":          "errno 280\nerrno 270\n",
		"new a 1 1 1\x00\n":                "errno 280\n",
		"new a 1 1 1 #":                    "errno 280\n",
		"\"#\"":                            "errno 280\n",
		"\t#":                              "errno 280\n",
		"\xff":                             "errno 280\n",
	} {
		if got := Run(script); got != want {
			t.Errorf("%q: %q, not %q", script, got, want)
		}
	}
	if got := Run("new a 1 1 1\nput a 1 /\"b c\" \"d  e\"\ntext a"); !strings.HasSuffix(got, "\n{\"b c\":\"d  e\"}\n") {
		t.Errorf("blanks in quotes: %q", got)
	}
	line := "new a 1 1 1\n"
	for n, want := range map[int]string{
		api.MaxScript:     "ok\n",
		api.MaxScript + 1: "errno 6\n",
		api.MaxScript * 3: "errno 6\n",
	} {
		if got := Run(line + strings.Repeat(" ", n-len(line))); got != want {
			t.Errorf("%d bytes: %q, not %q", n, got, want)
		}
	}
}

// P28.1: nothing is kept from call to call
func TestNothingIsKept(t *testing.T) {
	if got := Run("new a 1 1 1\n"); got != "ok\n" {
		t.Errorf("%q", got)
	}
	if got := Run("text a\n"); got != "errno 270\n" {
		t.Errorf("%q", got)
	}
}

// forms are right words of each form, and wrong ones.
func forms(form string) (right, bad []string) {
	switch form {
	case "R", "Q", "N":
		return []string{"a", "b"}, []string{"A", "a1", "abcdefghi", `"a"`, "ä", "a-b", "`", "{", "1"}
	case "number":
		return []string{"0", "1", "-1", "9223372036854775807", "-9223372036854775808"}, []string{"+1", "01", "00", "-01", "-0", "-", "1.0", "9223372036854775808", "-9223372036854775809", "a", "0x1", `"1"`, "1_0"}
	case "way":
		return []string{"/", "/a", "[0]", `/"b c"[3]~0`}, []string{"a", "/a/", `/"a"`, "/a[01]", "/a[-1]", "//", `/"a`}
	case "text":
		return []string{`""`, `"a"`, `"b c"`, `"\n"`}, []string{"a", `"a`, `"a"b`, "''", `"\u000a"`, `"a""b"`, "null", `"\`}
	case "value":
		return []string{"null", "1", "{}", `"b c"`, `x"00"`}, []string{"nul", "01", `"a`, "'a'", "{", `x"0"`, `x"A0"`, "1.50", "+", "@-1"}
	case "hex":
		return []string{`x""`, `x"00ff"`}, []string{"1", `""`, `"00"`, "{}", `x"0"`, "00", `x"0G"`, `x"00"1`}
	case "D":
		return []string{"0", "abcdef0123456789", strings.Repeat("0", 64)}, []string{"g", "A", "0x", strings.Repeat("0", 65), `"0"`, "-1"}
	}
	return nil, nil
}

// P28.1: each word of each line is looked at, ahead of whether its replicas are there
func TestForms(t *testing.T) {
	for first, words := range table() {
		words, more := strings.CutSuffix(words, " ..")
		l := []string{first}
		for _, f := range strings.Fields(words) {
			right, _ := forms(f)
			l = append(l, right[0])
		}
		ask := func(l []string, word bool) {
			t.Helper()
			got := Run(strings.Join(l, " "))
			if word != (got == "errno 280\n") {
				t.Errorf("%s: %q", strings.Join(l, " "), got)
			}
			// Where a right line's replicas are not there that is what is told.
			if !word && first != "new" && got != "errno 270\n" {
				t.Errorf("%s: %q", strings.Join(l, " "), got)
			}
		}
		ask(l, false)
		ask(append(l[:len(l):len(l)], "1"), !more)
		ask(append(l[:len(l):len(l)], "1", "2"), !more)
		for n := range l {
			if n > 0 {
				ask(l[:n], true)
			}
		}
		for i, f := range strings.Fields(words) {
			right, bad := forms(f)
			for _, word := range right {
				x := append([]string(nil), l...)
				x[i+1] = word
				ask(x, false)
			}
			for _, word := range bad {
				x := append([]string(nil), l...)
				x[i+1] = word
				ask(x, true)
			}
		}
	}
}

// P28.1: the first word is one of the table's, in just that form
func TestFirstWords(t *testing.T) {
	for _, first := range []string{"hello", "New", "news", "ne", "put1", `"text"`, "delete", "insert", "errno", "ok"} {
		talks(t, "new a 1 1 1", "ok", first, "errno 280", first+" a", "errno 280", first+" a 1 1 1", "errno 280")
	}
}

// P28.1: a replica that is not there, told ahead of all that the layers say
func TestNoReplica(t *testing.T) {
	talks(t,
		"new a 1 1 1", "ok",
		"fork b c", "errno 270",
		"edit b 0", "errno 270",
		"commit b 0 -1 \"\"", "errno 270",
		"put b 0 / 1", "errno 270",
		"undo b 0", "errno 270",
		"send a b", "errno 270", "send b a", "errno 270",
		"talk a b", "errno 270", "talk b a", "errno 270",
		"diff a b", "errno 270", "diff b a", "errno 270",
		"at b 0", "errno 270",
		"read b /", "errno 270",
		"new b 0 0 0", "errno 2", "text b", "errno 270",
	)
}

// P28.1: new and fork
func TestMaking(t *testing.T) {
	talks(t,
		"new a 0 1 1", "errno 2", "new a 1 65 1", "errno 2", "new a 1 1 257", "errno 2", "new a -1 1 1", "errno 2", "text a", "errno 270",
		"new a 1 1 1", "ok", "put a 1 /k 1", "ok * 1 1",
		"new a 1 1 -1", "errno 2", "text a", `{"k":1}`, "undo a 1", "ok * 1 1", "redo a 1", "ok * 1 1",
		"fork a b", "ok", "text b", `{"k":1}`, "undo b 1", "errno 200", "redo b 1", "errno 200",
		"put b 1 /k 2", "ok * 1 1", "text a", `{"k":1}`, "text b", `{"k":2}`,
		"put a 2 /j 1", "ok * 1 1", "text b", `{"k":2}`,
		"undo b 1", "ok * 1 1", "text b", `{"k":1}`,
		"fork a b", "ok", "text b", `{"j":1,"k":1}`, "undo b 1", "errno 200",
		"undo a 1", "ok * 1 1", "text a", `{"j":1}`,
		"fork a a", "ok", "text a", `{"j":1}`, "redo a 1", "errno 200", "undo a 2", "errno 200",
		"new a 1 1 1", "ok", "text a", "{}", "undo a 1", "errno 200",
		"new abcdefgh 1024 64 256", "ok", "text abcdefgh", "{}",
	)
}

// P28.1: options are those of the line, a Fork's too
func TestOptions(t *testing.T) {
	first, id, h := hexOf(t, api.Update{Author: 1, Seq: 1, Edits: put("a", 1)})
	second, below, _ := hexOf(t, api.Update{Author: 1, Seq: 2, Parents: []api.Hash{h}, Edits: put("a", 2)})
	third, _, _ := hexOf(t, api.Update{Author: 2, Seq: 1, Parents: []api.Hash{{9}}})
	talks(t,
		"new a 1 1 1", "ok", "new b 1 1 0", "ok", "fork a c", "ok",
		"take a "+second, "errno 60", "take a "+third, "errno 3",
		"take b "+second, "errno 3",
		"take c "+second, "errno 60", "take c "+third, "errno 3",
		"waiting a", below, "missing a", id, "waiting b", "none", "missing b", "none",
		"take a "+first, "ok "+id+" 2 2", "waiting a", "none", "missing a", "none",
		"all a", id+";"+below, "heads a", below,
		"take a "+first, "errno 5", "take a "+second, "errno 5",
		"undo a 1", "errno 200", // what was taken nobody wrote here
		"take b "+first, "ok "+id+" 1 1", "take b "+second, "ok "+below+" 1 1", "text b", `{"a":2}`,
	)
	// A checkpoint behind each update makes a late one cheap: of the heads that the two replicas have the greater id comes last.
	var rows []string
	for i := range 6 {
		x, _, _ := hexOf(t, api.Update{Author: 1 + i, Seq: 1})
		rows = append(rows, x)
	}
	steps := func(every, keep int) string {
		return Run(fmt.Sprintf("new a %d %d 0\ntake a ", every, keep) + strings.Join(rows, "\ntake a "))
	}
	if steps(1, 64) == steps(1, 0) || steps(4, 0) != steps(1, 0) {
		t.Errorf("%s and %s", steps(1, 64), steps(1, 0))
	}
}

// P28.1: edit, commit, take
func TestWriting(t *testing.T) {
	one, id, _ := hexOf(t, api.Update{Author: 1, Seq: 1, Time: 7, Note: "a note"})
	talks(t,
		"new a 1 1 1", "ok",
		`commit a 1 7 "a note"`, "ok "+id+" 1 1",
		"take a "+one, "errno 5",
		"log a", id[:8]+` 1.1 7 0 0 "a note"`,
		`commit a 0 0 ""`, "errno 51", `commit a 4294967296 0 ""`, "errno 51", `commit a 1 -1 ""`, "errno 53", `commit a 1 9007199254740993 ""`, "errno 53", `commit a 1 0 "\n"`, "errno 54",
		`commit a 1 0 "`+strings.Repeat("x", 201)+`"`, "errno 54",
		"edit a 1", "errno 40", "edit a 1 hello", "errno 40", "edit a 1 put", "errno 41", `edit a 1 put . . "k" 1 2`, "errno 41", "edit a 0 grant 2 3", "errno 51", "edit a 0 grant 2", "errno 41",
		`edit a 1   put  .  . "k  l"   "m  n"`, "ok * 1 1", "text a", `{"k  l":"m  n"}`,
		`edit a 1 put . . "k`, "errno 41",
		`take a x"00"`, "errno 21", `take a x""`, "errno 20",
	)
	turn, _, _ := hexOf(t, api.Update{Author: 3, Seq: 2})
	talks(t, "new a 1 1 1", "ok", "take a "+turn, "errno 61", "text a", "{}")
}

// P28.1: drafts, with what each refuses
func TestDrafting(t *testing.T) {
	talks(t,
		"new a 2 2 2", "ok",
		"put a 0 /k 1", "errno 51", "put a 1 / 1", "errno 151", "put a 1 /k/l 1", "errno 150", "put a 1 /k 1", "ok * 1 1",
		"del a 1 /j", "errno 150", "del a 1 /k", "ok * 1 1", "text a", "{}",
		"put a 1 /n +5", "ok * 1 1", "add a 1 /n -7", "ok * 1 1", "read a /n", "+-2", "add a 1 /m 1", "errno 150",
		"put a 1 /l []", "ok * 1 1", "ins a 1 /l 0 1", "ok * 1 1", `ins a 1 /l 1 "x y"`, "ok * 1 1", "ins a 1 /l 3 1", "errno 190", "ins a 1 /l -1 1", "errno 190", "read a /l", `[1,"x y"]`,
		"put a 1 /t ''", "ok * 1 1", `type a 1 /t 0 0 "abcd"`, "ok * 1 1", `type a 1 /t 1 2 "xyz"`, "ok * 1 1", "read a /t", "'axyzd'", `type a 1 /t 5 1 ""`, "errno 190", `type a 1 /l 0 0 ""`, "errno 151",
		`rewrite a 1 /t "axd"`, "ok * 1 1", "read a /t", "'axd'", `rewrite a 1 /t "axd"`, "ok * 1 1", `rewrite a 1 /n ""`, "errno 151", `rewrite a 1 /t "`+strings.Repeat("x", 70)+`"`, "errno 3",
		`mark a 1 /t 0 2 "b c" true`, "ok * 1 1", `mark a 1 /t 2 2 "b" true`, "errno 190", `mark a 1 /t 0 2 "" true`, "errno 41", `mark a 1 /t 0 2 "b" {}`, "errno 30",
		"put a 1 /o <>", "ok * 1 1", `grow a 1 /o "p" "x"`, "ok * 1 1", `grow a 1 /o~0 "q" "y"`, "ok * 1 1", `grow a 1 /o "" 1`, "errno 41", `grow a 1 /o "p" {}`, "errno 30", "read a /o", `<"p":"x"<"q":"y">>`,
		`move a 1 /o~0 /o~0~0 "m"`, "errno 100", `move a 1 /o~0~0 /o "a b"`, "ok * 1 1", "read a /o", `<"a b":"y","p":"x">`, `move a 1 /o~1 /o~0 "m"`, "ok * 1 1", "read a /o", `<"a b":"y"<"m":"x">>`,
		"prune a 1 /o", "errno 151", "prune a 1 /o~0", "ok * 1 1", "read a /o", "<>",
		"full a", strings.Join([]string{
			`- map 00000000.0`,
			`  "l" list ?.1`,
			`    - 1 ?.1`,
			`    - "x y" ?.1`,
			`  "n" +-2 ?.1`,
			`  "o" outline ?.1`,
			`  "t" string ?.1 "axd" 0-2:"b c"=true`,
		}, ";"),
	)
}

// P28.1: undo and redo, by author and by replica
func TestUndoing(t *testing.T) {
	talks(t,
		"new a 2 2 2", "ok", "undo a 1", "errno 200", "redo a 1", "errno 200", "undo a 0", "errno 51", "redo a 4294967296", "errno 51", "undo a -1", "errno 51",
		"put a 1 /a 1", "ok * 1 1", "put a 2 /b 1", "ok * 1 1", "put a 1 /a 2", "ok * 1 1", `edit a 1 put . . "c" 3`, "ok * 1 1", `commit a 1 0 ""`, "ok * 1 1",
		"undo a 1", "ok * 1 1", "text a", `{"a":2,"b":1,"c":3}`,
		"undo a 1", "ok * 1 1", "text a", `{"a":2,"b":1}`,
		"undo a 1", "ok * 1 1", "text a", `{"a":1,"b":1}`,
		"redo a 1", "ok * 1 1", "text a", `{"a":2,"b":1}`,
		"undo a 2", "ok * 1 1", "text a", `{"a":2}`,
		"redo a 1", "ok * 1 1", "text a", `{"a":2,"c":3}`,
		"redo a 1", "ok * 1 1", "redo a 1", "errno 200",
		"undo a 1", "ok * 1 1", "undo a 1", "ok * 1 1", "put a 1 /d 4", "ok * 1 1", "redo a 1", "errno 200", "redo a 2", "ok * 1 1", "text a", `{"a":2,"b":1,"d":4}`,
		"put a 0 /e 1", "errno 51", "undo a 1", "ok * 1 1", "text a", `{"a":2,"b":1}`,
		"new b 1 1 1", "ok", "send a b", "sent 17", "undo b 1", "errno 200",
		"put b 1 /z 1", "ok * 1 1", "undo a 1", "ok * 1 1", "undo b 1", "ok * 1 1", "text a", `{"a":1,"b":1}`, "text b", `{"a":2,"b":1}`,
	)
	// Each of the lines that draft can be undone.
	for _, c := range []struct{ begin, line, ahead string }{
		{"", "put a 1 /a 1", "{}"},
		{"put a 2 /a 1", "del a 1 /a", `{"a":1}`},
		{"put a 2 /n +1", "add a 1 /n 4", `{"n":+1}`},
		{"put a 2 /l []", "ins a 1 /l 0 4", `{"l":[]}`},
		{"put a 2 /t ''", `type a 1 /t 0 0 "ab"`, `{"t":''}`},
		{"put a 2 /t ''", `rewrite a 1 /t "ab"`, `{"t":''}`},
		{"put a 2 /o <>", `grow a 1 /o "p" 1`, `{"o":<>}`},
	} {
		l := []string{"new a 1 1 1", "ok"}
		if c.begin != "" {
			l = append(l, c.begin, "ok * 1 1")
		}
		talks(t, append(l, c.line, "ok * 1 1", "undo a 1", "ok * 1 1", "text a", c.ahead, "undo a 1", "errno 200", "undo a 2", map[bool]string{true: "errno 200", false: "ok * 1 1"}[c.begin == ""])...)
	}
	for _, line := range []string{`mark a 1 /t 0 1 "b" true`, `move a 1 /o~0 /o "z"`, "prune a 1 /o~0"} {
		talks(t, "new a 1 1 1", "ok", "put a 2 /t ''", "ok * 1 1", `type a 2 /t 0 0 "x"`, "ok * 1 1", "put a 2 /o <>", "ok * 1 1", `grow a 2 /o "p" 1`, "ok * 1 1",
			line, "ok * 1 1", "undo a 1", "ok * 1 1", "text a", `{"o":<"p":1>,"t":'x'}`, "undo a 1", "errno 200")
	}
}

// P28.1: a stack has no more than may be undone
func TestDeepUndo(t *testing.T) {
	l := []string{"new a 16 4 1", "ok"}
	for range api.MaxUndo + 1 {
		l = append(l, "add a 1 /n 1", "errno 150")
	}
	l = append(l, "put a 2 /n +0", "ok * 1 1")
	for range api.MaxUndo + 1 {
		l = append(l, "add a 1 /n 1", "ok * 1 1")
	}
	for range api.MaxUndo {
		l = append(l, "undo a 1", "ok * 1 1")
	}
	talks(t, append(l, "undo a 1", "errno 200", "text a", `{"n":+1}`)...)
}

// P28.1, P28.4: send and talk
func TestSendingAndTalking(t *testing.T) {
	talks(t,
		"new a 1 1 4", "ok", "new b 1 1 4", "ok",
		"send a b", "sent 0", "talk a b", "talked 2", "talk a a", "talked 2", "send a a", "sent 0",
		"put a 1 /a 1", "ok * 1 1", "put a 1 /b 2", "ok * 1 1",
		"send b a", "sent 0", "text b", "{}", "send a b", "sent 2", "text b", `{"a":1,"b":2}`, "send a b", "sent 0", "send a a", "sent 0",
		"put b 2 /c 3", "ok * 1 1", "send b a", "sent 1", "text a", `{"a":1,"b":2,"c":3}`,
		"talk a b", "talked 2", "put a 1 /d 4", "ok * 1 1", "put b 2 /e 5", "ok * 1 1",
		"diff a b", `drop /d;set /e 5`, "diff b a", `set /d 4;drop /e`,
		"talk b a", "talked 5", "diff a b", "none", "text b", `{"a":1,"b":2,"c":3,"d":4,"e":5}`,
		"new c 1 1 4", "ok", "put c 3 /x 1", "ok * 1 1", "talk b c", "talked 5", "text c", `{"a":1,"b":2,"c":3,"d":4,"e":5,"x":1}`, "text a", `{"a":1,"b":2,"c":3,"d":4,"e":5}`,
	)
}

// P28.1: what lines tell
func TestTelling(t *testing.T) {
	_, x, h := hexOf(t, api.Update{Author: 1, Seq: 1, Edits: put("a", 1)})
	_, y, i := hexOf(t, api.Update{Author: 2, Seq: 1, Parents: []api.Hash{h}, Edits: put("a", 2)})
	_, z, _ := hexOf(t, api.Update{Author: 1, Seq: 2, Parents: []api.Hash{i}, Edits: []api.Edit{{Act: api.Grant, Who: 3, N: 4}}})
	talks(t,
		"new a 1 1 1", "ok",
		"text a", "{}", "full a", "- map 00000000.0", "read a /", "{}", "read a /a", "errno 150", "read a [0]", "errno 151",
		"heads a", "none", "all a", "none", "waiting a", "none", "missing a", "none", "log a", "none",
		"at a 0", "errno 4", "blame a /", "errno 151", "blame a /a", "errno 150", "diff a a", "none",
		"rights a", "1 9", "void a", "none", "allowed a", "{}", "forks a", "none", "pack a", "packed 18 same",
		`edit a 1 put . . "a" 1`, "ok "+x+" 1 1", `edit a 2 put . . "a" 2`, "ok "+y+" 1 1", "edit a 1 grant 3 4", "ok "+z+" 1 1",
		"heads a", z, "all a", x+";"+y+";"+z,
		"log a", x[:8]+` 1.1 0 0 1 "";`+y[:8]+` 2.1 0 1 1 "";`+z[:8]+` 1.2 0 1 1 ""`,
		"at a "+x, `{"a":1}`, "at a "+y, `{"a":2}`, "at a "+x[:6], `{"a":1}`, "at a "+strings.Repeat("0", 64), "errno 4",
		"at a "+digest.Hex(h), `{"a":1}`, "at a "+digest.Hex(h)+"0", "errno 280",
		"blame a /a", "0-1 "+y+"#1 2",
		"full a", "- map 00000000.0;"+`  "a" 2 `+y[:8]+".1",
		"rights a", "1 9;3 4", "void a", y, "allowed a", `{"a":1}`,
		"forks a", "none", "pack a", fmt.Sprintf("packed %d same", packedSize),
		"read a /a", "2", "read a /b", "errno 150", "read a /a/b", "errno 151",
	)
}

// packedSize is of the three updates above: 45 53 50 31 and their number; nine columns, each with its length: how many parents (3 bytes: a row of one, a run of two), which (2), none of others (0), authors (4: a row), Seqs (4), Times (2: a run), notes (3), how many edits (2), the edits (7, 7 and 3); the sum.
const packedSize = 5 + 9 + 4 + 2 + 0 + 4 + 4 + 2 + 3 + 2 + 17 + 4

// P28.1: several heads, runs, forks, digits that fit several
func TestTellingMore(t *testing.T) {
	one, x, _ := hexOf(t, api.Update{Author: 7, Seq: 1, Edits: put("a", 1)})
	two, y, _ := hexOf(t, api.Update{Author: 7, Seq: 1, Edits: put("a", 2)})
	low, high := min(x, y), max(x, y)
	top := map[string]string{x: "1", y: "2"}[high]
	talks(t, "new a 1 1 1", "ok", "take a "+one, "ok "+x+" 1 1", "take a "+two, map[bool]string{true: "ok " + y + " 1 1", false: "ok " + y + " 1 3"}[y == high],
		"heads a", low+";"+high, "forks a", "7 1 "+low+" "+high, "void a", low+";"+high, "allowed a", "{}", "text a", `{"a":`+top+`}`,
		"full a", "- map 00000000.0;"+`  "a" `+top+" "+high[:8]+".1 +1",
		"at a "+x, `{"a":1}`, "at a "+y, `{"a":2}`,
		"put a 2 /t ''", "ok * 1 1", `type a 2 /t 0 0 "xy"`, "ok * 1 1", `type a 3 /t 1 0 "z"`, "ok * 1 1", "blame a /t", "0-1 *#1 2;1-2 *#1 3;2-3 *#2 2",
		"put a 2 /o <>", "ok * 1 1", `grow a 2 /o "p" 1`, "ok * 1 1", "blame a /o~0", "0-1 *#1 2", "put a 2 /l []", "ok * 1 1", "blame a /l", "none",
	)
	// Of seventeen ids two begin with one digit.
	l := []string{"new a 1 1 1"}
	for i := range 17 {
		l = append(l, fmt.Sprintf(`commit a %d 0 ""`, i+1))
	}
	many := 0
	for _, digit := range "0123456789abcdef" {
		if strings.HasSuffix(Run(strings.Join(append(l, "at a "+string(digit)), "\n")), "errno 11\n") {
			many++
		}
	}
	if many == 0 {
		t.Error("no digit fits several")
	}
}
