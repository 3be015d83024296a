package edit

import (
	"strconv"

	"estuary/api"
	"estuary/digest"
	"estuary/value"
	"estuary/wire"
	"estuary/words"
)

const (
	mostSides = 3
	hexLength = 64
)

// field is what a field of an edit must be, and how it is written and read.
type field struct {
	name  string
	use   int
	zero  func(e *api.Edit) bool
	fits  func(e *api.Edit) bool // by itself, in an edit of its act
	write func(w *wire.Writer, e *api.Edit)
	read  func(r *wire.Reader, e *api.Edit)
	show  func(e *api.Edit) string
	parse func(word string, e *api.Edit) bool
}

// fields are all fields, in the one order in which every act says its own.
func fields() [8]field {
	return [...]field{
		refField("Obj", useObj, func(e *api.Edit) *api.Ref { return &e.Obj }),
		refField("At", useAt, func(e *api.Edit) *api.Ref { return &e.At }),
		refField("To", useTo, func(e *api.Edit) *api.Ref { return &e.To }),
		keyField(),
		sidesField(),
		valueField(),
		whoField(),
		numberField(),
	}
}

func refField(name string, use int, of func(e *api.Edit) *api.Ref) field {
	return field{
		name:  name,
		use:   use,
		zero:  func(e *api.Edit) bool { return *of(e) == api.Ref{} },
		fits:  func(e *api.Edit) bool { return mayBe(*of(e)) },
		write: func(w *wire.Writer, e *api.Edit) { writeRef(w, *of(e)) },
		read:  func(r *wire.Reader, e *api.Edit) { *of(e) = readRef(r) },
		show:  func(e *api.Edit) string { return showRef(*of(e)) },
		parse: func(word string, e *api.Edit) bool {
			ref, ok := parseRef(word)
			*of(e) = ref
			return ok
		},
	}
}

func keyField() field {
	return field{
		name:  "Key",
		use:   useKey,
		zero:  func(e *api.Edit) bool { return e.Key == "" },
		fits:  keyFits,
		write: func(w *wire.Writer, e *api.Edit) { w.Text(e.Key) },
		read:  func(r *wire.Reader, e *api.Edit) { e.Key = r.Text(api.MaxKey) },
		show:  func(e *api.Edit) string { return value.Quote(e.Key) },
		parse: func(word string, e *api.Edit) bool {
			key, n, why := value.Unquote(word)
			e.Key = key
			return why == api.OK && n == len(word)
		},
	}
}

func keyFits(e *api.Edit) bool {
	switch e.Act {
	case put, remove, add:
		if e.Key == "" {
			return true
		}
		fallthrough
	default:
		return words.Key(e.Key)
	}
}

func sidesField() field {
	return field{
		name:  "Sides",
		use:   useSides,
		zero:  func(e *api.Edit) bool { return e.Sides == 0 },
		fits:  func(e *api.Edit) bool { return 0 <= e.Sides && e.Sides <= mostSides },
		write: func(w *wire.Writer, e *api.Edit) { w.Byte(byte(e.Sides)) },
		read:  func(r *wire.Reader, e *api.Edit) { e.Sides = int(r.Byte()) },
		show:  func(e *api.Edit) string { return strconv.Itoa(e.Sides) },
		parse: func(word string, e *api.Edit) bool { return parseInt(word, &e.Sides) },
	}
}

func valueField() field {
	return field{
		name: "Value",
		use:  useValue,
		// A right Null has nothing but zeros, the float's bits too.
		zero:  func(e *api.Edit) bool { return e.Value.Kind == api.Null && value.Right(e.Value) == api.OK },
		fits:  valueFits,
		write: func(w *wire.Writer, e *api.Edit) { value.Write(w, e.Value) },
		read:  func(r *wire.Reader, e *api.Edit) { e.Value = value.Read(r) },
		show:  func(e *api.Edit) string { return value.Print(e.Value) },
		parse: func(word string, e *api.Edit) bool {
			v, why := value.Parse(word)
			e.Value = v
			return why == api.OK
		},
	}
}

func valueFits(e *api.Edit) bool {
	return value.Right(e.Value) == api.OK && (e.Act != mark || value.Scalar(e.Value.Kind))
}

func whoField() field {
	return field{
		name:  "Who",
		use:   useWho,
		zero:  func(e *api.Edit) bool { return e.Who == 0 },
		fits:  func(e *api.Edit) bool { return 1 <= e.Who && e.Who < api.MaxAuthor },
		write: func(w *wire.Writer, e *api.Edit) { w.Uint(uint64(e.Who)) },
		read:  func(r *wire.Reader, e *api.Edit) { e.Who = int(r.Uint(api.MaxAuthor - 1)) },
		show:  func(e *api.Edit) string { return strconv.Itoa(e.Who) },
		parse: func(word string, e *api.Edit) bool { return parseInt(word, &e.Who) },
	}
}

func numberField() field {
	return field{
		name:  "N",
		use:   useN,
		zero:  func(e *api.Edit) bool { return e.N == 0 },
		fits:  func(e *api.Edit) bool { return e.Act != grant || 1 <= e.N && e.N <= api.MaxRank },
		write: func(w *wire.Writer, e *api.Edit) { w.Int(e.N) },
		read:  func(r *wire.Reader, e *api.Edit) { e.N = r.Int() },
		show:  func(e *api.Edit) string { return strconv.FormatInt(e.N, 10) },
		parse: func(word string, e *api.Edit) bool {
			n, ok := words.Number(word)
			e.N = n
			return ok
		},
	}
}

func parseInt(word string, to *int) bool {
	n, ok := words.Number(word)
	*to = int(n)
	return ok
}

// mayBe tells whether a reference may be said at all.
func mayBe(ref api.Ref) bool {
	named := 1 <= ref.N && ref.N <= api.MaxEdits
	switch ref.Kind {
	case api.RefZero:
		return ref == api.Ref{}
	case api.RefOwn:
		return named && ref.Hash == api.Hash{}
	case api.RefOp:
		return named
	}
	return false
}

func writeRef(w *wire.Writer, ref api.Ref) {
	w.Byte(byte(ref.Kind))
	switch ref.Kind {
	case api.RefOp:
		w.Hash(ref.Hash)
		fallthrough
	case api.RefOwn:
		w.Uint(uint64(ref.N))
	}
}

func readRef(r *wire.Reader) api.Ref {
	at := r.At()
	ref := api.Ref{Kind: api.RefKind(r.Byte())}
	switch ref.Kind {
	case api.RefZero:
	case api.RefOp:
		ref.Hash = r.Hash()
		fallthrough
	case api.RefOwn:
		at = r.At()
		ref.N = int(r.Uint(api.MaxEdits))
		if ref.N == 0 {
			r.Fail(api.ErrField, at)
		}
	default:
		r.Fail(api.ErrForm, at)
	}
	return ref
}

func showRef(ref api.Ref) string {
	switch ref.Kind {
	case api.RefOwn:
		return "#" + strconv.Itoa(ref.N)
	case api.RefOp:
		return digest.Hex(ref.Hash) + "#" + strconv.Itoa(ref.N)
	}
	return "."
}

func parseRef(word string) (api.Ref, bool) {
	if word == "." {
		return api.Ref{}, true
	}
	ref := api.Ref{Kind: api.RefOwn}
	if len(word) > hexLength {
		h, why, _ := digest.UnHex(word[:hexLength])
		if why != api.OK {
			return api.Ref{}, false
		}
		ref, word = api.Ref{Kind: api.RefOp, Hash: h}, word[hexLength:]
	}
	if word == "" || word[0] != '#' || !parseInt(word[1:], &ref.N) {
		return api.Ref{}, false
	}
	return ref, true
}
