package render

import (
	"strings"

	"estuary/api"
	"estuary/value"
)

const behindScalar = ",]}<>" // what can stand behind one that has no quotes

// reader reads a text from its beginning on. It takes more than Text writes: what is wrong with its nodes shows when they are looked through and written again.
type reader struct {
	rest  string
	nodes []api.Node
	ends  []string // of the nodes that have not ended, the outermost first, what each ends with
	begun bool     // the last of them has just begun: no comma stands ahead of what comes next
}

// Parse reads just what Text writes of a whole document.
func Parse(s string) ([]api.Node, api.Errno) {
	r := reader{rest: s}
	if !r.read() {
		return nil, api.ErrSyntax
	}
	p, ok := look(r.nodes)
	if !ok || r.nodes[0].Value.Kind != api.Map || p.text() != s {
		return nil, api.ErrSyntax
	}
	return r.nodes, api.OK
}

// read reads a node and all that lies in it, which must be the whole text. Nodes are not read in one another, for they may be very deep.
func (r *reader) read() bool {
	ok := r.node("")
	for ok && len(r.ends) > 0 {
		ok = r.end() || r.item()
	}
	return ok && r.rest == ""
}

// skip goes over a text, if that is what comes next.
func (r *reader) skip(s string) bool {
	rest, ok := strings.CutPrefix(r.rest, s)
	r.rest = rest
	return ok
}

// last is what the last node ends with that has not ended.
func (r *reader) last() string {
	return r.ends[len(r.ends)-1]
}

// end reads that.
func (r *reader) end() bool {
	if !r.skip(r.last()) {
		return false
	}
	r.ends = r.ends[:len(r.ends)-1]
	r.begun = false
	return true
}

// item reads one more node that lies in the last one that has not ended.
func (r *reader) item() bool {
	if !r.begun && !r.skip(",") {
		return false
	}
	if r.last() == listEnd {
		return r.node("")
	}
	key, size, why := value.Unquote(r.rest)
	r.rest = r.rest[size:]
	return why == api.OK && r.skip(":") && r.node(key)
}

// node reads a node, but for what lies in it.
func (r *reader) node(key string) bool {
	n := api.Node{Deep: len(r.ends), Key: key}
	end, ok := "", true
	switch {
	case r.skip(mapBegin):
		n.Value.Kind, end = api.Map, mapEnd
	case r.skip(listBegin):
		n.Value.Kind, end = api.List, listEnd
	case r.skip(outlineBegin):
		n.Value.Kind, end = api.Outline, outlineEnd
	case r.skip(singleQuote):
		n.Value.Kind = api.String
		n.Text, ok = r.unquoteSingle()
	default:
		n.Value, ok = r.scalar()
		if r.skip(outlineBegin) {
			end = outlineEnd
		}
	}
	r.nodes = append(r.nodes, n)
	r.begun = end != ""
	if r.begun {
		r.ends = append(r.ends, end)
	}
	return ok
}

// unquoteSingle reads what quoteSingle writes, behind its first quote.
func (r *reader) unquoteSingle() (string, bool) {
	size := 0
	for size < len(r.rest) && r.rest[size:size+1] != singleQuote {
		if r.rest[size] == '\\' {
			size++
		}
		size++
	}
	if size >= len(r.rest) {
		return "", false
	}
	quoted := strings.ReplaceAll(r.rest[:size], escapedQuote, singleQuote)
	text, _, why := value.Unquote(`"` + strings.ReplaceAll(quoted, `"`, `\"`) + `"`)
	r.rest = r.rest[size+1:]
	return text, why == api.OK
}

func (r *reader) scalar() (api.Value, bool) {
	size := strings.IndexAny(r.rest, behindScalar)
	if strings.HasPrefix(r.rest, `"`) {
		_, size, _ = value.Unquote(r.rest)
	}
	if size < 0 {
		return api.Value{}, false
	}
	v, why := value.Parse(r.rest[:size])
	r.rest = r.rest[size:]
	return v, why == api.OK
}
