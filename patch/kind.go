package patch

import (
	"strconv"

	"estuary/api"
	"estuary/digest"
	"estuary/render"
	"estuary/value"
)

const (
	shortId = 8 // digits of an id in a line
	kinds   = api.PatchMore + 1
)

// kind is what patches of one kind are called, what stands behind the way in their lines, and how they are done (false: one that does not fit, and changes nothing).
type kind struct {
	word string
	rest func(p api.Patch) string
	do   func(root *branch, p api.Patch) bool
}

// table has the kinds by their numbers; that of none has no word.
func table() [kinds]kind {
	return [kinds]kind{
		api.PatchSet:    {"set", nodesWord, set},
		api.PatchDrop:   {"drop", nothing, drop},
		api.PatchInsert: {"insert", nodesWord, insert},
		api.PatchText:   {"text", textWords, rewrite},
		api.PatchSpans:  {"spans", spanWords, mark},
		api.PatchMore:   {"more", moreWords, more},
	}
}

func kindOf(k api.PatchKind) kind {
	if k >= kinds {
		return kind{}
	}
	return table()[k]
}

func nothing(api.Patch) string { return "" }

func nodesWord(p api.Patch) string {
	return " " + render.Text(p.Nodes)
}

func textWords(p api.Patch) string {
	return " " + strconv.Itoa(p.At) + " " + strconv.Itoa(p.Count) + " " + value.Quote(p.Text)
}

func spanWords(p api.Patch) string {
	line := ""
	for _, s := range p.Spans {
		line += " " + strconv.Itoa(s.From) + "-" + strconv.Itoa(s.To) + ":" + value.Quote(s.Name) + "=" + value.Print(s.Value)
	}
	return line
}

func moreWords(p api.Patch) string {
	var n api.Node
	if len(p.Nodes) > 0 {
		n = p.Nodes[0]
	}
	return " " + digest.Short(n.Id.Hash, shortId) + "." + strconv.Itoa(n.Id.N) + " +" + strconv.Itoa(n.More)
}
