package history

import (
	"estuary/api"
	"estuary/dag"
	"estuary/doc"
	"estuary/eval"
	"estuary/render"
)

// Blame tells who put what is shown at a way.
func Blame(g *dag.Graph, way []api.Step) ([]api.Credit, api.Errno) {
	d := eval.Fold(g, g.Heads(), nil)
	p, why := render.Lies(d, way)
	if why != api.OK {
		return nil, why
	}
	return credits(g, shown(d, p)), api.OK
}

// shown are the Ids of what is shown at a place: of the elements of a sequence that is there, else of what lies there itself.
func shown(d *doc.Doc, p api.Place) []api.Id {
	top, lies := d.Top(p)
	switch {
	case !lies:
		return nil
	case top.Value.Kind != api.List && top.Value.Kind != api.String:
		return []api.Id{top.Id}
	}
	l := d.Live(top.Id)
	for i, at := range l {
		e, _ := d.Top(api.Place{Obj: top.Id, At: at})
		l[i] = e.Id
	}
	return l
}

// credits are the runs of a row that were put by one update each.
func credits(g *dag.Graph, row []api.Id) []api.Credit {
	authors := map[api.Hash]int{}
	for h, u := range updates(g) {
		authors[h] = u.Author
	}
	var l []api.Credit
	for _, r := range runs(row, updateOf) {
		first := row[r.from]
		l = append(l, api.Credit{From: r.from, To: r.to, Id: first, Author: authors[first.Hash]})
	}
	return l
}

func updateOf(id api.Id) api.Hash { return id.Hash }

// run is a piece of a row, from one number up to another, that one not.
type run struct{ from, to int }

// runs are the greatest ones of a row that have one key each.
func runs[T any, K comparable](row []T, key func(T) K) []run {
	var l []run
	for i, x := range row {
		if i > 0 && key(x) == key(row[i-1]) {
			l[len(l)-1].to++
		} else {
			l = append(l, run{i, i + 1})
		}
	}
	return l
}
