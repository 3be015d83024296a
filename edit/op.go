package edit

import "estuary/api"

// Op is what an edit means as number n of an update.
func Op(e api.Edit, own api.Hash, n int, author int) api.Op {
	return api.Op{
		Id:     api.Id{Hash: own, N: n},
		Author: author,
		Act:    e.Act,
		Obj:    meant(e.Obj, own),
		At:     meant(e.At, own),
		To:     meant(e.To, own),
		Key:    e.Key,
		Sides:  e.Sides,
		Value:  e.Value,
		N:      e.N,
		Who:    e.Who,
	}
}

// meant is what a reference names that the update own says.
func meant(ref api.Ref, own api.Hash) api.Id {
	switch ref.Kind {
	case api.RefOwn:
		return api.Id{Hash: own, N: ref.N}
	case api.RefOp:
		return api.Id{Hash: ref.Hash, N: ref.N}
	}
	return api.Id{}
}

// Ref is the reference to an op, said in the update own.
func Ref(id api.Id, own api.Hash) api.Ref {
	switch {
	case id == api.Id{}:
		return api.Ref{}
	case id.Hash == own:
		return api.Ref{Kind: api.RefOwn, N: id.N}
	}
	return api.Ref{Kind: api.RefOp, Hash: id.Hash, N: id.N}
}

// Place is where a Put, a Delete or an Add acts, and where what an Insert or a Grow makes lies.
func Place(o api.Op) api.Place {
	switch o.Act {
	case put, remove, add:
		return api.Place{Obj: o.Obj, Key: o.Key, At: o.At}
	case insert, grow:
		return api.Place{Obj: o.Obj, At: o.Id}
	}
	return api.Place{}
}
