package shell

import (
	"strconv"

	"estuary/api"
	"estuary/digest"
	"estuary/history"
	"estuary/keys"
	"estuary/pack"
	"estuary/patch"
	"estuary/policy"
	"estuary/render"
	"estuary/way"
)

func (l *line) tellText() string { return say(l.at[0].Render()) }

func (l *line) tellFull() string { return render.Full(l.at[0].Nodes()) }

func (l *line) tellPart() string {
	text, _ := way.Print(l.ways[0]) // just the word that was read
	part, why := l.at[0].Read(text)
	if why != api.OK {
		return errno(why)
	}
	return say(part)
}

func (l *line) tellHeads() string { return hashes(l.at[0].Frontier()) }

func (l *line) tellAll() string { return hashes(l.at[0].Accepted()) }

func (l *line) tellWaiting() string { return hashes(l.at[0].Waiting()) }

func (l *line) tellMissing() string { return hashes(l.at[0].Missing()) }

func (l *line) tellLog() string {
	if log := history.Log(l.at[0].Graph()); log != "" {
		return log
	}
	return say(none)
}

func (l *line) tellPast() string {
	x := l.at[0]
	h, why := digest.Find(l.digits, x.Accepted())
	if why != api.OK {
		return errno(why)
	}
	d, _ := history.At(x.Graph(), []api.Hash{h}) // it was found among the accepted ones
	return say(render.Text(render.Nodes(d)))
}

func (l *line) tellBlame() string {
	credits, why := history.Blame(l.at[0].Graph(), l.ways[0])
	if why != api.OK {
		return errno(why)
	}
	return list(credits, credit)
}

func (l *line) tellDiff() string {
	return list(patch.Diff(l.at[0].Nodes(), l.at[1].Nodes()), patch.Print)
}

func (l *line) tellRights() string {
	g := l.at[0].Graph()
	return list(policy.Rights(g, g.Heads()), right)
}

func (l *line) tellVoid() string { return hashes(policy.Void(l.at[0].Graph())) }

func (l *line) tellAllowed() string {
	return say(render.Text(render.Nodes(policy.Doc(l.at[0].Graph()))))
}

func (l *line) tellForks() string { return list(keys.Forks(l.at[0].Graph()), fork) }

func (l *line) tellPacked() string {
	x := l.at[0]
	b, why := pack.Save(x.updates())
	if why != api.OK {
		return errno(why)
	}
	kept := "other"
	if x.isPacked(b) {
		kept = "same"
	}
	return say("packed", strconv.Itoa(len(b)), kept)
}
