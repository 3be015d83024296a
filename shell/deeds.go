package shell

// form reads a word into a line; false, if the word is of another form.
type form func(l *line, word string) bool

// deed is what lines with one first word do.
type deed struct {
	forms []form // of the words behind the first one
	more  bool   // any words may stand behind these
	do    func(l *line) string
}

// deeds are what lines can do, by their first words.
func deeds() map[string]deed {
	name, fresh := (*line).old, (*line).fresh
	number, way, text, value := (*line).number, (*line).way, (*line).text, (*line).value
	one := []form{name}
	two := []form{name, name}
	author := []form{name, number}
	spot := []form{name, number, way}
	return map[string]deed{
		"new":     {forms: []form{fresh, number, number, number}, do: (*line).makeNew},
		"fork":    {forms: []form{name, fresh}, do: (*line).makeFork},
		"edit":    {forms: author, more: true, do: (*line).edit},
		"commit":  {forms: []form{name, number, number, text}, do: (*line).commit},
		"take":    {forms: []form{name, (*line).bytes}, do: (*line).take},
		"put":     {forms: []form{name, number, way, value}, do: (*line).put},
		"del":     {forms: spot, do: (*line).del},
		"add":     {forms: []form{name, number, way, number}, do: (*line).add},
		"ins":     {forms: []form{name, number, way, number, value}, do: (*line).insert},
		"type":    {forms: []form{name, number, way, number, number, text}, do: (*line).typeText},
		"rewrite": {forms: []form{name, number, way, text}, do: (*line).rewrite},
		"mark":    {forms: []form{name, number, way, number, number, text, value}, do: (*line).mark},
		"grow":    {forms: []form{name, number, way, text, value}, do: (*line).grow},
		"move":    {forms: []form{name, number, way, way, text}, do: (*line).move},
		"prune":   {forms: spot, do: (*line).prune},
		"undo":    {forms: author, do: (*line).undo},
		"redo":    {forms: author, do: (*line).redo},
		"send":    {forms: two, do: (*line).send},
		"talk":    {forms: two, do: (*line).talk},
		"text":    {forms: one, do: (*line).tellText},
		"full":    {forms: one, do: (*line).tellFull},
		"read":    {forms: []form{name, way}, do: (*line).tellPart},
		"heads":   {forms: one, do: (*line).tellHeads},
		"all":     {forms: one, do: (*line).tellAll},
		"waiting": {forms: one, do: (*line).tellWaiting},
		"missing": {forms: one, do: (*line).tellMissing},
		"log":     {forms: one, do: (*line).tellLog},
		"at":      {forms: []form{name, (*line).hash}, do: (*line).tellPast},
		"blame":   {forms: []form{name, way}, do: (*line).tellBlame},
		"diff":    {forms: two, do: (*line).tellDiff},
		"rights":  {forms: one, do: (*line).tellRights},
		"void":    {forms: one, do: (*line).tellVoid},
		"allowed": {forms: one, do: (*line).tellAllowed},
		"forks":   {forms: one, do: (*line).tellForks},
		"pack":    {forms: one, do: (*line).tellPacked},
	}
}
