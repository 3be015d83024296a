package draft

import (
	"unicode/utf8"

	"estuary/api"
)

// stretch is n characters that are kept: from number i of the one text, and number j of the other one, on.
type stretch struct{ i, j, n int }

// Script is the shortest way from one text to another: patches of texts, from the front on.
func Script(a, b string) []api.Patch {
	if !utf8.ValidString(a) || !utf8.ValidString(b) {
		return nil
	}
	old, now := []rune(a), []rune(b)
	if max(len(old), len(now)) > api.MaxDiff {
		return between(old, now, keptEnds(old, now))
	}
	return between(old, now, keptCharacters(old, now))
}

// between are the patches of what is not kept. What stands ahead of each is as it will be, so that its number is one of the new text.
func between(a, b []rune, kept []stretch) []api.Patch {
	var l []api.Patch
	i, j := 0, 0
	for _, s := range append(kept, stretch{i: len(a), j: len(b)}) {
		if s.i > i || s.j > j {
			l = append(l, api.Patch{Kind: api.PatchText, At: j, Count: s.i - i, Text: string(b[j:s.j])})
		}
		i, j = s.i+s.n, s.j+s.n
	}
	return l
}

// keptEnds are the longest front that two texts have in common, and the longest end of what is left.
func keptEnds(a, b []rune) []stretch {
	front, end, most := 0, 0, min(len(a), len(b))
	for front < most && a[front] == b[front] {
		front++
	}
	for end < most-front && a[len(a)-1-end] == b[len(b)-1-end] {
		end++
	}
	return []stretch{{n: front}, {i: len(a) - end, j: len(b) - end, n: end}}
}

// keptCharacters are the longest row of characters that stands in both texts.
func keptCharacters(a, b []rune) []stretch {
	left := longest(a, b)
	var kept []stretch
	for i, j := 0, 0; i < len(a) && j < len(b); {
		switch {
		case a[i] == b[j]:
			kept = append(kept, stretch{i, j, 1})
			i, j = i+1, j+1
		case left[i+1][j] >= left[i][j+1]:
			i++
		default:
			j++
		}
	}
	return kept
}

// longest are the lengths of the longest rows that stand in both texts, from each two numbers on; none is above MaxDiff.
func longest(a, b []rune) [][]uint16 {
	left := make([][]uint16, len(a)+1)
	left[len(a)] = make([]uint16, len(b)+1)
	for i := len(a) - 1; i >= 0; i-- {
		left[i] = make([]uint16, len(b)+1)
		for j := len(b) - 1; j >= 0; j-- {
			if a[i] == b[j] {
				left[i][j] = left[i+1][j+1] + 1
			} else {
				left[i][j] = max(left[i+1][j], left[i][j+1])
			}
		}
	}
	return left
}
