package container

import (
	"isinglass/api"
	"isinglass/arrays"
	"isinglass/runs"
	"isinglass/words"
)

// And is the canonical container of the numbers of both.
func (c Container) And(o Container) Container {
	return pair{arrays.And, words.And, runs.And}.of(c, o)
}

// Or is the canonical container of the numbers of either.
func (c Container) Or(o Container) Container {
	return pair{arrays.Or, words.Or, runs.Or}.of(c, o)
}

// AndNot is the canonical container of c's numbers that are not in o.
func (c Container) AndNot(o Container) Container {
	return pair{arrays.AndNot, words.AndNot, runs.AndNot}.of(c, o)
}

// Xor is the canonical container of the numbers of just one.
func (c Container) Xor(o Container) Container {
	return pair{arrays.Xor, words.Xor, runs.Xor}.of(c, o)
}

// pair is a call of two sets, as the layer of each kind has it.
type pair struct {
	arrays func(a, b []uint16) []uint16
	words  func(a, b []uint64) []uint64
	runs   func(a, b []api.Run) []api.Run
}

// of is the canonical container of what p tells of two containers.
func (p pair) of(c, o Container) Container {
	call := p.call(c.Kind(), o.Kind())
	return call(c, o).Canonical()
}

// call is that one of p's calls by which two kinds are paired. Where they differ, both are made words, if one is; else runs, of which an array has no more than numbers.
func (p pair) call(a, b uint8) func(c, o Container) Container {
	switch {
	case a == api.Words || b == api.Words:
		return p.byWords
	case a == api.Runs || b == api.Runs:
		return p.byRuns
	default:
		return p.byArrays
	}
}

func (p pair) byArrays(c, o Container) Container { return ofArray(p.arrays(c.Array(), o.Array())) }

func (p pair) byWords(c, o Container) Container { return ofWords(p.words(c.Words(), o.Words())) }

func (p pair) byRuns(c, o Container) Container { return ofRuns(p.runs(c.Runs(), o.Runs())) }
