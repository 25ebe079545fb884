package container

import (
	"slices"

	"isinglass/api"
	"isinglass/arrays"
	"isinglass/runs"
	"isinglass/words"
)

// Containers of each kind, of rows that are theirs alone.

func ofArray(a []uint16) Container { return Container{kind: api.Arrays, array: a} }

func ofWords(w []uint64) Container { return Container{kind: api.Words, words: w} }

func ofRuns(r []api.Run) Container { return Container{kind: api.Runs, runs: r} }

// A container of any kind as one of another.

func (c Container) toArrays() Container { return ofArray(c.Array()) }

func (c Container) toWords() Container { return ofWords(c.Words()) }

func (c Container) toRuns() Container { return ofRuns(c.Runs()) }

// What a container of the kind Arrays does.

func (c Container) arrayLen() int { return len(c.array) }

func (c Container) arrayRunCount() int { return arrays.Runs(c.array) }

func (c Container) arrayHas(x uint16) bool {
	_, there := arrays.Find(c.array, x)
	return there
}

func (c Container) arrayRank(x int) int {
	switch {
	case x < 0:
		return 0
	case x >= api.Container: // no number that Find could be asked for
		return len(c.array)
	}
	n, _ := arrays.Find(c.array, uint16(x))
	return n
}

func (c Container) arraySelect(k int) (uint16, bool) {
	if k < 0 || k >= len(c.array) {
		return 0, false
	}
	return c.array[k], true
}

func (c Container) arrayCopy() []uint16 { return slices.Clone(c.array) }

func (c Container) arrayToWords() []uint64 { return words.Of(c.array) }

func (c Container) arrayToRuns() []api.Run { return runs.Of(c.array) }

func (c Container) arrayWith(x uint16) Container { return ofArray(arrays.With(c.array, x)) }

// What a container of the kind Words does.

func (c Container) wordsLen() int { return words.Len(c.words) }

func (c Container) wordsRunCount() int { return words.Runs(c.words) }

func (c Container) wordsHave(x uint16) bool { return words.Has(c.words, x) }

func (c Container) wordsRank(x int) int { return words.Rank(c.words, x) }

func (c Container) wordsSelect(k int) (uint16, bool) { return words.Select(c.words, k) }

func (c Container) wordsToArray() []uint16 { return words.List(c.words) }

func (c Container) wordsCopy() []uint64 { return slices.Clone(c.words) }

func (c Container) wordsToRuns() []api.Run { return runs.Of(words.List(c.words)) }

// What a container of the kind Runs does.

func (c Container) runsLen() int { return runs.Len(c.runs) }

func (c Container) runsRunCount() int { return len(c.runs) }

func (c Container) runsHave(x uint16) bool { return runs.Has(c.runs, x) }

func (c Container) runsRank(x int) int { return runs.Rank(c.runs, x) }

func (c Container) runsSelect(k int) (uint16, bool) { return runs.Select(c.runs, k) }

func (c Container) runsToArray() []uint16 { return runs.List(c.runs) }

func (c Container) runsToWords() []uint64 { return words.Of(runs.List(c.runs)) }

func (c Container) runsCopy() []api.Run { return slices.Clone(c.runs) }

// What containers of more than one kind do.

func (c Container) flippedByWords(lo, hi int) Container {
	return ofWords(words.Flip(c.Words(), lo, hi))
}

// flippedByRuns flips by runs, of which so many numbers as lie between two places are one: layer 4 does not flip.
func (c Container) flippedByRuns(lo, hi int) Container {
	return ofRuns(runs.Flip(c.Runs(), lo, hi))
}

func (c Container) flippedWith(x uint16) Container {
	if c.Has(x) {
		return c
	}
	return c.Flip(int(x), int(x)+1)
}
