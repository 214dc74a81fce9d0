package envel

import (
	"bytes"
	"iter"
	"slices"

	"tabularium/api"
)

// Links is the ids, each once, rising (P9.1).
func Links(l ...api.Id) []api.Id {
	sorted := slices.Clone(l)
	slices.SortFunc(sorted, compare)
	return slices.Clip(slices.Collect(once(sorted)))
}

// once tells the ids of a sorted list, those that are alike as one.
func once(sorted []api.Id) iter.Seq[api.Id] {
	return func(yield func(api.Id) bool) {
		if len(sorted) == 0 || !yield(sorted[0]) {
			return
		}
		for ahead, id := range neighbours(sorted) {
			if ahead != id && !yield(id) {
				return
			}
		}
	}
}

// rising says whether each id is greater than the one ahead of it.
func rising(l []api.Id) bool {
	for ahead, id := range neighbours(l) {
		if compare(ahead, id) >= 0 {
			return false
		}
	}
	return true
}

// neighbours tells each id but the first one, with the one ahead of it.
func neighbours(l []api.Id) iter.Seq2[api.Id, api.Id] {
	return func(yield func(ahead, id api.Id) bool) {
		for i := 1; i < len(l); i++ {
			if !yield(l[i-1], l[i]) {
				return
			}
		}
	}
}

func compare(a, b api.Id) int {
	return bytes.Compare(a[:], b[:])
}
