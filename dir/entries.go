package dir

import (
	"bytes"
	"iter"
	"slices"
	"strings"

	"tabularium/api"
	"tabularium/envel"
)

// Find is the place of the first entry with this Name (P11.3).
func Find(l []api.Entry, name string) (int, bool) {
	return first(l, func(e api.Entry) bool { return e.Name == name })
}

// With is l with e, in the place of those that have its Name or its Blind (P11.3, P11.4).
func With(l []api.Entry, e api.Entry) []api.Entry {
	out := without(l, func(x api.Entry) bool { return x.Name == e.Name || x.Blind == e.Blind })
	at, is := first(out, func(x api.Entry) bool { return compare(x.Blind, e.Blind) > 0 })
	if !is {
		at = len(out)
	}
	return slices.Clip(slices.Insert(out, at, own(e)))
}

// Clashes says whether e would take the place of an entry with another Name (P11.3).
func Clashes(l []api.Entry, e api.Entry) bool {
	_, is := first(l, func(x api.Entry) bool { return x.Blind == e.Blind && x.Name != e.Name })
	return is
}

// Without is l without the entries with this Name (P11.3, P11.4).
func Without(l []api.Entry, name string) []api.Entry {
	return slices.Clip(without(l, func(x api.Entry) bool { return x.Name == name }))
}

// Links is what an envelope with these entries links to (P11.3).
func Links(l []api.Entry) []api.Id {
	ids := make([]api.Id, 0, len(l))
	for _, e := range l {
		ids = append(ids, e.Id)
	}
	return envel.Links(ids...)
}

// Names tells the Names that l has now, rising, each as often as it is there (P11.3).
func Names(l []api.Entry) iter.Seq[string] {
	names := make([]string, 0, len(l))
	for _, e := range l {
		names = append(names, strings.Clone(e.Name))
	}
	slices.Sort(names)
	return func(yield func(string) bool) {
		for _, name := range names {
			if !yield(name) {
				return
			}
		}
	}
}

// first is the place of the first entry that is such, and whether there is one.
func first(l []api.Entry, such func(api.Entry) bool) (int, bool) {
	at, is := 0, false
entries:
	for i, e := range l {
		if such(e) {
			at, is = i, true
			break entries
		}
	}
	return at, is
}

// without is l without those that are such, in memory of its own.
func without(l []api.Entry, such func(api.Entry) bool) []api.Entry {
	var out []api.Entry
	for _, e := range l {
		if !such(e) {
			out = append(out, own(e))
		}
	}
	return out
}

// own is e with a Name in memory of its own, so that no answer shares any with an argument.
func own(e api.Entry) api.Entry {
	e.Name = strings.Clone(e.Name)
	return e
}

func compare(a, b api.Id) int {
	return bytes.Compare(a[:], b[:])
}
