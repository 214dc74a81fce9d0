package suite

import (
	"iter"
	"slices"

	"tabularium/api"
	"tabularium/tape"
)

// prfAsked is what a Prf is asked for.
type prfAsked struct {
	key   api.Key
	label byte
	in    string
}

// sealAsked is what a Seal is asked for.
type sealAsked struct {
	key       api.Key
	ad, plain string
}

// drawn is what an Ideal suite has answered: what wasn't asked yet is drawn, and then stands in a table.
type drawn struct {
	draws *tape.Tape
	keys  map[prfAsked]api.Key
	ids   map[string]api.Id
	seals map[sealAsked][]byte
	// asked is, by the sealed text, all for which Seal answered it, the latest one last.
	asked map[string][]sealAsked
}

func newDrawn(t *tape.Tape) *drawn {
	return &drawn{
		draws: t,
		keys:  map[prfAsked]api.Key{},
		ids:   map[string]api.Id{},
		seals: map[sealAsked][]byte{},
		asked: map[string][]sealAsked{},
	}
}

// prf is what was answered for k, label and in, else a draw (P7.2).
func (d *drawn) prf(k api.Key, label byte, in []byte) (api.Key, api.Errno) {
	return known(d.keys, prfAsked{key: k, label: label, in: string(in)}, d.draws.Key)
}

// id is what came for the text, else a draw (P7.3).
func (d *drawn) id(text string) (api.Id, api.Errno) {
	return known(d.ids, text, func() (api.Id, api.Errno) {
		k, e := d.draws.Key()
		return api.Id(k), e
	})
}

// seal is what was answered for k, ad and plain, else draws (P7.4).
func (d *drawn) seal(k api.Key, ad, plain []byte) ([]byte, api.Errno) {
	what := sealAsked{key: k, ad: string(ad), plain: string(plain)}
	ct, e := known(d.seals, what, func() ([]byte, api.Errno) {
		return d.draws.Take(sealedSize(len(plain)))
	})
	if e != api.OK {
		return nil, e
	}
	d.putLast(ct, what)
	return slices.Clone(ct), api.OK
}

// known is the table's answer to what is asked; else it is drawn and kept, unless the draw is refused.
func known[A comparable, B any](table map[A]B, asked A, draw func() (B, api.Errno)) (B, api.Errno) {
	if answer, is := table[asked]; is {
		return answer, api.OK
	}
	answer, e := draw()
	if e == api.OK {
		table[asked] = answer
	}
	return answer, e
}

// putLast makes what was asked the latest for which ct was answered, also if it was asked ahead of others already.
func (d *drawn) putLast(ct []byte, what sealAsked) {
	list := d.asked[string(ct)]
	if at := slices.Index(list, what); at >= 0 {
		list = slices.Delete(list, at, at+1)
	}
	d.asked[string(ct)] = append(list, what)
}

// open is the latest text for which ct was answered with k and ad (P7.5).
func (d *drawn) open(k api.Key, ad, ct []byte) ([]byte, api.Errno) {
	var plain []byte
	e := api.ErrAuth
answered:
	for what := range d.latest(ct) {
		switch {
		case what.key != k, what.ad != string(ad):
			continue
		default:
			plain, e = []byte(what.plain), api.OK
			break answered
		}
	}
	return plain, e
}

// latest tells all for which ct was answered, the latest one first.
func (d *drawn) latest(ct []byte) iter.Seq[sealAsked] {
	return func(yield func(sealAsked) bool) {
		for _, what := range slices.Backward(d.asked[string(ct)]) {
			if !yield(what) {
				return
			}
		}
	}
}
