package suite

import "tabularium/api"

// firstText is the text that came to an id first, for as long as no other came to it; then only that they share it.
type firstText struct {
	text   string
	shared bool
}

// digests are the texts by their ids, and the first two that had one (P7.3).
// The texts are kept whole, of a Real suite too: that no two have one id isn't taken for granted.
type digests struct {
	first          map[api.Id]firstText
	clashed        bool
	earlier, later string
}

func newDigests() *digests {
	return &digests{first: map[api.Id]firstText{}}
}

// meet takes in that the text has this id, and refuses it if another one has it, from then on for all of them.
func (d *digests) meet(id api.Id, text string) api.Errno {
	met, is := d.first[id]
	switch {
	case !is:
		d.first[id] = firstText{text: text}
		return api.OK
	case met.shared:
		return api.ErrCollision
	case met.text == text:
		return api.OK
	default:
		d.first[id] = firstText{shared: true}
		d.tell(met.text, text)
		return api.ErrCollision
	}
}

// tell keeps the two texts for Clash, if they are the first ones.
func (d *digests) tell(earlier, later string) {
	if d.clashed {
		return
	}
	d.clashed, d.earlier, d.later = true, earlier, later
}
