package wire

import (
	"bytes"
	"iter"
	"math"
	"slices"

	"tabularium/api"
	"tabularium/codec"
)

const (
	// maxErr is the greatest error's number that is told, whether an error has it or not.
	maxErr = 1000
	// maxNames is how many names a reply may tell.
	maxNames = 1000
)

// PutReply is r's bytes, in the one way there is to write it (P16.2, P16.3).
func PutReply(r api.Reply) ([]byte, api.Errno) {
	if !mayAnswer(r) {
		return nil, api.ErrWire
	}
	w := &codec.Writer{}
	w.N(asReply, uint64(r.Client), r.Seq, uint64(r.Err))
	w.Raw(r.Id[:])
	w.N(r.N)
	w.Text(r.Body)
	w.N(uint64(len(r.Names)))
	for _, name := range r.Names {
		w.Text([]byte(name))
	}
	return w.Bytes(), api.OK
}

// OfReply is the reply with just these bytes (P16.2, P16.3).
func OfReply(b []byte) (api.Reply, api.Errno) {
	from := codec.Read(b)
	as := from.N(asReply)
	r := api.Reply{
		Client: uint32(from.N(math.MaxUint32)),
		Seq:    from.N(math.MaxUint64),
		Err:    api.Errno(from.N(maxErr)),
		Id:     nextId(from),
		N:      from.N(math.MaxUint64),
		Body:   from.Text(maxBody),
		Names:  nextNames(from),
	}
	if from.End() != api.OK || as != asReply || !mayAnswer(r) {
		return api.Reply{}, api.ErrWire
	}
	return r, api.OK
}

// SameReply says whether all parts of a and b are alike, the names in their order (P16.2). It refuses nothing: PutReply will.
func SameReply(a, b api.Reply) bool {
	return a.Client == b.Client && a.Seq == b.Seq && a.Err == b.Err && a.Id == b.Id && a.N == b.N &&
		bytes.Equal(a.Body, b.Body) && slices.Equal(a.Names, b.Names)
}

// mayAnswer says whether r is such as PutReply writes (P16.2).
func mayAnswer(r api.Reply) bool {
	return r.Err >= api.OK && r.Err <= maxErr && len(r.Body) <= maxBody && len(r.Names) <= maxNames &&
		!slices.ContainsFunc(r.Names, tooLong)
}

func tooLong(name string) bool {
	return len(name) > api.MaxName
}

// nextNames is the names that stand next, up to the first one that isn't there: then the reader's End tells that it failed.
func nextNames(from *codec.Reader) []string {
	var all []string
reading:
	for name := range names(from) {
		if failed(from) {
			break reading
		}
		all = append(all, name)
	}
	return slices.Clip(all)
}

// names tells as many names as the reader says that there are, each as it is read.
func names(from *codec.Reader) iter.Seq[string] {
	return func(yield func(string) bool) {
		for range int(from.N(maxNames)) {
			if !yield(string(from.Text(api.MaxName))) {
				return
			}
		}
	}
}

// failed says whether the reader gave up: one that didn't and has no bytes left is at a good end.
func failed(from *codec.Reader) bool {
	return from.Rest() == 0 && from.End() != api.OK
}
