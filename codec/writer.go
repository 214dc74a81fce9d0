package codec

import "tabularium/api"

// Writer gathers what is written, from the front on; a zero one has nothing (P8.1).
type Writer struct {
	all []byte
}

// N writes numbers (P8.1).
func (w *Writer) N(l ...uint64) {
	if w == nil {
		return
	}
	for _, x := range l {
		w.all = appendNumber(w.all, x)
	}
}

// Raw writes b's bytes as they are: how many they are, whoever reads them has to know (P8.1).
func (w *Writer) Raw(b []byte) {
	if w == nil {
		return
	}
	w.all = append(w.all, b...)
}

// Text writes of each text its length and its bytes (P8.1).
func (w *Writer) Text(l ...[]byte) {
	for _, b := range l {
		w.N(uint64(len(b)))
		w.Raw(b)
	}
}

// Ids writes how many there are, and their bytes (P8.1).
func (w *Writer) Ids(l []api.Id) {
	w.N(uint64(len(l)))
	for _, id := range l {
		w.Raw(id[:])
	}
}

// Bytes is all that was written so far; more may be written behind it (P8.1).
func (w *Writer) Bytes() []byte {
	if w == nil {
		return nil
	}
	return own(w.all)
}
