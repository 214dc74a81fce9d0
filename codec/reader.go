package codec

import (
	"tabularium/api"
	"tabularium/vec"
)

// Reader goes through bytes from the front on, until something fails (P8.2).
type Reader struct {
	// fine holds from Read on till something fails, so that a Reader that nobody made has failed.
	fine  bool
	ahead []byte
}

// Read is a reader ahead of b (P8.2).
func Read(b []byte) *Reader {
	return &Reader{fine: true, ahead: own(b)}
}

// N is the number that stands next, which may be most at the most (P8.2).
func (r *Reader) N(most uint64) uint64 {
	if r.failed() {
		return 0
	}
	x, size := numberAt(r.ahead)
	if size == 0 || x > most {
		r.fail()
		return 0
	}
	r.ahead = r.ahead[size:]
	return x
}

// Raw is the next n bytes (P8.2). Fewer than none are never there.
func (r *Reader) Raw(n int) []byte {
	if r.failed() {
		return nil
	}
	if n < 0 || n > len(r.ahead) {
		r.fail()
		return nil
	}
	next := own(r.ahead[:n])
	r.ahead = r.ahead[n:]
	return next
}

// Text is the text that stands next, of at most so many bytes (P8.2).
func (r *Reader) Text(most int) []byte {
	return r.Raw(r.count(most))
}

// Ids is the ids that stand next, at most so many (P8.2).
func (r *Reader) Ids(most int) []api.Id {
	n := r.count(most)
	if n > r.Rest()/idBytes { // held against the rest ahead of counting bytes: that could go round
		r.fail()
	}
	if r.failed() {
		return nil
	}
	out := make([]api.Id, 0, n)
	for b := range vec.Chunks(r.Raw(n*idBytes), idBytes) {
		out = append(out, api.Id(b))
	}
	return out
}

// Rest is how many bytes are left; none behind a failure (P8.2).
func (r *Reader) Rest() int {
	if r.failed() {
		return 0
	}
	return len(r.ahead)
}

// End is OK if nothing failed and all was read (P8.2).
func (r *Reader) End() api.Errno {
	if r.failed() || len(r.ahead) > 0 {
		return api.ErrCodec
	}
	return api.OK
}

// count is the number that stands next, of things that may be most at the most; no number is below 0.
func (r *Reader) count(most int) int {
	if most < 0 {
		r.fail()
		return 0
	}
	return int(r.N(uint64(most)))
}

func (r *Reader) failed() bool {
	return r == nil || !r.fine
}

// fail gives up for good; what was ahead isn't kept.
func (r *Reader) fail() {
	if r != nil {
		r.fine, r.ahead = false, nil
	}
}
