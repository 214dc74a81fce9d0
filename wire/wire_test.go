package wire

import (
	"bytes"
	"math"
	"slices"
	"strings"
	"testing"

	"tabularium/api"
)

// sample is n bytes without a short period, so that a byte at a wrong place shows.
func sample(n int) []byte {
	out := make([]byte, n)
	x := uint32(1)
	for i := range out {
		x = x*1664525 + 1013904223
		out[i] = byte(x >> 24)
	}
	return out
}

// sampleIds is n ids, no two of them alike.
func sampleIds(n int) []api.Id {
	out := make([]api.Id, 0, n)
	for b := range slices.Chunk(sample(32*n), 32) {
		out = append(out, api.Id(b))
	}
	return out
}

// full is an id with each byte at its greatest.
func full() api.Id {
	var out api.Id
	for i := range out {
		out[i] = 0xff
	}
	return out
}

// repeated is n texts, all of them s.
func repeated(s string, n int) []string {
	return slices.Repeat([]string{s}, n)
}

// rolls is draws for tests, always the same ones.
type rolls uint64

// below is the next draw, from 0 to n - 1.
func (r *rolls) below(n int) int {
	*r = *r*6364136223846793005 + 1442695040888963407
	return int(uint64(*r) >> 33 % uint64(n))
}

// number is a draw of about as many bits as another draw says, so that short numbers come as often as long ones.
func (r *rolls) number() uint64 {
	x := uint64(r.below(1<<31))<<33 ^ uint64(r.below(1<<31))<<11 ^ uint64(r.below(1<<31))
	return x >> r.below(64)
}

// id is noughts now and then.
func (r *rolls) id() api.Id {
	var out api.Id
	if r.below(4) == 0 {
		return out
	}
	for i := range out {
		out[i] = byte(r.below(256))
	}
	return out
}

func (r *rolls) bytes(most int) []byte {
	out := make([]byte, r.below(most+1))
	for i := range out {
		out[i] = byte(r.below(256))
	}
	return out
}

// plainNumber is x as chapter 8 writes it, worked out otherwise than codec does.
func plainNumber(x uint64) []byte {
	digits := []byte{}
	for {
		digits = append(digits, byte(x%128))
		x /= 128
		if x == 0 {
			break
		}
	}
	for i := range len(digits) - 1 {
		digits[i] += 128
	}
	return digits
}

func plainText(s string) []byte {
	return append(plainNumber(uint64(len(s))), s...)
}

// looker reads bytes otherwise than codec does: each number is tried in each length, by writing it again.
type looker struct {
	b   []byte
	bad bool
}

func (l *looker) raw(n int) []byte {
	if l.bad || n > len(l.b) {
		l.bad = true
		return make([]byte, min(n, 200000))
	}
	out := l.b[:n]
	l.b = l.b[n:]
	return out
}

func (l *looker) number() uint64 {
	for n := 1; n <= min(10, len(l.b)); n++ {
		var x uint64
		for i := n - 1; i >= 0; i-- {
			x = x*128 + uint64(l.b[i]%128)
		}
		if bytes.Equal(plainNumber(x), l.b[:n]) {
			l.b = l.b[n:]
			return x
		}
	}
	l.bad = true
	return 0
}

// most is a number that may not be greater than that.
func (l *looker) most(x uint64) uint64 {
	got := l.number()
	l.bad = l.bad || got > x
	return got
}

func (l *looker) text(most uint64) string {
	n := l.most(most)
	if l.bad {
		return ""
	}
	return string(l.raw(int(n)))
}

// plainRequest is r's bytes, refusing nothing.
func plainRequest(r api.Request) []byte {
	return slices.Concat([]byte{1},
		plainNumber(uint64(r.Client)), plainNumber(r.Seq), plainNumber(uint64(r.Kind)), plainNumber(uint64(r.Tenant)),
		plainText(r.Name), r.Id[:], r.Old[:], plainNumber(r.N), plainText(string(r.Body)))
}

// plainReply is r's bytes, refusing nothing.
func plainReply(r api.Reply) []byte {
	out := slices.Concat([]byte{2},
		plainNumber(uint64(r.Client)), plainNumber(r.Seq), plainNumber(uint64(r.Err)), r.Id[:],
		plainNumber(r.N), plainText(string(r.Body)), plainNumber(uint64(len(r.Names))))
	for _, name := range r.Names {
		out = append(out, plainText(name)...)
	}
	return out
}

// lookRequest is the request with just these bytes, worked out otherwise.
func lookRequest(b []byte) (api.Request, bool) {
	l := &looker{b: b}
	as := l.raw(1)[0]
	r := api.Request{Client: uint32(l.most(math.MaxUint32)), Seq: l.number(), Kind: int(l.most(10)), Tenant: uint32(l.most(math.MaxUint32))}
	r.Name = l.text(64)
	r.Id = api.Id(l.raw(32))
	r.Old = api.Id(l.raw(32))
	r.N = l.number()
	r.Body = []byte(l.text(110000))
	return r, !l.bad && len(l.b) == 0 && as == 1 && r.Kind != 0
}

// lookReply is the reply with just these bytes, worked out otherwise.
func lookReply(b []byte) (api.Reply, bool) {
	l := &looker{b: b}
	as := l.raw(1)[0]
	r := api.Reply{Client: uint32(l.most(math.MaxUint32)), Seq: l.number(), Err: api.Errno(l.most(1000))}
	r.Id = api.Id(l.raw(32))
	r.N = l.number()
	r.Body = []byte(l.text(110000))
	for n := l.most(1000); n > 0 && !l.bad; n-- {
		r.Names = append(r.Names, l.text(64))
	}
	return r, !l.bad && len(l.b) == 0 && as == 2
}

// alikeRequests compares part by part, a nil body like an empty one.
func alikeRequests(a, b api.Request) bool {
	return a.Client == b.Client && a.Seq == b.Seq && a.Kind == b.Kind && a.Tenant == b.Tenant && a.Name == b.Name &&
		a.Id == b.Id && a.Old == b.Old && a.N == b.N && string(a.Body) == string(b.Body)
}

// alikeReplies is SameReply, worked out otherwise: by bytes that tell all parts apart.
func alikeReplies(a, b api.Reply) bool {
	return bytes.Equal(plainReply(a), plainReply(b))
}

func zeroRequest(r api.Request) bool {
	return alikeRequests(r, api.Request{}) && r.Body == nil
}

func zeroReply(r api.Reply) bool {
	return alikeReplies(r, api.Reply{}) && r.Body == nil && r.Names == nil
}

func wantNoRequest(t *testing.T, what string, b []byte) {
	t.Helper()
	if r, e := OfRequest(b); e != api.ErrWire || !zeroRequest(r) {
		t.Fatalf("%s: a request of kind %d, error %d", what, r.Kind, e)
	}
}

func wantNoReply(t *testing.T, what string, b []byte) {
	t.Helper()
	if r, e := OfReply(b); e != api.ErrWire || !zeroReply(r) {
		t.Fatalf("%s: a reply with Err %d and %d names, error %d", what, r.Err, len(r.Names), e)
	}
}

// longName is a name of n bytes.
func longName(n int) string {
	return strings.Repeat("n", n)
}

// otherNumbers are ways to write 1 that aren't the shortest, and numbers above all that may be.
func otherNumbers() map[string][]byte {
	return map[string][]byte{
		"in two bytes":   {0x81, 0},
		"in three bytes": {0x81, 0x80, 0},
		"0 in two bytes": {0x80, 0},
		"in ten bytes":   {0x81, 0x80, 0x80, 0x80, 0x80, 0x80, 0x80, 0x80, 0x80, 0},
		"2^64":           {0x80, 0x80, 0x80, 0x80, 0x80, 0x80, 0x80, 0x80, 0x80, 2},
		"2^64 + 1":       {0x81, 0x80, 0x80, 0x80, 0x80, 0x80, 0x80, 0x80, 0x80, 2},
		"11 bytes":       {0x81, 0x80, 0x80, 0x80, 0x80, 0x80, 0x80, 0x80, 0x80, 0x81, 0},
		"2^70 + 1":       {0x81, 0x80, 0x80, 0x80, 0x80, 0x80, 0x80, 0x80, 0x80, 0x80, 1},
		"nothing":        {},
	}
}
