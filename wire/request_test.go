package wire

import (
	"bytes"
	"math"
	"slices"
	"strconv"
	"strings"
	"testing"

	"tabularium/api"
)

// ordinaryRequest has no part that is 0 or nothing, and no two numbers or ids that are alike.
func ordinaryRequest() api.Request {
	ids := sampleIds(2)
	return api.Request{Client: 70000, Seq: 1 << 40, Kind: api.ReqCas, Tenant: 300, Name: "main", Id: ids[0], Old: ids[1], N: 1 << 33, Body: sample(40)}
}

// goodRequests are such as may be, ordinary ones and those at the edges.
func goodRequests() map[string]api.Request {
	return map[string]api.Request{
		"the kind alone":          {Kind: 1},
		"an empty body":           {Kind: 2, Body: []byte{}},
		"an ordinary one":         ordinaryRequest(),
		"the client alone":        {Client: 1, Kind: 1},
		"the Seq alone":           {Seq: 1, Kind: 1},
		"the greatest kind":       {Kind: 10},
		"the tenant alone":        {Kind: 1, Tenant: 1},
		"a name alone":            {Kind: 1, Name: "x"},
		"the id alone":            {Kind: 1, Id: api.Id{31: 1}},
		"the old one alone":       {Kind: 1, Old: api.Id{31: 1}},
		"the number alone":        {Kind: 1, N: 1},
		"a body alone":            {Kind: 1, Body: []byte{0}},
		"all of them one":         {Client: 1, Seq: 1, Kind: 1, Tenant: 1, Name: "\x01", Id: api.Id{1}, Old: api.Id{1}, N: 1, Body: []byte{1}},
		"numbers of one byte":     {Client: 127, Seq: 127, Kind: 3, Tenant: 127, N: 127},
		"numbers of two bytes":    {Client: 128, Seq: 16383, Kind: 4, Tenant: 128, N: 128},
		"numbers of three bytes":  {Client: 16384, Seq: 16384, Kind: 5, Tenant: 16384, N: 16384},
		"numbers of 2^32":         {Client: math.MaxUint32, Seq: 1 << 32, Kind: 6, Tenant: math.MaxUint32, N: 1 << 32},
		"numbers of 2^63":         {Seq: 1 << 63, Kind: 7, N: 1 << 63},
		"a name of 63 bytes":      {Kind: 8, Name: longName(63)},
		"a name of 64 bytes":      {Kind: 8, Name: longName(64)},
		"32 letters of two bytes": {Kind: 8, Name: strings.Repeat("ä", 32)},
		"64 noughts":              {Kind: 8, Name: strings.Repeat("\x00", 64)},
		"a name that is no good":  {Kind: api.ReqCas, Name: "a/../\xff\n"},
		"a body of 127 bytes":     {Kind: 9, Body: sample(127)},
		"a body of 128 bytes":     {Kind: 9, Body: sample(128)},
		"a body of 65,536 bytes":  {Kind: 9, Body: sample(65536)},
		"a body of 109,999 bytes": {Kind: 9, Body: sample(109999)},
		"a body of 110,000 bytes": {Kind: 9, Body: sample(110000)},
		"a request in the body":   {Kind: 10, Body: plainRequest(ordinaryRequest())},
		"a reply in the body":     {Kind: api.ReqDone, Body: plainReply(ordinaryReply())},
		"all at the edge":         {Client: math.MaxUint32, Seq: math.MaxUint64, Kind: 10, Tenant: math.MaxUint32, Name: strings.Repeat("\xff", 64), Id: full(), Old: full(), N: math.MaxUint64, Body: bytes.Repeat([]byte{0xff}, 110000)},
	}
}

// badRequests are such as may not be.
func badRequests() map[string]api.Request {
	out := map[string]api.Request{
		"nothing at all":            {},
		"a name of 65 bytes":        {Kind: 1, Name: longName(65)},
		"64 letters, 65 bytes":      {Kind: 1, Name: longName(63) + "ä"},
		"33 letters of two bytes":   {Kind: 1, Name: strings.Repeat("ä", 33)},
		"a name of 66 noughts":      {Kind: 1, Name: strings.Repeat("\x00", 66)},
		"a name of 320 bytes":       {Kind: 1, Name: longName(256 + 64)},
		"a name of 110,000 bytes":   {Kind: 1, Name: longName(110000)},
		"a body of 110,001 bytes":   {Kind: 1, Body: sample(110001)},
		"a body of 110,002 bytes":   {Kind: 1, Body: sample(110002)},
		"a body of 2^18 bytes":      {Kind: 1, Body: sample(1 << 18)},
		"a long name and body":      {Kind: 1, Name: longName(65), Body: sample(110001)},
		"no kind, all else at most": {Client: math.MaxUint32, Seq: math.MaxUint64, Tenant: math.MaxUint32, Name: longName(64), Id: full(), Old: full(), N: math.MaxUint64, Body: sample(110000)},
	}
	for _, kind := range []int{0, -1, -10, 11, 12, 127, 128, 256, 257, 266, 1<<16 + 1, 1<<31 + 1, 1<<32 + 1, 1<<32 + 10, math.MaxInt, math.MinInt, math.MinInt + 1} {
		r := ordinaryRequest()
		r.Kind = kind
		out["kind "+strconv.Itoa(kind)] = r
	}
	return out
}

// requestByHand is a request and its bytes, written out by hand.
func requestByHand() (api.Request, []byte) {
	r := api.Request{Client: 3, Seq: 300, Kind: api.ReqCas, Tenant: 2, Name: "main", Id: api.Id{0: 7}, Old: api.Id{31: 8}, N: 128, Body: []byte("b")}
	noughts := make([]byte, 31)
	return r, slices.Concat([]byte{1, 3, 0xac, 2, 6, 2, 4, 'm', 'a', 'i', 'n'},
		[]byte{7}, noughts, noughts, []byte{8},
		[]byte{0x80, 1, 1, 'b'})
}

// P16.1: there and back by hand.
func TestRequestByHand(t *testing.T) {
	r, want := requestByHand()
	if b, e := PutRequest(r); e != api.OK || !bytes.Equal(b, want) {
		t.Fatalf("%x, error %d", b, e)
	}
	if got, e := OfRequest(want); e != api.OK || !alikeRequests(got, r) {
		t.Fatalf("%v, error %d", got, e)
	}
	least := slices.Concat([]byte{1, 0, 0, 1, 0, 0}, make([]byte, 64), []byte{0, 0})
	if b, e := PutRequest(api.Request{Kind: 1}); e != api.OK || !bytes.Equal(b, least) {
		t.Fatalf("%x, error %d", b, e)
	}
}

// P16.1: the parts, one behind the other.
func TestPutRequest(t *testing.T) {
	for what, r := range goodRequests() {
		if b, e := PutRequest(r); e != api.OK || !bytes.Equal(b, plainRequest(r)) {
			t.Errorf("%s: %d bytes, error %d", what, len(b), e)
		}
	}
}

// P16.1, P4: what may not be is refused, and nothing is told beside the error.
func TestPutRequestRefuses(t *testing.T) {
	for what, r := range badRequests() {
		if b, e := PutRequest(r); e != api.ErrWire || b != nil {
			t.Errorf("%s: %d bytes, error %d", what, len(b), e)
		}
	}
}

// P16.1: the request with just these bytes.
func TestOfRequest(t *testing.T) {
	for what, r := range goodRequests() {
		if got, e := OfRequest(plainRequest(r)); e != api.OK || !alikeRequests(got, r) {
			t.Errorf("%s: error %d", what, e)
		}
	}
}

// P16.1: no request that may not be is read, though its bytes are well-formed.
func TestOfRequestThatMayNotBe(t *testing.T) {
	for what, r := range badRequests() {
		wantNoRequest(t, what, plainRequest(r))
	}
}

// lookAtRequest holds both calls against whether r may be.
func lookAtRequest(t *testing.T, what string, r api.Request, may bool) {
	t.Helper()
	b, e := PutRequest(r)
	if !may {
		if e != api.ErrWire || b != nil {
			t.Fatalf("%s: error %d", what, e)
		}
		wantNoRequest(t, what, plainRequest(r))
		return
	}
	if got, f := OfRequest(b); e != api.OK || f != api.OK || !alikeRequests(got, r) {
		t.Fatalf("%s: errors %d, %d", what, e, f)
	}
}

// P16.1: each kind, each length of a name, and lengths of a body around the limit.
func TestEachRequestAroundTheLimits(t *testing.T) {
	for kind := -300; kind < 300; kind++ {
		lookAtRequest(t, "kind "+strconv.Itoa(kind), api.Request{Kind: kind, Name: "a"}, kind >= 1 && kind <= 10)
	}
	for n := range 200 {
		lookAtRequest(t, "a name of "+strconv.Itoa(n), api.Request{Kind: 1, Name: string(sample(n))}, n <= 64)
		lookAtRequest(t, "a body of "+strconv.Itoa(n), api.Request{Kind: 1, Body: sample(n)}, true)
	}
	for n := 109980; n < 110020; n++ {
		lookAtRequest(t, "a body of "+strconv.Itoa(n), api.Request{Kind: 1, Body: sample(n)}, n <= 110000)
	}
}

// P16.3: numbers at the edges of all lengths that a number may have.
func TestRequestsOfEachNumber(t *testing.T) {
	for bit := range 64 {
		for _, x := range []uint64{1<<bit - 1, 1 << bit, 1<<bit + 1} {
			lookAtRequest(t, strconv.FormatUint(x, 10), api.Request{Client: uint32(x), Seq: x, Kind: 1, Tenant: ^uint32(x), N: ^x}, true)
		}
	}
}

// withRequestNumbers is a request's bytes of which each number is given as bytes: its own kind, Client, Seq, Kind, Tenant, a name's length, N, a body's length.
func withRequestNumbers(n [8][]byte) []byte {
	return slices.Concat(n[0], n[1], n[2], n[3], n[4], n[5], []byte{'a'}, make([]byte, 64), n[6], n[7], []byte{'b'})
}

// P16.1, P16.3: numbers that are in more bytes than need be, or greater than they may be, or not there.
func TestOfRequestWithOtherNumbers(t *testing.T) {
	one := []byte{1}
	ones := [8][]byte{one, one, one, one, one, one, one, one}
	if r, e := OfRequest(withRequestNumbers(ones)); e != api.OK || !alikeRequests(r, api.Request{Client: 1, Seq: 1, Kind: 1, Tenant: 1, Name: "a", N: 1, Body: []byte("b")}) {
		t.Fatalf("%v, error %d", r, e)
	}
	for at := range ones {
		for what, b := range otherNumbers() {
			n := ones
			n[at] = b
			wantNoRequest(t, "number "+strconv.Itoa(at)+": "+what, withRequestNumbers(n))
		}
	}
	for at, limit := range map[int]uint64{0: 1, 1: math.MaxUint32, 3: 10, 4: math.MaxUint32} {
		n := ones
		n[at] = plainNumber(limit)
		if _, e := OfRequest(withRequestNumbers(n)); e != api.OK {
			t.Fatalf("number %d at its greatest: error %d", at, e)
		}
		for _, more := range []uint64{1, 2, 1 << 32, 1 << 62, math.MaxUint64 - limit} {
			n[at] = plainNumber(limit + more)
			wantNoRequest(t, "number "+strconv.Itoa(at)+" and "+strconv.FormatUint(more, 10), withRequestNumbers(n))
		}
	}
	for _, at := range []int{0, 3, 5, 7} { // 0 is no request's beginning, no kind, and another length
		n := ones
		n[at] = []byte{0}
		wantNoRequest(t, "number "+strconv.Itoa(at)+" is 0", withRequestNumbers(n))
	}
}

// P16.1: its first byte says that it is a request; a reply isn't one.
func TestOfRequestFirstByte(t *testing.T) {
	for _, r := range goodRequests() {
		b := plainRequest(r)
		for x := range 256 {
			b[0] = byte(x)
			if _, e := OfRequest(b); (e == api.OK) != (x == 1) {
				t.Fatalf("a request that begins with %d: error %d", x, e)
			}
		}
	}
	for what, r := range goodReplies() {
		wantNoRequest(t, what, plainReply(r))
	}
}

// P16.1, P3, P1: bytes that are no request's; the document's example is the first of them.
func TestOfRequestOfOtherBytes(t *testing.T) {
	for what, b := range map[string][]byte{
		"nil":                             nil,
		"nothing":                         {},
		"the first byte alone":            {1},
		"a number that is cut":            {1, 0x80},
		"2^64 - 1 bytes that aren't":      {1, 1, 1, 1, 1, 0xff, 0xff, 0xff, 0xff, 0xff, 0xff, 0xff, 0xff, 0xff, 1},
		"a name that isn't there":         {1, 1, 1, 1, 1, 64},
		"an id that isn't there":          {1, 1, 1, 1, 1, 0, 1, 2, 3},
		"a body of 110,000 that isn't":    slices.Concat([]byte{1, 1, 1, 1, 1, 0}, make([]byte, 65), plainNumber(110000)),
		"a body of 110,000 without a bit": slices.Concat([]byte{1, 1, 1, 1, 1, 0}, make([]byte, 65), plainNumber(110000), make([]byte, 109999)),
		"text":                            []byte("may I ask something"),
	} {
		wantNoRequest(t, what, b)
	}
	for n := range 400 {
		wantNoRequest(t, strconv.Itoa(n)+" bytes 0", make([]byte, n))
		wantNoRequest(t, strconv.Itoa(n)+" bytes 2", bytes.Repeat([]byte{2}, n))
		wantNoRequest(t, strconv.Itoa(n)+" bytes 255", bytes.Repeat([]byte{255}, n))
		if n != 6+1+64+2+1 { // a name and a body of one byte
			wantNoRequest(t, strconv.Itoa(n)+" bytes 1", bytes.Repeat([]byte{1}, n))
		}
	}
}

// P16.1: cut anywhere, or with more behind, and there is no request any more.
func TestOfRequestCutOff(t *testing.T) {
	hand, _ := requestByHand()
	for _, r := range []api.Request{{Kind: 1}, hand, ordinaryRequest(), goodRequests()["numbers of 2^63"], goodRequests()["a name of 64 bytes"]} {
		b := plainRequest(r)
		for n := range b {
			wantNoRequest(t, strconv.Itoa(n)+" bytes", b[:n:n])
			wantNoRequest(t, strconv.Itoa(n)+" bytes, and others behind them", b[:n])
			wantNoRequest(t, "without the first "+strconv.Itoa(n+1), b[n+1:])
		}
		wantNoRequest(t, "a byte more", append(slices.Clone(b), 0))
		wantNoRequest(t, "all of it twice", append(slices.Clone(b), b...))
		wantNoRequest(t, "a byte ahead", append([]byte{1}, b...))
	}
}

// P16.3: what was put is read as it was, and written again as the same bytes.
func TestRequestThereAndBack(t *testing.T) {
	for what, r := range goodRequests() {
		b, e := PutRequest(r)
		got, f := OfRequest(b)
		if e != api.OK || f != api.OK || !alikeRequests(got, r) {
			t.Fatalf("%s: errors %d, %d", what, e, f)
		}
		if again, _ := PutRequest(got); !bytes.Equal(again, b) {
			t.Fatalf("%s: written otherwise the second time", what)
		}
	}
}

// checkRequestBytes holds OfRequest against another way to read, and what was read against what is written of it.
func checkRequestBytes(t *testing.T, b []byte) bool {
	t.Helper()
	want, is := lookRequest(b)
	got, e := OfRequest(b)
	if !is {
		if e != api.ErrWire || !zeroRequest(got) {
			t.Fatalf("read out of %x: %v, error %d", b, got, e)
		}
		return false
	}
	if e != api.OK || !alikeRequests(got, want) {
		t.Fatalf("not read out of %x: %v, error %d", b, want, e)
	}
	if again, e := PutRequest(got); e != api.OK || !bytes.Equal(again, b) {
		t.Fatalf("read out of %x, and written as %x, error %d", b, again, e)
	}
	return true
}

// P16.3: there is one way to write it, whichever byte is changed, left out or put between.
func TestOneWayToWriteARequest(t *testing.T) {
	read := 0
	hand, _ := requestByHand()
	for _, r := range []api.Request{{Kind: 1}, hand, ordinaryRequest(), {Client: 127, Seq: 128, Kind: 10, Tenant: 1 << 20, Name: "a", N: math.MaxUint64, Body: make([]byte, 127)}} {
		was := plainRequest(r)
		for i := range was {
			checkRequestBytes(t, slices.Delete(slices.Clone(was), i, i+1))
			for x := range 256 {
				b := slices.Clone(was)
				b[i] = byte(x)
				if checkRequestBytes(t, b) {
					read++
				}
				if got, e := OfRequest(b); e == api.OK && alikeRequests(got, r) != bytes.Equal(b, was) {
					t.Fatalf("%x and %x are read as one request", b, was)
				}
				checkRequestBytes(t, slices.Insert(slices.Clone(was), i, byte(x)))
			}
		}
	}
	if read < 1000 {
		t.Fatalf("only %d of the changed ones were read", read)
	}
}

// drawnRequest is any request that may be, most of them small.
func drawnRequest(d *rolls) api.Request {
	return api.Request{Client: uint32(d.number()), Seq: d.number(), Kind: 1 + d.below(10), Tenant: uint32(d.number()), Name: string(d.bytes(64)), Id: d.id(), Old: d.id(), N: d.number(), Body: d.bytes(200)}
}

// P16.3, P1: drawn ones there and back, and their bytes with some of them drawn anew.
func TestDrawnRequests(t *testing.T) {
	d := rolls(16)
	read := 0
	for range 3000 {
		r := drawnRequest(&d)
		b, e := PutRequest(r)
		if got, f := OfRequest(b); e != api.OK || f != api.OK || !alikeRequests(got, r) {
			t.Fatalf("%v: errors %d, %d", r, e, f)
		}
		for range 1 + d.below(3) {
			b[d.below(len(b))] = byte(d.below(256))
		}
		if checkRequestBytes(t, b) {
			read++
		}
		checkRequestBytes(t, d.bytes(120))
	}
	if read < 100 {
		t.Fatalf("only %d of the changed ones were read", read)
	}
}

// P2: PutRequest changes nothing that it is given, reads nothing behind a body's length, and answers memory of its own.
func TestPutRequestSharesNothing(t *testing.T) {
	for _, n := range []int{0, 1, 40, 1000} {
		all := sample(n + 3)
		r := ordinaryRequest()
		r.Body = all[:n]
		first, _ := PutRequest(r)
		second, e := PutRequest(r)
		if e != api.OK || cap(first) != len(first) || !bytes.Equal(all, sample(n+3)) {
			t.Fatalf("%d bytes: error %d, room for %d in %d", n, e, cap(first), len(first))
		}
		clear(first)
		want := ordinaryRequest()
		want.Body = sample(n)
		if !bytes.Equal(second, plainRequest(want)) || !bytes.Equal(all, sample(n+3)) {
			t.Fatalf("%d bytes: two answers share memory, or one with the body", n)
		}
		clear(all)
		if !bytes.Equal(second, plainRequest(want)) {
			t.Fatalf("%d bytes: an answer shares memory with the body", n)
		}
	}
}

// P2: OfRequest reads no byte behind the length, changes none, and keeps none.
func TestOfRequestSharesNothing(t *testing.T) {
	want := ordinaryRequest()
	all := append(plainRequest(want), 0xde, 0xad)
	kept := slices.Clone(all)
	b := all[:len(all)-2]
	first, _ := OfRequest(b)
	second, e := OfRequest(b)
	if e != api.OK || !alikeRequests(first, want) || !alikeRequests(second, want) || cap(first.Body) != len(first.Body) {
		t.Fatalf("error %d", e)
	}
	clear(first.Body)
	if !alikeRequests(second, want) || !bytes.Equal(all, kept) {
		t.Fatal("two answers share memory, or one with the bytes")
	}
	clear(all)
	if !alikeRequests(second, want) {
		t.Fatal("an answer shares memory with the bytes")
	}
}
