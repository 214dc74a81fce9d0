package wire

import (
	"bytes"
	"math"
	"slices"
	"strconv"
	"strings"
	"testing"

	"tabularium/api"
	"tabularium/codec"
)

// ordinaryReply has no part that is 0 or nothing, and no two numbers or names that are alike.
func ordinaryReply() api.Reply {
	return api.Reply{Client: 70000, Seq: 1 << 40, Err: api.ErrStale, Id: sampleIds(1)[0], N: 1 << 33, Body: sample(40), Names: []string{"main", "", "other", "a/b"}}
}

// goodReplies are such as may be, ordinary ones and those at the edges.
func goodReplies() map[string]api.Reply {
	return map[string]api.Reply{
		"nothing at all":          {},
		"empty lists":             {Body: []byte{}, Names: []string{}},
		"an ordinary one":         ordinaryReply(),
		"the client alone":        {Client: 1},
		"the Seq alone":           {Seq: 1},
		"the error alone":         {Err: 1},
		"the id alone":            {Id: api.Id{31: 1}},
		"the number alone":        {N: 1},
		"a body alone":            {Body: []byte{0}},
		"a name alone":            {Names: []string{"x"}},
		"a name of nothing":       {Names: []string{""}},
		"all of them one":         {Client: 1, Seq: 1, Err: 1, Id: api.Id{1}, N: 1, Body: []byte{1}, Names: []string{"\x01"}},
		"numbers of one byte":     {Client: 127, Seq: 127, Err: 127, N: 127},
		"numbers of two bytes":    {Client: 128, Seq: 16383, Err: 128, N: 128},
		"numbers of three bytes":  {Client: 16384, Seq: 16384, Err: 500, N: 16384},
		"numbers of 2^32":         {Client: math.MaxUint32, Seq: 1 << 32, Err: 999, N: 1 << 32},
		"numbers of 2^63":         {Seq: 1 << 63, Err: 1000, N: 1 << 63},
		"an error that isn't one": {Err: 77},
		"a body of 127 bytes":     {Body: sample(127)},
		"a body of 128 bytes":     {Body: sample(128)},
		"a body of 109,999 bytes": {Body: sample(109999)},
		"a body of 110,000 bytes": {Body: sample(110000)},
		"a reply in the body":     {Body: plainReply(ordinaryReply())},
		"a name of 63 bytes":      {Names: []string{longName(63)}},
		"a name of 64 bytes":      {Names: []string{"a", longName(64), "b"}},
		"32 letters of two bytes": {Names: []string{strings.Repeat("ä", 32)}},
		"bytes that are no runes": {Names: []string{"\xff\x80", "\x00", "/\n"}},
		"names alike, falling":    {Names: []string{"b", "a", "a"}},
		"127 names":               {Names: repeated("x", 127)},
		"128 names":               {Names: repeated("x", 128)},
		"999 names of nothing":    {Names: repeated("", 999)},
		"1000 names of nothing":   {Names: repeated("", 1000)},
		"1000 long names":         {Names: repeated(longName(64), 1000)},
		"all at the edge":         {Client: math.MaxUint32, Seq: math.MaxUint64, Err: 1000, Id: full(), N: math.MaxUint64, Body: bytes.Repeat([]byte{0xff}, 110000), Names: repeated(strings.Repeat("\xff", 64), 1000)},
	}
}

// badReplies are such as may not be.
func badReplies() map[string]api.Reply {
	most := goodReplies()["all at the edge"]
	most.Err = 1001
	out := map[string]api.Reply{
		"a body of 110,001 bytes":      {Body: sample(110001)},
		"a body of 110,002 bytes":      {Body: sample(110002)},
		"a body of 2^18 bytes":         {Body: sample(1 << 18)},
		"1001 names":                   {Names: repeated("x", 1001)},
		"1001 names of nothing":        {Names: repeated("", 1001)},
		"1002 names":                   {Names: repeated("x", 1002)},
		"2000 names":                   {Names: repeated("", 2000)},
		"2^16 and 10 names":            {Names: repeated("", 1<<16+10)},
		"a name of 65 bytes":           {Names: []string{longName(65)}},
		"the first of two":             {Names: []string{longName(65), "a"}},
		"the last of three":            {Names: []string{"a", longName(64), longName(65)}},
		"the last of 1000":             {Names: append(repeated("x", 999), longName(65))},
		"64 letters, 65 bytes":         {Names: []string{longName(63) + "ä"}},
		"33 letters of two bytes":      {Names: []string{strings.Repeat("ä", 33)}},
		"a name of 320 bytes":          {Names: []string{longName(256 + 64)}},
		"a long body and long names":   {Body: sample(110001), Names: repeated(longName(65), 1001)},
		"an error, all else at most":   most,
		"a long name, and a bad error": {Err: -1, Names: []string{longName(65)}},
	}
	for _, err := range []int{-1, -2, -1000, 1001, 1002, 2000, 1<<16 + 1, 1<<31 + 1, 1 << 32, 1<<32 + 1, math.MaxInt, math.MinInt, math.MinInt + 1} {
		r := ordinaryReply()
		r.Err = api.Errno(err)
		out["error "+strconv.Itoa(err)] = r
	}
	return out
}

// replyByHand is a reply and its bytes, written out by hand.
func replyByHand() (api.Reply, []byte) {
	r := api.Reply{Client: 3, Seq: 300, Err: api.ErrStale, Id: api.Id{0: 7, 31: 8}, N: 128, Body: []byte("body"), Names: []string{"a", "", "bc"}}
	return r, slices.Concat([]byte{2, 3, 0xac, 2, 0x98, 1, 7}, make([]byte, 30), []byte{8},
		[]byte{0x80, 1, 4, 'b', 'o', 'd', 'y', 3, 1, 'a', 0, 2, 'b', 'c'})
}

// P16.2: there and back by hand.
func TestReplyByHand(t *testing.T) {
	r, want := replyByHand()
	if b, e := PutReply(r); e != api.OK || !bytes.Equal(b, want) {
		t.Fatalf("%x, error %d", b, e)
	}
	if got, e := OfReply(want); e != api.OK || !alikeReplies(got, r) {
		t.Fatalf("%v, error %d", got, e)
	}
	least := append([]byte{2}, make([]byte, 3+32+3)...)
	if b, e := PutReply(api.Reply{}); e != api.OK || !bytes.Equal(b, least) {
		t.Fatalf("%x, error %d", b, e)
	}
}

// P16.2: the parts, one behind the other.
func TestPutReply(t *testing.T) {
	for what, r := range goodReplies() {
		if b, e := PutReply(r); e != api.OK || !bytes.Equal(b, plainReply(r)) {
			t.Errorf("%s: %d bytes, error %d", what, len(b), e)
		}
	}
}

// P16.2, P4: what may not be is refused, and nothing is told beside the error.
func TestPutReplyRefuses(t *testing.T) {
	for what, r := range badReplies() {
		if b, e := PutReply(r); e != api.ErrWire || b != nil {
			t.Errorf("%s: %d bytes, error %d", what, len(b), e)
		}
	}
}

// P16.2: the reply with just these bytes.
func TestOfReply(t *testing.T) {
	for what, r := range goodReplies() {
		got, e := OfReply(plainReply(r))
		if e != api.OK || !alikeReplies(got, r) || !slices.Equal(got.Names, r.Names) || !bytes.Equal(got.Body, r.Body) {
			t.Errorf("%s: error %d", what, e)
		}
	}
}

// P16.2: no reply that may not be is read, though its bytes are well-formed.
func TestOfReplyThatMayNotBe(t *testing.T) {
	for what, r := range badReplies() {
		wantNoReply(t, what, plainReply(r))
	}
}

// lookAtReply holds both calls against whether r may be.
func lookAtReply(t *testing.T, what string, r api.Reply, may bool) {
	t.Helper()
	b, e := PutReply(r)
	if !may {
		if e != api.ErrWire || b != nil {
			t.Fatalf("%s: error %d", what, e)
		}
		wantNoReply(t, what, plainReply(r))
		return
	}
	if got, f := OfReply(b); e != api.OK || f != api.OK || !alikeReplies(got, r) {
		t.Fatalf("%s: errors %d, %d", what, e, f)
	}
}

// P16.2: each error, each length of a name, and numbers of names and lengths of a body around the limits.
func TestEachReplyAroundTheLimits(t *testing.T) {
	for err := -300; err < 1300; err++ {
		lookAtReply(t, "error "+strconv.Itoa(err), api.Reply{Err: api.Errno(err), N: 1}, err >= 0 && err <= 1000)
	}
	for n := range 200 {
		lookAtReply(t, "a name of "+strconv.Itoa(n), api.Reply{Names: []string{"a", string(sample(n)), "b"}}, n <= 64)
		lookAtReply(t, "a body of "+strconv.Itoa(n), api.Reply{Body: sample(n)}, true)
	}
	for n := 109980; n < 110020; n++ {
		lookAtReply(t, "a body of "+strconv.Itoa(n), api.Reply{Body: sample(n)}, n <= 110000)
	}
	for n := range 1200 {
		lookAtReply(t, strconv.Itoa(n)+" names", api.Reply{Names: repeated("ab", n)}, n <= 1000)
	}
}

// P16.2: a name that is too long is found wherever it stands.
func TestALongNameAnywhere(t *testing.T) {
	for at := range 1000 {
		l := repeated("x", 1000)
		l[at] = longName(65)
		lookAtReply(t, "at "+strconv.Itoa(at), api.Reply{Names: l}, false)
	}
}

// P16.3: numbers at the edges of all lengths that a number may have.
func TestRepliesOfEachNumber(t *testing.T) {
	for bit := range 64 {
		for _, x := range []uint64{1<<bit - 1, 1 << bit, 1<<bit + 1} {
			lookAtReply(t, strconv.FormatUint(x, 10), api.Reply{Client: uint32(x), Seq: x, Err: api.Errno(x % 1001), N: ^x}, true)
		}
	}
}

// withReplyNumbers is a reply's bytes of which each number is given as bytes: its own kind, Client, Seq, Err, N, a body's length, how many names, a name's length.
func withReplyNumbers(n [8][]byte) []byte {
	return slices.Concat(n[0], n[1], n[2], n[3], make([]byte, 32), n[4], n[5], []byte{'b'}, n[6], n[7], []byte{'a'})
}

// P16.2, P16.3: numbers that are in more bytes than need be, or greater than they may be, or not there.
func TestOfReplyWithOtherNumbers(t *testing.T) {
	one := []byte{1}
	ones := [8][]byte{{2}, one, one, one, one, one, one, one}
	if r, e := OfReply(withReplyNumbers(ones)); e != api.OK || !alikeReplies(r, api.Reply{Client: 1, Seq: 1, Err: 1, N: 1, Body: []byte("b"), Names: []string{"a"}}) {
		t.Fatalf("%v, error %d", r, e)
	}
	others := otherNumbers()
	others["2 in two bytes"] = []byte{0x82, 0}
	for at := range ones {
		for what, b := range others {
			n := ones
			n[at] = b
			wantNoReply(t, "number "+strconv.Itoa(at)+": "+what, withReplyNumbers(n))
		}
	}
	for at, limit := range map[int]uint64{0: 2, 1: math.MaxUint32, 3: 1000} {
		n := ones
		n[at] = plainNumber(limit)
		if _, e := OfReply(withReplyNumbers(n)); e != api.OK {
			t.Fatalf("number %d at its greatest: error %d", at, e)
		}
		for _, more := range []uint64{1, 2, 1 << 32, 1 << 62, math.MaxUint64 - limit} {
			n[at] = plainNumber(limit + more)
			wantNoReply(t, "number "+strconv.Itoa(at)+" and "+strconv.FormatUint(more, 10), withReplyNumbers(n))
		}
	}
	for _, at := range []int{0, 5, 6, 7} { // 0 is no reply's beginning, and another length
		n := ones
		n[at] = []byte{0}
		wantNoReply(t, "number "+strconv.Itoa(at)+" is 0", withReplyNumbers(n))
	}
}

// P16.2: its first byte says that it is a reply; a request isn't one.
func TestOfReplyFirstByte(t *testing.T) {
	for _, r := range goodReplies() {
		b := plainReply(r)
		for x := range 256 {
			b[0] = byte(x)
			if _, e := OfReply(b); (e == api.OK) != (x == 2) {
				t.Fatalf("a reply that begins with %d: error %d", x, e)
			}
		}
	}
	for what, r := range goodRequests() {
		wantNoReply(t, what, plainRequest(r))
	}
}

// P16.2, P3, P1: bytes that are no reply's.
func TestOfReplyOfOtherBytes(t *testing.T) {
	head := append([]byte{2}, make([]byte, 3+32+2)...)
	for what, b := range map[string][]byte{
		"nil":                          nil,
		"nothing":                      {},
		"the first byte alone":         {2},
		"a number that is cut":         {2, 0x80},
		"no number of names":           head,
		"a name that isn't there":      append(slices.Clone(head), 1),
		"1000 that aren't there":       slices.Concat(head, plainNumber(1000)),
		"999 of 1000":                  slices.Concat(head, plainNumber(1000), make([]byte, 999)),
		"1001 of 1000":                 slices.Concat(head, plainNumber(1000), make([]byte, 1001)),
		"1001 that are there":          slices.Concat(head, plainNumber(1001), make([]byte, 1001)),
		"2^64 - 1 that aren't there":   slices.Concat(head, plainNumber(math.MaxUint64)),
		"a name that is cut":           slices.Concat(head, []byte{2, 1, 'a', 2, 'b'}),
		"a long name in the middle":    slices.Concat(head, []byte{3, 0, 65}, make([]byte, 66)),
		"a name's length in two bytes": slices.Concat(head, []byte{3, 0, 0x80, 0, 0}),
		"a body of 110,000 that isn't": slices.Concat(head[:len(head)-1], plainNumber(110000), []byte{0}),
		"text":                         []byte("here you are"),
	} {
		wantNoReply(t, what, b)
	}
	for n := range 400 {
		wantNoReply(t, strconv.Itoa(n)+" bytes 0", make([]byte, n))
		wantNoReply(t, strconv.Itoa(n)+" bytes 1", bytes.Repeat([]byte{1}, n))
		wantNoReply(t, strconv.Itoa(n)+" bytes 255", bytes.Repeat([]byte{255}, n))
		if n != 4+32+1+3+1+6 { // a body of two bytes, two names of two bytes
			wantNoReply(t, strconv.Itoa(n)+" bytes 2", bytes.Repeat([]byte{2}, n))
		}
	}
}

// P16.2: cut anywhere, or with more behind, and there is no reply any more.
func TestOfReplyCutOff(t *testing.T) {
	hand, _ := replyByHand()
	for _, r := range []api.Reply{{}, hand, ordinaryReply(), goodReplies()["numbers of 2^63"], goodReplies()["a name of 64 bytes"], goodReplies()["128 names"]} {
		b := plainReply(r)
		for n := range b {
			wantNoReply(t, strconv.Itoa(n)+" bytes", b[:n:n])
			wantNoReply(t, strconv.Itoa(n)+" bytes, and others behind them", b[:n])
			checkReplyBytes(t, b[n+1:])
		}
		wantNoReply(t, "a byte more", append(slices.Clone(b), 0))
		wantNoReply(t, "all of it twice", append(slices.Clone(b), b...))
		wantNoReply(t, "a byte ahead", append([]byte{2}, b...))
	}
}

// P16.3: what was put is read as it was, and written again as the same bytes.
func TestReplyThereAndBack(t *testing.T) {
	for what, r := range goodReplies() {
		b, e := PutReply(r)
		got, f := OfReply(b)
		if e != api.OK || f != api.OK || !alikeReplies(got, r) || !SameReply(got, r) {
			t.Fatalf("%s: errors %d, %d", what, e, f)
		}
		if again, _ := PutReply(got); !bytes.Equal(again, b) {
			t.Fatalf("%s: written otherwise the second time", what)
		}
	}
}

// checkReplyBytes holds OfReply against another way to read, and what was read against what is written of it.
func checkReplyBytes(t *testing.T, b []byte) bool {
	t.Helper()
	want, is := lookReply(b)
	got, e := OfReply(b)
	if !is {
		if e != api.ErrWire || !zeroReply(got) {
			t.Fatalf("read out of %x: %v, error %d", b, got, e)
		}
		return false
	}
	if e != api.OK || !alikeReplies(got, want) {
		t.Fatalf("not read out of %x: %v, error %d", b, want, e)
	}
	if again, e := PutReply(got); e != api.OK || !bytes.Equal(again, b) {
		t.Fatalf("read out of %x, and written as %x, error %d", b, again, e)
	}
	return true
}

// P16.3: there is one way to write it, whichever byte is changed, left out or put between.
func TestOneWayToWriteAReply(t *testing.T) {
	read := 0
	hand, _ := replyByHand()
	for _, r := range []api.Reply{{}, hand, ordinaryReply(), {Client: 127, Seq: 128, Err: 1000, N: math.MaxUint64, Body: make([]byte, 127), Names: repeated("", 20)}} {
		was := plainReply(r)
		for i := range was {
			checkReplyBytes(t, slices.Delete(slices.Clone(was), i, i+1))
			for x := range 256 {
				b := slices.Clone(was)
				b[i] = byte(x)
				if checkReplyBytes(t, b) {
					read++
				}
				if got, e := OfReply(b); e == api.OK && SameReply(got, r) != bytes.Equal(b, was) {
					t.Fatalf("%x and %x are read as one reply", b, was)
				}
				checkReplyBytes(t, slices.Insert(slices.Clone(was), i, byte(x)))
			}
		}
	}
	if read < 1000 {
		t.Fatalf("only %d of the changed ones were read", read)
	}
}

// drawnReply is any reply that may be, most of them small.
func drawnReply(d *rolls) api.Reply {
	r := api.Reply{Client: uint32(d.number()), Seq: d.number(), Err: api.Errno(d.below(1001)), Id: d.id(), N: d.number(), Body: d.bytes(200)}
	for range d.below(12) {
		r.Names = append(r.Names, string(d.bytes(64)))
	}
	return r
}

// P16.3, P1: drawn ones there and back, and their bytes with some of them drawn anew.
func TestDrawnReplies(t *testing.T) {
	d := rolls(16)
	read := 0
	for range 3000 {
		r := drawnReply(&d)
		b, e := PutReply(r)
		if got, f := OfReply(b); e != api.OK || f != api.OK || !alikeReplies(got, r) {
			t.Fatalf("%v: errors %d, %d", r, e, f)
		}
		for range 1 + d.below(3) {
			b[d.below(len(b))] = byte(d.below(256))
		}
		if checkReplyBytes(t, b) {
			read++
		}
		checkReplyBytes(t, d.bytes(120))
	}
	if read < 100 {
		t.Fatalf("only %d of the changed ones were read", read)
	}
}

// variants are replies no two of which are alike, most of them but for a part like another one.
func variants() []api.Reply {
	out := []api.Reply{{}}
	change := func(change func(r *api.Reply)) {
		r := ordinaryReply()
		change(&r)
		out = append(out, r)
	}
	change(func(r *api.Reply) {})
	change(func(r *api.Reply) { r.Client++ })
	change(func(r *api.Reply) { r.Client = math.MaxUint32 })
	change(func(r *api.Reply) { r.Seq++ })
	change(func(r *api.Reply) { r.Seq += 1 << 32 })
	change(func(r *api.Reply) { r.Seq, r.N = r.N, r.Seq })
	change(func(r *api.Reply) { r.Err = api.OK })
	change(func(r *api.Reply) { r.Err = -1 })
	change(func(r *api.Reply) { r.Err = 1001 })
	change(func(r *api.Reply) { r.Err = math.MinInt })
	change(func(r *api.Reply) { r.Err += 1 << 32 })
	change(func(r *api.Reply) { r.Id[0]++ })
	change(func(r *api.Reply) { r.Id[31]++ })
	change(func(r *api.Reply) { r.Id = api.Id{} })
	change(func(r *api.Reply) { r.N++ })
	change(func(r *api.Reply) { r.N = math.MaxUint64 })
	change(func(r *api.Reply) { r.Body = nil })
	change(func(r *api.Reply) { r.Body = r.Body[1:] })
	change(func(r *api.Reply) { r.Body = r.Body[:len(r.Body)-1] })
	change(func(r *api.Reply) { r.Body = append(r.Body, 0) })
	change(func(r *api.Reply) { r.Body[0]++ })
	change(func(r *api.Reply) { r.Body[39]++ })
	change(func(r *api.Reply) { r.Body = sample(110001) })
	change(func(r *api.Reply) { r.Body = sample(110002) })
	change(func(r *api.Reply) { r.Names = nil })
	change(func(r *api.Reply) { r.Names = []string{""} })
	change(func(r *api.Reply) { r.Names = r.Names[1:] })
	change(func(r *api.Reply) { r.Names = r.Names[:3] })
	change(func(r *api.Reply) { r.Names = append(r.Names, "") })
	change(func(r *api.Reply) { r.Names[0], r.Names[2] = r.Names[2], r.Names[0] })
	change(func(r *api.Reply) { r.Names[0], r.Names[1] = "", "main" })
	change(func(r *api.Reply) { r.Names[3] = "a/B" })
	change(func(r *api.Reply) { r.Names[3] = "a/b\x00" })
	change(func(r *api.Reply) { r.Names = []string{strings.Join(r.Names, "")} })
	change(func(r *api.Reply) { r.Names[0] = longName(65) })
	change(func(r *api.Reply) { r.Names[0] = longName(66) })
	change(func(r *api.Reply) { r.Names = repeated("", 1001) })
	change(func(r *api.Reply) { r.Names = repeated("", 1002) })
	return out
}

// P16.2: all parts are alike, those of replies that may not be too.
func TestSameReply(t *testing.T) {
	a, b := variants(), variants()
	for i := range a {
		for j := range b {
			if SameReply(a[i], b[j]) != (i == j) {
				t.Fatalf("%d and %d: %v", i, j, i != j)
			}
		}
	}
}

// P16.2: each bit of the id, of the numbers, and of the first bytes of the body.
func TestSameReplyLooksAtEachBit(t *testing.T) {
	was := ordinaryReply()
	for bit := range 256 {
		for part := range 6 {
			r := ordinaryReply()
			switch part {
			case 0:
				r.Id[bit/8] ^= 1 << (bit % 8)
			case 1:
				r.Body[bit/8] ^= 1 << (bit % 8)
			case 2:
				r.Client ^= 1 << (bit % 32)
			case 3:
				r.Seq ^= 1 << (bit % 64)
			case 4:
				r.N ^= 1 << (bit % 64)
			case 5:
				r.Err ^= 1 << (bit % 63)
			}
			if SameReply(r, was) || SameReply(was, r) || !SameReply(r, r) {
				t.Fatalf("part %d, bit %d", part, bit)
			}
		}
	}
}

// P16.2, P3: nil lists and empty ones are the same.
func TestSameReplyOfNothing(t *testing.T) {
	empty := api.Reply{Body: []byte{}, Names: []string{}}
	if !SameReply(api.Reply{}, empty) || !SameReply(empty, api.Reply{}) || !SameReply(api.Reply{Body: []byte{}}, api.Reply{Names: []string{}}) {
		t.Fatal("nil and empty are told apart")
	}
	if SameReply(api.Reply{}, api.Reply{Names: []string{""}}) || SameReply(api.Reply{}, api.Reply{Body: []byte{0}}) {
		t.Fatal("an empty name is no name, or a byte 0 none")
	}
}

// roomy is r with other bytes and names behind its lists, which nobody may read or write.
func roomy(r api.Reply) api.Reply {
	r.Body = append(slices.Clone(r.Body), 0xde, 0xad)[:len(r.Body)]
	r.Names = append(slices.Clone(r.Names), "de", "ad")[:len(r.Names)]
	return r
}

// untouched fails if r, made by roomy of was, has changed or was written behind.
func untouched(t *testing.T, r, was api.Reply) {
	t.Helper()
	n, m := len(r.Body), len(r.Names)
	if !alikeReplies(r, was) {
		t.Fatal("an argument was changed")
	}
	if !slices.Equal(r.Body[n:n+2], []byte{0xde, 0xad}) || !slices.Equal(r.Names[m:m+2], []string{"de", "ad"}) {
		t.Fatal("written behind a list")
	}
}

// P2: PutReply and SameReply change nothing that they are given, and read nothing behind a list's length; answers are memory of their own.
func TestPutReplySharesNothing(t *testing.T) {
	for n := range 5 {
		was := ordinaryReply()
		was.Names = was.Names[:n]
		was.Body = was.Body[:n*10]
		r, s := roomy(was), roomy(was)
		s.Body[:n*10+1][n*10]++
		s.Names[:n+1][n] = "otherwise"
		if !SameReply(r, s) {
			t.Fatal("read behind a list")
		}
		r = roomy(was)
		first, _ := PutReply(r)
		second, e := PutReply(r)
		if e != api.OK || cap(first) != len(first) || !bytes.Equal(first, plainReply(was)) {
			t.Fatalf("error %d, room for %d in %d", e, cap(first), len(first))
		}
		clear(first)
		untouched(t, r, was)
		want := plainReply(was)
		clear(r.Body)
		clear(r.Names)
		if !bytes.Equal(second, want) {
			t.Fatal("two answers share memory, or one with an argument")
		}
	}
}

// P2: OfReply reads no byte behind the length, changes none, and keeps none.
func TestOfReplySharesNothing(t *testing.T) {
	for what, want := range goodReplies() {
		all := append(plainReply(want), 0xde, 0xad)
		kept := slices.Clone(all)
		b := all[:len(all)-2]
		first, _ := OfReply(b)
		second, e := OfReply(b)
		if e != api.OK || !alikeReplies(first, want) || !alikeReplies(second, want) {
			t.Fatalf("%s: error %d", what, e)
		}
		if cap(first.Body) != len(first.Body) || cap(first.Names) != len(first.Names) {
			t.Fatalf("%s: room behind an answer", what)
		}
		clear(first.Body)
		clear(first.Names)
		if !alikeReplies(second, want) || !bytes.Equal(all, kept) {
			t.Fatalf("%s: two answers share memory, or one with the bytes", what)
		}
		clear(all)
		if !alikeReplies(second, want) {
			t.Fatalf("%s: an answer shares memory with the bytes", what)
		}
	}
}

// P3: asked again, the same is answered.
func TestTheSameAgain(t *testing.T) {
	r, s := ordinaryReply(), ordinaryRequest()
	for range 3 {
		b, e := PutReply(r)
		got, f := OfReply(b)
		if e != api.OK || f != api.OK || !bytes.Equal(b, plainReply(r)) || !SameReply(got, r) {
			t.Fatalf("errors %d, %d", e, f)
		}
		c, e := PutRequest(s)
		back, f := OfRequest(c)
		if e != api.OK || f != api.OK || !bytes.Equal(c, plainRequest(s)) || !alikeRequests(back, s) {
			t.Fatalf("errors %d, %d", e, f)
		}
	}
}

// P16.2: the reader is left at the first name that isn't there, and not asked for all that are told to come.
func TestNamesAreLeftAtTheFirstFailure(t *testing.T) {
	for n := range 10 {
		b := slices.Concat(plainNumber(1000), bytes.Repeat(plainText("ab"), n), []byte{65})
		from := codec.Read(b)
		if got := nextNames(from); len(got) != n || from.End() != api.ErrCodec {
			t.Fatalf("%d names of %d, error %d", len(got), n, from.End())
		}
	}
	told := 0
	for range names(codec.Read(plainNumber(1000))) {
		told++
		break
	}
	if told != 1 {
		t.Fatalf("left behind the first, told %d", told)
	}
}
