package envel

import (
	"bytes"
	"math"
	"slices"
	"strconv"
	"testing"

	"tabularium/api"
	"tabularium/suite"
	"tabularium/tape"
)

// sample is n bytes without a short period, so that a byte at a wrong place shows.
func sample(n int) []byte {
	out := make([]byte, n)
	x := uint32(1)
	for i := range out {
		x = x*1664525 + 1013904223
		out[i] = byte(x >> 24)
	}
	return out
}

// sampleIds is n ids, no two of them alike, in no order.
func sampleIds(n int) []api.Id {
	out := make([]api.Id, 0, n)
	for b := range slices.Chunk(sample(32*n), 32) {
		out = append(out, api.Id(b))
	}
	return out
}

// plainNumber is x as chapter 8 writes it, worked out otherwise than codec does.
func plainNumber(x uint64) []byte {
	digits := []byte{}
	for {
		digits = append(digits, byte(x%128))
		x /= 128
		if x == 0 {
			break
		}
	}
	for i := range len(digits) - 1 {
		digits[i] += 128
	}
	return digits
}

// plainHead is what stands ahead of the body, refusing nothing.
func plainHead(e api.Envelope) []byte {
	out := []byte{}
	for _, x := range []uint64{uint64(e.Kind), uint64(e.Realm), uint64(e.Epoch), uint64(len(e.Links))} {
		out = append(out, plainNumber(x)...)
	}
	for _, id := range e.Links {
		out = append(out, id[:]...)
	}
	return out
}

// plainPut is e's bytes, refusing nothing.
func plainPut(e api.Envelope) []byte {
	out := append(plainHead(e), plainNumber(uint64(len(e.Body)))...)
	return append(out, e.Body...)
}

func same(a, b api.Envelope) bool {
	return a.Kind == b.Kind && a.Realm == b.Realm && a.Epoch == b.Epoch && slices.Equal(a.Links, b.Links) && bytes.Equal(a.Body, b.Body)
}

func isZero(e api.Envelope) bool {
	return e.Kind == 0 && e.Realm == 0 && e.Epoch == 0 && e.Links == nil && e.Body == nil
}

// roomy is e with other ids and bytes behind its lists' lengths, which nobody may read or write.
func roomy(e api.Envelope) api.Envelope {
	e.Links = append(slices.Clone(e.Links), idsOf(0xde, 0xad)...)[:len(e.Links)]
	e.Body = append(slices.Clone(e.Body), 0xde, 0xad)[:len(e.Body)]
	return e
}

// untouched fails if e, made by roomy of was, has changed or was written behind.
func untouched(t *testing.T, e, was api.Envelope) {
	t.Helper()
	if !same(e, was) {
		t.Fatal("an argument was changed")
	}
	if n := len(e.Links); !slices.Equal(e.Links[n:n+2], idsOf(0xde, 0xad)) {
		t.Fatal("written behind the links")
	}
	if n := len(e.Body); !bytes.Equal(e.Body[n:n+2], []byte{0xde, 0xad}) {
		t.Fatal("written behind the body")
	}
}

// good are envelopes such as a host keeps, ordinary ones and those at the edges.
func good() map[string]api.Envelope {
	return map[string]api.Envelope{
		"a blob without all else":   {Kind: api.KindBlob},
		"a dir without all else":    {Kind: api.KindDir},
		"a commit without all else": {Kind: api.KindCommit},
		"empty lists":               {Kind: api.KindBlob, Links: []api.Id{}, Body: []byte{}},
		"a body":                    {Kind: api.KindBlob, Realm: 3, Epoch: 4, Body: []byte("body")},
		"links":                     {Kind: api.KindDir, Realm: 1, Epoch: 300, Links: idsOf(1, 2, 0xff), Body: []byte("ab")},
		"noughts":                   {Kind: api.KindDir, Links: []api.Id{{}}},
		"rising in the last byte":   {Kind: api.KindDir, Links: []api.Id{{31: 1}, {31: 2}}},
		"the greatest numbers":      {Kind: api.KindCommit, Realm: math.MaxUint32, Epoch: math.MaxUint32, Body: []byte{0}},
		"1000 links":                {Kind: api.KindDir, Realm: 128, Epoch: 127, Links: Links(sampleIds(1000)...), Body: sample(200)},
		"70,000 bytes":              {Kind: api.KindBlob, Realm: 16384, Epoch: 16383, Body: sample(70000)},
		"all at the edge":           {Kind: api.KindCommit, Realm: math.MaxUint32, Links: Links(sampleIds(1000)...), Body: make([]byte, 70000)},
	}
}

// bad are envelopes that may not be.
func bad() map[string]api.Envelope {
	out := map[string]api.Envelope{
		"nothing at all":         {},
		"no kind":                {Realm: 1, Epoch: 1, Body: []byte("x")},
		"two links alike":        {Kind: api.KindDir, Links: idsOf(1, 1)},
		"two noughts":            {Kind: api.KindDir, Links: []api.Id{{}, {}}},
		"falling links":          {Kind: api.KindBlob, Links: idsOf(2, 1)},
		"the last falls":         {Kind: api.KindBlob, Links: idsOf(1, 2, 3, 2)},
		"the last two alike":     {Kind: api.KindBlob, Links: idsOf(1, 2, 3, 3)},
		"the first two alike":    {Kind: api.KindBlob, Links: idsOf(1, 1, 2, 3)},
		"falling in between":     {Kind: api.KindCommit, Links: idsOf(1, 3, 2, 4)},
		"falls in the last byte": {Kind: api.KindCommit, Links: []api.Id{{31: 2}, {31: 1}}},
		"1001 links":             {Kind: api.KindDir, Links: Links(sampleIds(1001)...)},
		"70,001 bytes":           {Kind: api.KindBlob, Body: make([]byte, 70001)},
	}
	for _, kind := range []int{0, -1, -3, api.KindMount, 5, 100, 255, 256 + api.KindBlob, 1<<32 + api.KindDir, math.MaxInt, math.MinInt, math.MinInt + api.KindBlob} {
		out["kind "+strconv.Itoa(kind)] = api.Envelope{Kind: kind, Realm: 1, Epoch: 2, Links: idsOf(1), Body: []byte("x")}
	}
	return out
}

// P9.2: the example of the document.
func TestPutOfABlobWithoutAllElse(t *testing.T) {
	b, e := Put(api.Envelope{Kind: api.KindBlob})
	if e != api.OK || !bytes.Equal(b, []byte{1, 0, 0, 0, 0}) {
		t.Fatalf("%x, error %d", b, e)
	}
}

// P9.2: bytes that were written out by hand.
func TestPutByHand(t *testing.T) {
	e := api.Envelope{Kind: api.KindDir, Realm: 1, Epoch: 300, Links: []api.Id{{31: 9}, {0: 8}}, Body: []byte("body")}
	want := []byte{2, 1, 0xac, 2, 2}
	want = append(append(want, make([]byte, 31)...), 9)
	want = append(append(want, 8), make([]byte, 31)...)
	want = append(want, 4, 'b', 'o', 'd', 'y')
	b, bad := Put(e)
	if bad != api.OK || !bytes.Equal(b, want) {
		t.Fatalf("%x, error %d", b, bad)
	}
}

// P9.2: the numbers, the ids and the text, one behind the other.
func TestPut(t *testing.T) {
	for what, e := range good() {
		b, bad := Put(e)
		if bad != api.OK || !bytes.Equal(b, plainPut(e)) {
			t.Fatalf("%s: %d bytes, error %d", what, len(b), bad)
		}
	}
}

// P9.2, P4: what may not be is refused, and nothing is told beside the error.
func TestPutRefuses(t *testing.T) {
	for what, e := range bad() {
		b, bad := Put(e)
		if bad != api.ErrEnvelope || b != nil {
			t.Fatalf("%s: %d bytes, error %d", what, len(b), bad)
		}
	}
}

func wantNoEnvelope(t *testing.T, what string, b []byte) {
	t.Helper()
	if e, bad := Of(b); bad != api.ErrEnvelope || !isZero(e) {
		t.Fatalf("%s: error %d, kind %d, %d links, %d bytes", what, bad, e.Kind, len(e.Links), len(e.Body))
	}
}

// P9.2: the envelope with just these bytes.
func TestOf(t *testing.T) {
	for what, e := range good() {
		got, bad := Of(plainPut(e))
		if bad != api.OK || !same(got, e) {
			t.Fatalf("%s: error %d, kind %d, %d links, %d bytes", what, bad, got.Kind, len(got.Links), len(got.Body))
		}
	}
}

// P9.2: no envelope that may not be is read, though its bytes are well-formed.
func TestOfWhatMayNotBe(t *testing.T) {
	for what, e := range bad() {
		wantNoEnvelope(t, what, plainPut(e))
	}
}

// P9.2, P3: bytes that are no envelope's.
func TestOfOtherBytes(t *testing.T) {
	for what, b := range map[string][]byte{
		"nil":                            nil,
		"nothing":                        {},
		"one byte":                       {1},
		"no body":                        {1, 0, 0, 0},
		"one byte more":                  {1, 0, 0, 0, 0, 0},
		"a kind in two bytes":            {0x81, 0, 0, 0, 0, 0},
		"a realm in two bytes":           {1, 0x80, 0, 0, 0, 0},
		"an epoch in two bytes":          {1, 0, 0x80, 0, 0, 0},
		"no links in two bytes":          {1, 0, 0, 0x80, 0, 0},
		"a body's length in two bytes":   {1, 0, 0, 0, 0x81, 0, 7},
		"a realm of 2^32":                {1, 0x80, 0x80, 0x80, 0x80, 0x10, 0, 0, 0},
		"a realm of 2^64 - 1":            {1, 0xff, 0xff, 0xff, 0xff, 0xff, 0xff, 0xff, 0xff, 0xff, 1, 0, 0, 0},
		"an epoch of 2^32":               {1, 0, 0x80, 0x80, 0x80, 0x80, 0x10, 0, 0},
		"a kind of 2^32 + 1":             {0x81, 0x80, 0x80, 0x80, 0x10, 0, 0, 0, 0},
		"a kind of 2^64 - 1":             {0xff, 0xff, 0xff, 0xff, 0xff, 0xff, 0xff, 0xff, 0xff, 1, 0, 0, 0, 0},
		"a link that isn't there":        {1, 0, 0, 1, 0},
		"2^63 links that aren't there":   {1, 0, 0, 0x80, 0x80, 0x80, 0x80, 0x80, 0x80, 0x80, 0x80, 0x80, 1, 0},
		"a body that isn't there":        {1, 0, 0, 0, 5, 1, 2, 3, 4},
		"2^64 - 1 bytes that aren't":     {1, 0, 0, 0, 0xff, 0xff, 0xff, 0xff, 0xff, 0xff, 0xff, 0xff, 0xff, 1},
		"bytes that are cut in a number": {1, 0, 0, 0, 0x80},
		"text":                           []byte("an envelope"),
	} {
		wantNoEnvelope(t, what, b)
	}
	if e, bad := Of([]byte{1, 0xff, 0xff, 0xff, 0xff, 0x0f, 0xff, 0xff, 0xff, 0xff, 0x0f, 0, 0}); bad != api.OK || e.Realm != math.MaxUint32 || e.Epoch != math.MaxUint32 {
		t.Fatalf("2^32 - 1 is refused: error %d", bad)
	}
}

// P9.2: one byte more, or cut anywhere, and there is no envelope any more.
func TestOfCutOffBytes(t *testing.T) {
	for _, e := range []api.Envelope{good()["links"], good()["the greatest numbers"], good()["a body"]} {
		b := plainPut(e)
		for n := range b {
			wantNoEnvelope(t, strconv.Itoa(n)+" bytes", b[:n:n])
			wantNoEnvelope(t, strconv.Itoa(n)+" bytes, and others behind them", b[:n])
		}
		wantNoEnvelope(t, "a byte more", append(slices.Clone(b), 0))
		wantNoEnvelope(t, "all of it twice", append(slices.Clone(b), b...))
	}
}

// P9.4: of Put is the envelope, of Of the bytes.
func TestThereAndBack(t *testing.T) {
	for what, e := range good() {
		b, bad := Put(e)
		got, f := Of(b)
		if bad != api.OK || f != api.OK || !same(got, e) {
			t.Fatalf("%s: errors %d, %d", what, bad, f)
		}
		if again, _ := Put(got); !bytes.Equal(again, b) {
			t.Fatalf("%s: written otherwise the second time", what)
		}
	}
}

// P9.4: one way to write it: whatever is read is written as just the bytes that were read, whichever byte is changed.
func TestOneWayToWriteAnEnvelope(t *testing.T) {
	read := 0
	for _, e := range []api.Envelope{{Kind: api.KindBlob}, {Kind: api.KindBlob, Realm: 300, Body: []byte{0}}, good()["links"], good()["a body"]} {
		was := plainPut(e)
		for i := range was {
			for x := range 256 {
				b := slices.Clone(was)
				b[i] = byte(x)
				got, bad := Of(b)
				if bad != api.OK {
					continue
				}
				read++
				if again, bad := Put(got); bad != api.OK || !bytes.Equal(again, b) {
					t.Fatalf("read out of %x, and written as %x, error %d", b, again, bad)
				}
				if same(got, e) != bytes.Equal(b, was) {
					t.Fatalf("%x and %x are read as one envelope", b, was)
				}
			}
		}
	}
	if read < 1000 {
		t.Fatalf("only %d of the changed ones were read", read)
	}
}

// P9.4: all short byte strings of a few bytes at the edges.
func TestOneWayOverShortBytes(t *testing.T) {
	edges := []byte{0, 1, 2, 3, 4, 0x7f, 0x80, 0x81, 0xff}
	var grow func(b []byte)
	grow = func(b []byte) {
		if got, bad := Of(b); bad == api.OK {
			if again, bad := Put(got); bad != api.OK || !bytes.Equal(again, b) {
				t.Fatalf("read out of %x, and written as %x, error %d", b, again, bad)
			}
		} else if !isZero(got) {
			t.Fatalf("%x: something is told beside error %d", b, bad)
		}
		if len(b) == 6 {
			return
		}
		for _, x := range edges {
			grow(append(b[:len(b):len(b)], x))
		}
	}
	grow(nil)
}

// P9.4: unlike envelopes are written as unlike bytes.
func TestUnlikeEnvelopesHaveUnlikeBytes(t *testing.T) {
	met := map[string]string{}
	for what, e := range good() {
		if what == "empty lists" { // the same as a blob without all else
			continue
		}
		b, _ := Put(e)
		if other, is := met[string(b)]; is {
			t.Fatalf("%s and %s are written alike", what, other)
		}
		met[string(b)] = what
	}
}

// suites are a real suite and an ideal one, with draws enough.
func suites() map[string]*suite.Suite {
	return map[string]*suite.Suite{
		"real":  suite.New(api.Real, nil),
		"ideal": suite.New(api.Ideal, tape.New(sample(4096))),
	}
}

// P9.3: the digest of Put, and Put's bytes.
func TestId(t *testing.T) {
	for mode, s := range suites() {
		for what, e := range good() {
			id, b, bad := Id(s, e)
			want, _ := s.Digest(plainPut(e))
			if bad != api.OK || id != want || !bytes.Equal(b, plainPut(e)) {
				t.Fatalf("%s, %s: %x, %d bytes, error %d", mode, what, id, len(b), bad)
			}
			if again, _, _ := Id(s, e); again != id {
				t.Fatalf("%s, %s: %x the second time", mode, what, again)
			}
		}
	}
}

// P9.3: an ideal id is the next 32 bytes of the tape, and its digest is drawn once alone.
func TestIdIsDrawnOnce(t *testing.T) {
	draws := tape.New(sample(100))
	s := suite.New(api.Ideal, draws)
	for range 3 {
		if id, _, bad := Id(s, api.Envelope{Kind: api.KindBlob}); bad != api.OK || !bytes.Equal(id[:], sample(32)) || draws.Left() != 68 {
			t.Fatalf("%x, error %d, %d left", id, bad, draws.Left())
		}
	}
}

func wantNoId(t *testing.T, s *suite.Suite, e api.Envelope, want api.Errno) {
	t.Helper()
	if id, b, bad := Id(s, e); bad != want || id != (api.Id{}) || b != nil {
		t.Fatalf("%x, %d bytes, error %d instead of %d", id, len(b), bad, want)
	}
}

// P9.3, P4: Put's error, ahead of any that a suite may tell; nothing is drawn for it.
func TestIdOfWhatMayNotBe(t *testing.T) {
	draws := tape.New(sample(100))
	for _, s := range []*suite.Suite{suite.New(api.Real, nil), suite.New(api.Ideal, draws), suite.New(api.Ideal, nil), {}, nil} {
		for _, e := range bad() {
			wantNoId(t, s, e, api.ErrEnvelope)
		}
	}
	if draws.Left() != 100 {
		t.Fatalf("%d left", draws.Left())
	}
}

// P9.3, P1: the digest's error: no draws are left, nobody made the suite, another text has the digest.
func TestIdWithoutADigest(t *testing.T) {
	e := api.Envelope{Kind: api.KindBlob, Body: []byte("x")}
	wantNoId(t, suite.New(api.Ideal, nil), e, api.ErrEntropy)
	wantNoId(t, suite.New(api.Ideal, tape.New(sample(31))), e, api.ErrEntropy)
	wantNoId(t, nil, e, api.ErrRange)
	wantNoId(t, &suite.Suite{}, e, api.ErrRange)
	s := suite.New(api.Ideal, tape.New(make([]byte, 64)))
	if id, _, bad := Id(s, e); bad != api.OK || id != (api.Id{}) {
		t.Fatalf("%x, error %d", id, bad)
	}
	wantNoId(t, s, api.Envelope{Kind: api.KindDir}, api.ErrCollision)
	a, b, is := s.Clash()
	if !is || !bytes.Equal(a, plainPut(e)) || !bytes.Equal(b, []byte{2, 0, 0, 0, 0}) {
		t.Fatalf("%x, %x, %v", a, b, is)
	}
}

// P9.3: the numbers and the ids, without the body, and nothing is refused.
func TestAd(t *testing.T) {
	for _, list := range []map[string]api.Envelope{good(), bad()} {
		for what, e := range list {
			if got := Ad(e); !bytes.Equal(got, plainHead(e)) {
				t.Fatalf("%s: %x", what, got)
			}
		}
	}
	if got := Ad(api.Envelope{Kind: api.KindDir, Realm: 300, Epoch: 5, Body: []byte("x")}); !bytes.Equal(got, []byte{2, 0xac, 2, 5, 0}) {
		t.Fatalf("%x", got)
	}
}

// P9.3: a body opens below the kind, realm, epoch and links that it was sealed with, and below no others.
func TestABodyOpensInItsEnvelopeAlone(t *testing.T) {
	s, k := suite.New(api.Real, nil), api.Key{7}
	e := api.Envelope{Kind: api.KindDir, Realm: 1, Epoch: 2, Links: idsOf(1, 2)}
	ct, bad := s.Seal(k, Ad(e), []byte("text"))
	if bad != api.OK {
		t.Fatal(bad)
	}
	e.Body = ct
	if text, bad := s.Open(k, Ad(e), e.Body); bad != api.OK || string(text) != "text" {
		t.Fatalf("%q, error %d", text, bad)
	}
	for _, other := range []api.Envelope{
		{Kind: api.KindCommit, Realm: 1, Epoch: 2, Links: idsOf(1, 2)},
		{Kind: api.KindDir, Realm: 2, Epoch: 2, Links: idsOf(1, 2)},
		{Kind: api.KindDir, Realm: 1, Epoch: 3, Links: idsOf(1, 2)},
		{Kind: api.KindDir, Realm: 1, Epoch: 2, Links: idsOf(1)},
		{Kind: api.KindDir, Realm: 1, Epoch: 2, Links: idsOf(1, 3)},
	} {
		if _, bad := s.Open(k, Ad(other), ct); bad != api.ErrAuth {
			t.Fatalf("opened in another envelope: error %d", bad)
		}
	}
}

// P2: what is handed in stays as it is, and what lies behind it is neither written nor told.
func TestArgumentsStayAsTheyAre(t *testing.T) {
	for what, was := range good() {
		e := roomy(was)
		b, _ := Put(e)
		_, c, _ := Id(suite.New(api.Real, nil), e)
		ad := Ad(e)
		if !bytes.Equal(b, plainPut(was)) || !bytes.Equal(c, plainPut(was)) || !bytes.Equal(ad, plainHead(was)) {
			t.Fatalf("%s: it hangs on what lies behind the lists", what)
		}
		untouched(t, e, was)
		long := append(slices.Clone(b), 0xde, 0xad)
		if got, bad := Of(long[:len(b)]); bad != api.OK || !same(got, was) || !bytes.Equal(long, append(slices.Clone(b), 0xde, 0xad)) {
			t.Fatalf("%s: error %d", what, bad)
		}
	}
}

// spoil writes over an answer, and over what may lie behind it.
func spoil(b []byte) {
	b = b[:cap(b)]
	for i := range b {
		b[i] ^= 0xff
	}
}

// P2: no answer shares memory with an argument, with what a suite keeps, or with another answer.
func TestAnswersShareNothing(t *testing.T) {
	was := good()["links"]
	e := roomy(was)
	s := suite.New(api.Real, nil)
	b, _ := Put(e)
	_, c, _ := Id(s, e)
	ad := Ad(e)
	if cap(b) != len(b) || cap(c) != len(c) || cap(ad) != len(ad) {
		t.Fatal("there is room behind an answer")
	}
	spoil(b)
	spoil(ad)
	if !bytes.Equal(c, plainPut(was)) {
		t.Fatal("two answers share memory")
	}
	spoil(c)
	untouched(t, e, was)
	if id, again, bad := Id(s, e); bad != api.OK || !bytes.Equal(again, plainPut(was)) || id == (api.Id{}) {
		t.Fatalf("what the suite keeps was changed: error %d", bad)
	}
	in := plainPut(was)
	got, _ := Of(in)
	other, _ := Of(in)
	if cap(got.Links) != len(got.Links) || cap(got.Body) != len(got.Body) {
		t.Fatal("there is room behind an envelope's lists")
	}
	spoil(got.Body)
	got.Links[0] = api.Id{0xee}
	if !same(other, was) || !bytes.Equal(in, plainPut(was)) {
		t.Fatal("an envelope shares memory with its bytes or with another one")
	}
	spoil(in)
	if !same(other, was) {
		t.Fatal("an envelope shares memory with its bytes")
	}
}
