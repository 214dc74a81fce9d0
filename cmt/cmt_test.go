package cmt

import (
	"bytes"
	"math"
	"slices"
	"strconv"
	"strings"
	"testing"

	"tabularium/api"
)

// sample is n bytes without a short period, so that a byte at a wrong place shows.
func sample(n int) []byte {
	out := make([]byte, n)
	x := uint32(1)
	for i := range out {
		x = x*1664525 + 1013904223
		out[i] = byte(x >> 24)
	}
	return out
}

// sampleIds is n ids, no two of them alike, in no order.
func sampleIds(n int) []api.Id {
	out := make([]api.Id, 0, n)
	for b := range slices.Chunk(sample(32*n), 32) {
		out = append(out, api.Id(b))
	}
	return out
}

// full is each byte of an id or a key at its greatest.
func full() [32]byte {
	var out [32]byte
	for i := range out {
		out[i] = 0xff
	}
	return out
}

// ordinary is a commit of which no part is noughts, and no two of them are alike.
func ordinary() api.Commit {
	ids := sampleIds(4)
	return api.Commit{Parents: []api.Id{ids[2], ids[1]}, Root: ids[0], Key: api.Key(ids[3]), Seq: 1 << 40, Author: 70000, Text: "what was done\nand why"}
}

// goodCommits are such as may be, ordinary ones and those at the edges.
func goodCommits() map[string]api.Commit {
	return map[string]api.Commit{
		"nothing at all":          {},
		"an empty list":           {Parents: []api.Id{}},
		"an ordinary one":         ordinary(),
		"one parent":              {Parents: []api.Id{{1}}, Root: api.Id{2}, Key: api.Key{3}, Seq: 4, Author: 5, Text: "6"},
		"rising parents":          {Parents: []api.Id{{1}, {2}}},
		"falling parents":         {Parents: []api.Id{{2}, {1}}},
		"unlike in the last byte": {Parents: []api.Id{{31: 1}, {31: 2}}},
		"unlike in the first bit": {Parents: []api.Id{{0x80}, {}}},
		"a parent of noughts":     {Parents: []api.Id{{}}, Seq: 1},
		"the root is a parent":    {Parents: []api.Id{{7}, {8}}, Root: api.Id{7}, Key: api.Key{8}},
		"all one but the parents": {Parents: []api.Id{{9}}, Root: api.Id{9}, Key: api.Key{9}, Seq: 9, Author: 9, Text: "\t"},
		"the root alone":          {Root: api.Id{31: 1}},
		"the key alone":           {Key: api.Key{31: 1}},
		"the Seq alone":           {Seq: 1},
		"the author alone":        {Author: 1},
		"the text alone":          {Text: "x"},
		"numbers of one byte":     {Seq: 127, Author: 127},
		"numbers of two bytes":    {Seq: 128, Author: 16383},
		"numbers of three bytes":  {Seq: 16384, Author: 16384},
		"a Seq of 2^32":           {Seq: 1 << 32, Author: math.MaxUint32},
		"a Seq of 2^63":           {Seq: 1 << 63},
		"the greatest numbers":    {Parents: []api.Id{full(), {}}, Root: full(), Key: full(), Seq: math.MaxUint64, Author: math.MaxUint32, Text: "\xff"},
		"a text of 127 bytes":     {Text: strings.Repeat("x", 127)},
		"a text of 128 bytes":     {Text: strings.Repeat("x", 128)},
		"a text of 4095 bytes":    {Text: string(sample(4095))},
		"a text of 4096 bytes":    {Text: string(sample(4096))},
		"2048 letters of two":     {Text: strings.Repeat("ä", 2048)},
		"noughts in a text":       {Text: "\x00a\x00\x00"},
		"bytes that are no runes": {Text: "\xff\x80ab\xc3"},
		"all at the edge":         {Parents: sampleIds(2), Root: full(), Key: full(), Seq: math.MaxUint64, Author: math.MaxUint32, Text: strings.Repeat("\xff", 4096)},
	}
}

// badCommits are such as may not be.
func badCommits() map[string]api.Commit {
	return map[string]api.Commit{
		"3 parents":                   {Parents: sampleIds(3)},
		"4 parents":                   {Parents: sampleIds(4)},
		"1000 parents":                {Parents: sampleIds(1000)},
		"256 parents":                 {Parents: sampleIds(256)},
		"two alike":                   {Parents: []api.Id{{1}, {1}}, Root: api.Id{2}, Text: "x"},
		"two of noughts":              {Parents: []api.Id{{}, {}}},
		"two alike, of all bytes":     {Parents: []api.Id{sampleIds(1)[0], sampleIds(1)[0]}},
		"three alike":                 {Parents: []api.Id{{1}, {1}, {1}}},
		"3 with two alike":            {Parents: []api.Id{{1}, {2}, {1}}},
		"4097 bytes":                  {Text: strings.Repeat("x", 4097)},
		"4098 bytes":                  {Parents: sampleIds(2), Seq: 3, Text: strings.Repeat("x", 4098)},
		"4096 letters, 4097 bytes":    {Text: strings.Repeat("x", 4095) + "ä"},
		"2049 letters of two":         {Text: strings.Repeat("ä", 2049)},
		"4097 noughts":                {Text: strings.Repeat("\x00", 4097)},
		"100,000 bytes":               {Text: strings.Repeat("x", 100000)},
		"two alike and a long text":   {Parents: []api.Id{{1}, {1}}, Text: strings.Repeat("x", 4097)},
		"3 parents and a long text":   {Parents: sampleIds(3), Text: strings.Repeat("x", 4097)},
		"65,536 and some more":        {Text: strings.Repeat("x", 65536+4)},
		"two alike, all else at most": {Parents: []api.Id{full(), full()}, Root: full(), Key: full(), Seq: math.MaxUint64, Author: math.MaxUint32, Text: strings.Repeat("x", 4096)},
	}
}

// plainNumber is x as chapter 8 writes it, worked out otherwise than codec does.
func plainNumber(x uint64) []byte {
	digits := []byte{}
	for {
		digits = append(digits, byte(x%128))
		x /= 128
		if x == 0 {
			break
		}
	}
	for i := range len(digits) - 1 {
		digits[i] += 128
	}
	return digits
}

// plainPut is c's bytes, refusing nothing.
func plainPut(c api.Commit) []byte {
	out := plainNumber(uint64(len(c.Parents)))
	for _, p := range c.Parents {
		out = append(out, p[:]...)
	}
	out = append(out, c.Root[:]...)
	out = append(out, c.Key[:]...)
	out = append(out, plainNumber(c.Seq)...)
	out = append(out, plainNumber(uint64(c.Author))...)
	out = append(out, plainNumber(uint64(len(c.Text)))...)
	return append(out, c.Text...)
}

// alike is Same, worked out otherwise.
func alike(a, b api.Commit) bool {
	return bytes.Equal(plainPut(a), plainPut(b))
}

func isZero(c api.Commit) bool {
	return c.Parents == nil && c.Root == api.Id{} && c.Key == api.Key{} && c.Seq == 0 && c.Author == 0 && c.Text == ""
}

// byHand is a commit and its bytes, written out by hand.
func byHand() (api.Commit, []byte) {
	c := api.Commit{Parents: []api.Id{{0: 2}, {31: 1}}, Root: api.Id{0: 3}, Key: api.Key{31: 4}, Seq: 300, Author: 5, Text: "text"}
	noughts := make([]byte, 31)
	return c, slices.Concat([]byte{2},
		[]byte{2}, noughts, noughts, []byte{1},
		[]byte{3}, noughts, noughts, []byte{4},
		[]byte{0xac, 2, 5, 4, 't', 'e', 'x', 't'})
}

// P12.1: there and back by hand.
func TestPutAndOfByHand(t *testing.T) {
	c, want := byHand()
	if b, e := Put(c); e != api.OK || !bytes.Equal(b, want) {
		t.Fatalf("%x, error %d", b, e)
	}
	if got, e := Of(want); e != api.OK || !alike(got, c) {
		t.Fatalf("%v, error %d", got, e)
	}
	if b, e := Put(api.Commit{}); e != api.OK || !bytes.Equal(b, make([]byte, 1+32+32+3)) {
		t.Fatalf("%x, error %d", b, e)
	}
}

// P12.1: the parts, one behind the other.
func TestPut(t *testing.T) {
	for what, c := range goodCommits() {
		if b, e := Put(c); e != api.OK || !bytes.Equal(b, plainPut(c)) {
			t.Errorf("%s: %d bytes, error %d", what, len(b), e)
		}
	}
}

// P12.1, P4: what may not be is refused, and nothing is told beside the error.
func TestPutRefuses(t *testing.T) {
	for what, c := range badCommits() {
		if b, e := Put(c); e != api.ErrCommit || b != nil {
			t.Errorf("%s: %d bytes, error %d", what, len(b), e)
		}
	}
}

func wantNoCommit(t *testing.T, what string, b []byte) {
	t.Helper()
	if c, e := Of(b); e != api.ErrCommit || !isZero(c) {
		t.Fatalf("%s: %d parents, %d bytes of text, error %d", what, len(c.Parents), len(c.Text), e)
	}
}

// P12.1: each number of parents, and each length of a text around 4096.
func TestEachNumberAroundTheLimits(t *testing.T) {
	look := func(what string, c api.Commit, may bool) {
		b, e := Put(c)
		if (e == api.OK) != may {
			t.Fatalf("%s: error %d", what, e)
		}
		if !may {
			wantNoCommit(t, what, plainPut(c))
			return
		}
		if got, e := Of(b); e != api.OK || !alike(got, c) {
			t.Fatalf("%s: error %d", what, e)
		}
	}
	for n := range 20 {
		look(strconv.Itoa(n)+" parents", api.Commit{Parents: sampleIds(n)}, n <= 2)
	}
	for n := range 4200 {
		look(strconv.Itoa(n)+" bytes", api.Commit{Text: string(sample(n))}, n <= 4096)
	}
}

// P12.1: two parents are alike just if all bytes are.
func TestParentsAlikeInAllBytes(t *testing.T) {
	p := sampleIds(1)[0]
	for i := range 32 {
		for bit := range 8 {
			q := p
			q[i] ^= 1 << bit
			if _, e := Put(api.Commit{Parents: []api.Id{p, q}}); e != api.OK {
				t.Fatalf("byte %d, bit %d: error %d", i, bit, e)
			}
		}
		q := p
		q[i]++
		if b, e := Put(api.Commit{Parents: []api.Id{q, q}}); e != api.ErrCommit || b != nil {
			t.Fatalf("byte %d: error %d", i, e)
		}
	}
}

// P12.1: the commit with just these bytes.
func TestOf(t *testing.T) {
	for what, c := range goodCommits() {
		got, e := Of(plainPut(c))
		if e != api.OK || !slices.Equal(got.Parents, c.Parents) || got.Root != c.Root || got.Key != c.Key || got.Seq != c.Seq || got.Author != c.Author || got.Text != c.Text {
			t.Errorf("%s: error %d", what, e)
		}
	}
}

// P12.1: no commit that may not be is read, though its bytes are well-formed.
func TestOfWhatMayNotBe(t *testing.T) {
	for what, c := range badCommits() {
		wantNoCommit(t, what, plainPut(c))
	}
}

// withNumbers is the bytes of a commit with one parent and a text of one byte, of which each number is given as bytes.
func withNumbers(parents, seq, author, length []byte) []byte {
	return slices.Concat(parents, make([]byte, 96), seq, author, length, []byte{'a'})
}

// P12.1: numbers that are in more bytes than need be, or greater than they may be, or not there.
func TestOfOtherNumbers(t *testing.T) {
	one := []byte{1}
	if c, e := Of(withNumbers(one, one, one, one)); e != api.OK || !alike(c, api.Commit{Parents: make([]api.Id, 1), Seq: 1, Author: 1, Text: "a"}) {
		t.Fatalf("%v, error %d", c, e)
	}
	most := []byte{0xff, 0xff, 0xff, 0xff, 0xff, 0xff, 0xff, 0xff, 0xff, 1}
	above := []byte{0xff, 0xff, 0xff, 0xff, 0xff, 0xff, 0xff, 0xff, 0xff, 2}
	long := []byte{0x81, 0}
	longer := []byte{0x81, 0x80, 0}
	pow32 := []byte{0x80, 0x80, 0x80, 0x80, 0x10}
	onePow32 := []byte{0x81, 0x80, 0x80, 0x80, 0x10}
	if c, e := Of(withNumbers(one, most, []byte{0xff, 0xff, 0xff, 0xff, 0x0f}, one)); e != api.OK || c.Seq != math.MaxUint64 || c.Author != math.MaxUint32 {
		t.Fatalf("the greatest: %v, error %d", c, e)
	}
	for i, bad := range [][]byte{long, longer, {0}, {2}, {3}, most, above, pow32, onePow32, nil} {
		wantNoCommit(t, "parents "+strconv.Itoa(i), withNumbers(bad, one, one, one))
	}
	for i, bad := range [][]byte{long, longer, {0x80, 0}, above, nil} {
		wantNoCommit(t, "seq "+strconv.Itoa(i), withNumbers(one, bad, one, one))
	}
	for i, bad := range [][]byte{long, longer, {0x80, 0}, pow32, onePow32, most, above, nil} {
		wantNoCommit(t, "author "+strconv.Itoa(i), withNumbers(one, one, bad, one))
	}
	for i, bad := range [][]byte{long, longer, {0}, {2}, {0x80, 0x20}, {0x81, 0x20}, most, above, pow32, onePow32, nil} {
		wantNoCommit(t, "length "+strconv.Itoa(i), withNumbers(one, one, one, bad))
	}
}

// P12.1, P3, P1: bytes that are no commit's.
func TestOfOtherBytes(t *testing.T) {
	for what, b := range map[string][]byte{
		"nil":                          nil,
		"nothing":                      {},
		"no parents alone":             {0},
		"a parent that isn't there":    {1},
		"2 parents that aren't there":  {2, 1, 2, 3},
		"2^64 - 1 that aren't there":   {0xff, 0xff, 0xff, 0xff, 0xff, 0xff, 0xff, 0xff, 0xff, 1},
		"a number that is cut":         {0x80},
		"no parents, in two bytes":     append([]byte{0x80}, make([]byte, 68)...),
		"no text, in two bytes":        append(make([]byte, 67), 0x80, 0),
		"a text that isn't there":      append(make([]byte, 67), 1),
		"4096 bytes that aren't there": append(make([]byte, 67), 0x80, 0x20),
		"text":                         []byte("a revision"),
	} {
		wantNoCommit(t, what, b)
	}
	for n := range 300 {
		if n != 68 { // the commit without anything
			wantNoCommit(t, strconv.Itoa(n)+" bytes 0", make([]byte, n))
		}
		if n != 1+32+64+3+1 { // one parent, Seq 1, author 1, a text of one byte
			wantNoCommit(t, strconv.Itoa(n)+" bytes 1", bytes.Repeat([]byte{1}, n))
		}
		wantNoCommit(t, strconv.Itoa(n)+" bytes 2", bytes.Repeat([]byte{2}, n))
		wantNoCommit(t, strconv.Itoa(n)+" bytes 255", bytes.Repeat([]byte{255}, n))
	}
}

// P12.1: cut anywhere, or with more behind, and there is no commit any more.
func TestOfCutOffBytes(t *testing.T) {
	hand, _ := byHand()
	for _, c := range []api.Commit{{}, hand, ordinary(), goodCommits()["one parent"], goodCommits()["the greatest numbers"]} {
		b := plainPut(c)
		for n := range b {
			wantNoCommit(t, strconv.Itoa(n)+" bytes", b[:n:n])
			wantNoCommit(t, strconv.Itoa(n)+" bytes, and others behind them", b[:n])
		}
		wantNoCommit(t, "a byte more", append(slices.Clone(b), 0))
		wantNoCommit(t, "all of it twice", append(slices.Clone(b), b...))
		b[0]++
		wantNoCommit(t, "one parent told too many", b)
		b[0] -= 2
		wantNoCommit(t, "one parent told too few", b)
	}
}

// P12.3: Of of Put is the commit, and Put of that the same bytes.
func TestThereAndBack(t *testing.T) {
	for what, c := range goodCommits() {
		b, e := Put(c)
		got, f := Of(b)
		if e != api.OK || f != api.OK || !alike(got, c) || !Same(got, c) {
			t.Fatalf("%s: errors %d, %d", what, e, f)
		}
		if again, _ := Put(got); !bytes.Equal(again, b) {
			t.Fatalf("%s: written otherwise the second time", what)
		}
	}
}

// P12.3: numbers at the edges of all lengths that a number may have.
func TestThereAndBackOfEachNumber(t *testing.T) {
	for bit := range 64 {
		for _, seq := range []uint64{1<<bit - 1, 1 << bit, 1<<bit + 1} {
			c := api.Commit{Parents: []api.Id{{9}}, Seq: seq, Author: uint32(seq), Text: "x"}
			b, _ := Put(c)
			if got, e := Of(b); e != api.OK || got.Seq != seq || got.Author != uint32(seq) || !alike(got, c) {
				t.Fatalf("%d: %v, error %d", seq, got, e)
			}
		}
	}
}

// P12.1: just these bytes: whatever is read is written as the bytes that were read, whichever byte is changed.
func TestOneWayToWriteACommit(t *testing.T) {
	read := 0
	hand, _ := byHand()
	for _, c := range []api.Commit{{}, hand, ordinary(), goodCommits()["one parent"], {Parents: []api.Id{{}, {1}}, Text: strings.Repeat("x", 127)}} {
		was := plainPut(c)
		for i := range was {
			for x := range 256 {
				b := slices.Clone(was)
				b[i] = byte(x)
				got, e := Of(b)
				if e != api.OK {
					continue
				}
				read++
				if again, e := Put(got); e != api.OK || !bytes.Equal(again, b) {
					t.Fatalf("read out of %x, and written as %x, error %d", b, again, e)
				}
				if Same(got, c) != bytes.Equal(b, was) {
					t.Fatalf("%x and %x are read as one commit", b, was)
				}
			}
		}
	}
	if read < 1000 {
		t.Fatalf("only %d of the changed ones were read", read)
	}
}
