package dir

import (
	"bytes"
	"math"
	"slices"
	"strconv"
	"strings"
	"testing"

	"tabularium/api"
)

// sample is n bytes without a short period, so that a byte at a wrong place shows.
func sample(n int) []byte {
	out := make([]byte, n)
	x := uint32(1)
	for i := range out {
		x = x*1664525 + 1013904223
		out[i] = byte(x >> 24)
	}
	return out
}

// blob is an entry that may be, if its name may.
func blob(blind byte, name string) api.Entry {
	return api.Entry{Blind: api.Id{blind}, Name: name, Kind: api.KindBlob}
}

// many is n entries with rising Blinds and unlike names, which don't rise, and other fields of all kinds.
func many(n int) []api.Entry {
	out := make([]api.Entry, n)
	for i := range out {
		b := sample(64 + i%50)[i%50:]
		out[i] = api.Entry{
			Blind: api.Id{byte(i >> 8), byte(i), 31: byte(255 - i)},
			Name:  "n" + strconv.Itoa(i*7919%10007),
			Kind:  []int{api.KindBlob, api.KindDir, api.KindMount}[i%3],
			Id:    api.Id(b[:32]),
			Key:   api.Key(b[32:]),
			Realm: uint32(i * i * 31),
			Epoch: uint32(i) * 0x01000193,
		}
	}
	return out
}

// changed is l, in other memory, with one entry changed.
func changed(l []api.Entry, at int, change func(e *api.Entry)) []api.Entry {
	out := slices.Clone(l)
	change(&out[at])
	return out
}

// goodLists are such as may stand in a directory, ordinary ones and those at the edges.
func goodLists() map[string][]api.Entry {
	var most api.Id
	for i := range most {
		most[i] = 0xff
	}
	return map[string][]api.Entry{
		"nil":                       nil,
		"nothing":                   {},
		"one":                       {blob(1, "a")},
		"a Blind of noughts":        {blob(0, "a")},
		"the least and the most":    {blob(0, "a"), {Blind: most, Name: "b", Kind: api.KindDir}},
		"names that fall":           {blob(1, "c"), blob(2, "b"), blob(3, "a")},
		"all kinds":                 {{Blind: api.Id{1}, Name: "a", Kind: api.KindMount}, {Blind: api.Id{2}, Name: "b", Kind: api.KindDir}, {Blind: api.Id{3}, Name: "c", Kind: api.KindBlob}},
		"one Id, Key and all else":  {{Blind: api.Id{1}, Name: "a", Kind: 2, Id: api.Id{9}, Key: api.Key{8}, Realm: 7, Epoch: 6}, {Blind: api.Id{2}, Name: "b", Kind: 2, Id: api.Id{9}, Key: api.Key{8}, Realm: 7, Epoch: 6}},
		"the last byte alone rises": {{Blind: api.Id{31: 1}, Name: "b", Kind: 1}, {Blind: api.Id{31: 2}, Name: "a", Kind: 1}},
		"bytes above 127":           {blob(0x7f, "\xff"), blob(0x80, "ä"), blob(0xff, "名前")},
		"names that begin alike":    {blob(1, "a"), blob(2, "aa"), blob(3, "A"), blob(4, "a.")},
		"a name of 64 bytes":        {blob(1, strings.Repeat("x", 64)), blob(2, strings.Repeat("x", 63))},
		"the greatest numbers":      {{Blind: most, Name: "a", Kind: api.KindMount, Id: most, Key: api.Key(most), Realm: math.MaxUint32, Epoch: math.MaxUint32}},
		"numbers of two bytes":      {{Name: "a", Kind: api.KindDir, Realm: 128, Epoch: 16383}, {Blind: most, Name: "b", Kind: api.KindDir, Realm: 127, Epoch: 16384}},
		"499":                       many(499),
		"500":                       many(500),
	}
}

// badLists are such as may not.
func badLists() map[string][]api.Entry {
	out := map[string][]api.Entry{
		"an entry of zero value":     {{}},
		"501":                        many(501),
		"5000":                       many(5000),
		"Blinds that fall":           {blob(2, "a"), blob(1, "b")},
		"two Blinds alike":           {blob(1, "a"), blob(1, "b")},
		"two Blinds of noughts":      {blob(0, "a"), blob(0, "b")},
		"the last Blind falls":       {blob(1, "a"), blob(2, "b"), blob(3, "c"), blob(2, "d")},
		"the last two Blinds alike":  {blob(1, "a"), blob(2, "b"), blob(3, "c"), blob(3, "d")},
		"the first two Blinds alike": {blob(1, "a"), blob(1, "b"), blob(2, "c"), blob(3, "d")},
		"falling in the last byte":   {{Blind: api.Id{31: 2}, Name: "a", Kind: 1}, {Blind: api.Id{31: 1}, Name: "b", Kind: 1}},
		"0x80 ahead of 0x7f":         {blob(0x80, "a"), blob(0x7f, "b")},
		"one entry twice":            {blob(1, "a"), blob(1, "a")},
		"one name, side by side":     {blob(1, "a"), blob(2, "a")},
		"one name, others between":   {blob(1, "b"), blob(2, "a"), blob(3, "c"), blob(4, "b")},
		"one name, three times":      {blob(1, "a"), blob(2, "a"), blob(3, "a")},
		"one name, of unlike kinds":  {blob(1, "a"), {Blind: api.Id{2}, Name: "a", Kind: api.KindDir}},
	}
	for _, kind := range badKinds() {
		out["kind "+strconv.Itoa(kind)] = []api.Entry{{Blind: api.Id{1}, Name: "a", Kind: kind}}
	}
	for _, name := range badNames() {
		out["name "+strconv.Quote(name)] = []api.Entry{blob(1, name)}
	}
	return out
}

func badKinds() []int {
	return []int{0, -1, -2, -4, api.KindCommit, 5, 8, 100, 255, 256 + api.KindBlob, 1<<32 + api.KindDir, math.MaxInt, math.MinInt, math.MinInt + api.KindBlob}
}

func badNames() []string {
	return []string{"", ".", "..", "/", "a/", "/a", "a/b", "\x00", "a\x00", "\x00a", strings.Repeat("x", 65), strings.Repeat("ä", 33), strings.Repeat("x", 100000)}
}

// P11.1: what may stand in a directory, and what may not.
func TestGood(t *testing.T) {
	for what, l := range goodLists() {
		if !Good(l) {
			t.Errorf("%s: not Good", what)
		}
	}
	for what, l := range badLists() {
		if Good(l) {
			t.Errorf("%s: Good", what)
		}
	}
}

// P11.1: each number of entries around 500.
func TestGoodOfManyEntries(t *testing.T) {
	for n := range 520 {
		if Good(many(n)) != (n <= 500) {
			t.Fatalf("%d entries", n)
		}
	}
}

// P11.1: Blinds rise by the first byte in which two are unlike, whichever it is and whatever is behind it.
func TestGoodHoldsBlindsByteByByte(t *testing.T) {
	for i := range 32 {
		low, high := api.Id(sample(32)), api.Id(sample(32))
		low[i], high[i] = 0x7f, 0x80
		for j := i + 1; j < 32; j++ {
			low[j], high[j] = 0xff, 0
		}
		a, b := api.Entry{Blind: low, Name: "a", Kind: 1}, api.Entry{Blind: high, Name: "b", Kind: 1}
		if !Good([]api.Entry{a, b}) || Good([]api.Entry{b, a}) {
			t.Fatalf("byte %d", i)
		}
	}
}

// P11.1: each two entries, wherever they stand, must have unlike names, and Blinds in their order.
func TestGoodLooksAtEachTwo(t *testing.T) {
	for _, n := range []int{2, 3, 10, 60} {
		l := many(n)
		for i := range n {
			for j := range i {
				if Good(changed(l, i, func(e *api.Entry) { e.Name = l[j].Name })) {
					t.Fatalf("of %d entries %d and %d have one name", n, j, i)
				}
				if Good(changed(l, i, func(e *api.Entry) { e.Blind = l[j].Blind })) {
					t.Fatalf("of %d entries %d and %d have one Blind", n, j, i)
				}
			}
		}
	}
	l := many(500)
	for _, i := range []int{1, 250, 499} {
		if Good(changed(l, i, func(e *api.Entry) { e.Name = l[0].Name })) {
			t.Fatalf("of 500 entries 0 and %d have one name", i)
		}
	}
}

// P11.1: each entry's kind and name are looked at, wherever it stands.
func TestGoodLooksAtEachEntry(t *testing.T) {
	l := many(12)
	for i := range l {
		for _, kind := range badKinds() {
			if Good(changed(l, i, func(e *api.Entry) { e.Kind = kind })) {
				t.Fatalf("entry %d of kind %d", i, kind)
			}
		}
		for _, name := range badNames() {
			if Good(changed(l, i, func(e *api.Entry) { e.Name = name })) {
				t.Fatalf("entry %d with name %.70q", i, name)
			}
		}
		if !Good(changed(l, i, func(e *api.Entry) { e.Id, e.Key, e.Realm, e.Epoch = api.Id{}, api.Key{}, 0, 0 })) {
			t.Fatalf("entry %d without all else", i)
		}
	}
}

// plainGood is Good, worked out otherwise.
func plainGood(l []api.Entry) bool {
	for i, e := range l {
		if e.Name == "" || e.Name == "." || e.Name == ".." || len(e.Name) > 64 || strings.ContainsAny(e.Name, "/\x00") {
			return false
		}
		if e.Kind < 1 || e.Kind > 4 || e.Kind == 3 {
			return false
		}
		for _, behind := range l[i+1:] {
			if string(behind.Blind[:]) <= string(e.Blind[:]) || behind.Name == e.Name {
				return false
			}
		}
	}
	return len(l) <= 500
}

// shortLists tells each list of up to n of the entries, each as often as it likes.
func shortLists(of []api.Entry, n int, tell func([]api.Entry)) {
	var grow func(l []api.Entry)
	grow = func(l []api.Entry) {
		tell(l)
		if len(l) == n {
			return
		}
		for _, e := range of {
			grow(append(l[:len(l):len(l)], e))
		}
	}
	grow(nil)
}

// mixed is entries of all these Blinds, names and kinds.
func mixed(blinds []byte, names []string, kinds []int) []api.Entry {
	var out []api.Entry
	for _, b := range blinds {
		for _, name := range names {
			for _, kind := range kinds {
				out = append(out, api.Entry{Blind: api.Id{b}, Name: name, Kind: kind, Id: api.Id{byte(len(out)) % 5}, Epoch: uint32(len(out))})
			}
		}
	}
	return out
}

// P11.1, P11.2, P11.4: each short list is taken as another way takes it; just the Good ones are written, and read again.
func TestGoodAndPutOverShortLists(t *testing.T) {
	good := 0
	look := func(l []api.Entry) {
		want := plainGood(l)
		if Good(l) != want {
			t.Fatalf("Good isn't %v: %v", want, l)
		}
		b, e := Put(l)
		if !want {
			if e != api.ErrDir || b != nil {
				t.Fatalf("error %d of %v", e, l)
			}
			wantNoEntries(t, "what may not be", plainPut(l))
			return
		}
		good++
		if got, f := Of(b); e != api.OK || f != api.OK || !bytes.Equal(b, plainPut(l)) || !slices.Equal(got, l) {
			t.Fatalf("errors %d, %d of %v", e, f, l)
		}
	}
	shortLists(mixed([]byte{0, 1, 0xff}, []string{"a", "b", ".", ""}, []int{1, 2, 3, 4}), 2, look)
	shortLists(mixed([]byte{0, 1, 0x80, 0xff}, []string{"a", "b", "c"}, []int{2}), 4, look)
	if good < 100 {
		t.Fatalf("only %d were Good", good)
	}
}

// plainNumber is x as chapter 8 writes it, worked out otherwise than codec does.
func plainNumber(x uint64) []byte {
	digits := []byte{}
	for {
		digits = append(digits, byte(x%128))
		x /= 128
		if x == 0 {
			break
		}
	}
	for i := range len(digits) - 1 {
		digits[i] += 128
	}
	return digits
}

// plainPut is the entries' bytes, refusing nothing.
func plainPut(l []api.Entry) []byte {
	out := plainNumber(uint64(len(l)))
	for _, e := range l {
		out = append(out, e.Blind[:]...)
		out = append(out, plainNumber(uint64(len(e.Name)))...)
		out = append(out, e.Name...)
		out = append(out, plainNumber(uint64(e.Kind))...)
		out = append(out, e.Id[:]...)
		out = append(out, e.Key[:]...)
		out = append(out, plainNumber(uint64(e.Realm))...)
		out = append(out, plainNumber(uint64(e.Epoch))...)
	}
	return out
}

// P11.2: the example of the document.
func TestPutOfNothing(t *testing.T) {
	for _, l := range [][]api.Entry{nil, {}} {
		if b, e := Put(l); e != api.OK || !bytes.Equal(b, []byte{0}) {
			t.Fatalf("%x, error %d", b, e)
		}
	}
	if l, e := Of([]byte{0}); e != api.OK || len(l) != 0 {
		t.Fatalf("%v, error %d", l, e)
	}
}

// byHand is two entries and their bytes, written out by hand.
func byHand() ([]api.Entry, []byte) {
	l := []api.Entry{
		{Blind: api.Id{31: 1}, Name: "name", Kind: api.KindMount, Id: api.Id{0: 2}, Key: api.Key{31: 3}, Realm: 300, Epoch: 5},
		{Blind: api.Id{0: 4}, Name: "b", Kind: api.KindDir, Id: api.Id{31: 6}, Key: api.Key{0: 7}, Realm: 127, Epoch: math.MaxUint32},
	}
	noughts := make([]byte, 31)
	return l, slices.Concat([]byte{2},
		noughts, []byte{1}, []byte{4, 'n', 'a', 'm', 'e', 4}, []byte{2}, noughts, noughts, []byte{3}, []byte{0xac, 2, 5},
		[]byte{4}, noughts, []byte{1, 'b', 2}, noughts, []byte{6}, []byte{7}, noughts, []byte{0x7f, 0xff, 0xff, 0xff, 0xff, 0x0f})
}

// P11.2: there and back by hand.
func TestPutAndOfByHand(t *testing.T) {
	l, want := byHand()
	if b, e := Put(l); e != api.OK || !bytes.Equal(b, want) {
		t.Fatalf("%x, error %d", b, e)
	}
	if got, e := Of(want); e != api.OK || !slices.Equal(got, l) {
		t.Fatalf("%v, error %d", got, e)
	}
}

// P11.2: their number, and each one's fields, one behind the other.
func TestPut(t *testing.T) {
	for what, l := range goodLists() {
		if b, e := Put(l); e != api.OK || !bytes.Equal(b, plainPut(l)) {
			t.Errorf("%s: %d bytes, error %d", what, len(b), e)
		}
	}
}

// P11.2, P4: what isn't Good is refused, and nothing is told beside the error.
func TestPutRefuses(t *testing.T) {
	for what, l := range badLists() {
		if b, e := Put(l); e != api.ErrDir || b != nil {
			t.Errorf("%s: %d bytes, error %d", what, len(b), e)
		}
	}
}

// P11.2: the entries with just these bytes.
func TestOf(t *testing.T) {
	for what, l := range goodLists() {
		if got, e := Of(plainPut(l)); e != api.OK || !slices.Equal(got, l) {
			t.Errorf("%s: %d entries, error %d", what, len(got), e)
		}
	}
}

func wantNoEntries(t *testing.T, what string, b []byte) {
	t.Helper()
	if l, e := Of(b); e != api.ErrDir || l != nil {
		t.Fatalf("%s: %d entries, error %d", what, len(l), e)
	}
}

// P11.2: nothing that isn't Good is read, though its bytes are well-formed.
func TestOfWhatMayNotBe(t *testing.T) {
	for what, l := range badLists() {
		wantNoEntries(t, what, plainPut(l))
	}
}

// oneEntry is the bytes of a list with one entry, of whose numbers each is given as bytes.
func oneEntry(number, length, kind, realm, epoch []byte) []byte {
	return slices.Concat(number, make([]byte, 32), length, []byte{'a'}, kind, make([]byte, 64), realm, epoch)
}

// P11.2: numbers that are in more bytes than need be, or greater than they may be, or not there.
func TestOfOtherNumbers(t *testing.T) {
	one, nought := []byte{1}, []byte{0}
	if l, e := Of(oneEntry(one, one, one, nought, nought)); e != api.OK || len(l) != 1 || l[0] != blob(0, "a") {
		t.Fatalf("%v, error %d", l, e)
	}
	longOne, longNought := []byte{0x81, 0}, []byte{0x80, 0}
	pow32 := []byte{0x80, 0x80, 0x80, 0x80, 0x10}
	most := []byte{0xff, 0xff, 0xff, 0xff, 0xff, 0xff, 0xff, 0xff, 0xff, 1}
	above := []byte{0xff, 0xff, 0xff, 0xff, 0xff, 0xff, 0xff, 0xff, 0xff, 2}
	onePow32 := []byte{0x81, 0x80, 0x80, 0x80, 0x10}
	for i, bad := range [][]byte{longOne, {0}, {2}, {0xf4, 3}, {0xf5, 3}, most, above, onePow32, nil} {
		wantNoEntries(t, "number "+strconv.Itoa(i), oneEntry(bad, one, one, nought, nought))
	}
	for i, bad := range [][]byte{longOne, {0}, {2}, {64}, {65}, most, above, onePow32, nil} {
		wantNoEntries(t, "length "+strconv.Itoa(i), oneEntry(one, bad, one, nought, nought))
	}
	for i, bad := range [][]byte{longOne, {0}, {3}, {5}, most, above, onePow32, nil} {
		wantNoEntries(t, "kind "+strconv.Itoa(i), oneEntry(one, one, bad, nought, nought))
	}
	for i, bad := range [][]byte{longNought, pow32, most, above, onePow32, nil} {
		wantNoEntries(t, "realm "+strconv.Itoa(i), oneEntry(one, one, one, bad, nought))
		wantNoEntries(t, "epoch "+strconv.Itoa(i), oneEntry(one, one, one, nought, bad))
	}
	wantNoEntries(t, "no entries, in two bytes", longNought)
}

// P11.2, P3, P1: bytes that are no entries'.
func TestOfOtherBytes(t *testing.T) {
	for what, b := range map[string][]byte{
		"nil":                      nil,
		"nothing":                  {},
		"a byte behind no entries": {0, 0},
		"one, that isn't there":    {1},
		"500, that aren't there":   {0xf4, 3},
		"501, that aren't there":   {0xf5, 3},
		"2^64 - 1 that aren't":     {0xff, 0xff, 0xff, 0xff, 0xff, 0xff, 0xff, 0xff, 0xff, 1},
		"a number that is cut":     {0x80},
		"bytes 0":                  make([]byte, 1000),
		"text":                     []byte("a directory"),
	} {
		wantNoEntries(t, what, b)
	}
	for n := range 300 {
		if n != 1+32+2+1+64+2 { // of which there is one entry, with the name \x01
			wantNoEntries(t, strconv.Itoa(n)+" bytes 1", bytes.Repeat([]byte{1}, n))
		}
		wantNoEntries(t, strconv.Itoa(n)+" bytes 255", bytes.Repeat([]byte{255}, n))
	}
}

// P11.2: cut anywhere, or with more behind, and there are no entries any more.
func TestOfCutOffBytes(t *testing.T) {
	hand, _ := byHand()
	for _, l := range [][]api.Entry{hand, many(1), many(5), goodLists()["all kinds"]} {
		b := plainPut(l)
		for n := range b {
			wantNoEntries(t, strconv.Itoa(n)+" bytes", b[:n:n])
			wantNoEntries(t, strconv.Itoa(n)+" bytes, and others behind them", b[:n])
		}
		wantNoEntries(t, "a byte more", append(slices.Clone(b), 0))
		wantNoEntries(t, "all of it twice", append(slices.Clone(b), b...))
		b[0]++
		wantNoEntries(t, "one entry told too many", b)
		b[0] -= 2
		wantNoEntries(t, "one entry told too few", b)
	}
}

// P11.4: Of of Put is the entries, and Put of that the same bytes.
func TestThereAndBack(t *testing.T) {
	for what, l := range goodLists() {
		b, e := Put(l)
		got, f := Of(b)
		if e != api.OK || f != api.OK || !slices.Equal(got, l) {
			t.Fatalf("%s: errors %d, %d", what, e, f)
		}
		if again, _ := Put(got); !bytes.Equal(again, b) {
			t.Fatalf("%s: written otherwise the second time", what)
		}
	}
}

// P11.2: one way to write them: whatever is read is written as just the bytes that were read, whichever byte is changed.
func TestOneWayToWriteEntries(t *testing.T) {
	read := 0
	hand, _ := byHand()
	for _, l := range [][]api.Entry{hand, nil, many(1), many(3)} {
		was := plainPut(l)
		for i := range was {
			for x := range 256 {
				b := slices.Clone(was)
				b[i] = byte(x)
				got, e := Of(b)
				if e != api.OK {
					continue
				}
				read++
				if again, e := Put(got); e != api.OK || !bytes.Equal(again, b) {
					t.Fatalf("read out of %x, and written as %x, error %d", b, again, e)
				}
				if slices.Equal(got, l) != bytes.Equal(b, was) {
					t.Fatalf("%x and %x are read as one list", b, was)
				}
			}
		}
	}
	if read < 1000 {
		t.Fatalf("only %d of the changed ones were read", read)
	}
}
