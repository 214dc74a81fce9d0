package cmt

import (
	"bytes"
	"math"
	"slices"
	"strconv"
	"strings"
	"testing"
	"unsafe"

	"tabularium/api"
	"tabularium/envel"
)

// P12.2: the parents and the root, each once, rising, as envel has them.
func TestLinks(t *testing.T) {
	for i, x := range []struct {
		parents []api.Id
		root    api.Id
		want    []api.Id
	}{
		{nil, api.Id{}, []api.Id{{}}},
		{[]api.Id{}, api.Id{5}, []api.Id{{5}}},
		{[]api.Id{{1}}, api.Id{5}, []api.Id{{1}, {5}}},
		{[]api.Id{{9}}, api.Id{5}, []api.Id{{5}, {9}}},
		{[]api.Id{{5}}, api.Id{5}, []api.Id{{5}}},
		{[]api.Id{{2}, {1}}, api.Id{1}, []api.Id{{1}, {2}}},
		{[]api.Id{{2}, {1}}, api.Id{2}, []api.Id{{1}, {2}}},
		{[]api.Id{{3}, {1}}, api.Id{2}, []api.Id{{1}, {2}, {3}}},
		{[]api.Id{{1}, {3}}, api.Id{2}, []api.Id{{1}, {2}, {3}}},
		{[]api.Id{{1}, {2}}, api.Id{3}, []api.Id{{1}, {2}, {3}}},
		{[]api.Id{{2}, {3}}, api.Id{31: 1}, []api.Id{{31: 1}, {2}, {3}}},
		{[]api.Id{{31: 2}, {31: 1}}, api.Id{0x80}, []api.Id{{31: 1}, {31: 2}, {0x80}}},
		{[]api.Id{{}, {7}}, api.Id{7}, []api.Id{{}, {7}}},
		{[]api.Id{{1}, {1}}, api.Id{1}, []api.Id{{1}}},                          // no commit, but Links refuses none
		{[]api.Id{{4}, {2}, {4}, {3}}, api.Id{1}, []api.Id{{1}, {2}, {3}, {4}}}, // nor this one
	} {
		c := api.Commit{Parents: x.parents, Root: x.root, Key: api.Key{0xee}, Seq: 9, Author: 8, Text: strings.Repeat("x", 5000)}
		if got := Links(c); !slices.Equal(got, x.want) || !slices.Equal(got, envel.Links(append(slices.Clone(x.parents), x.root)...)) {
			t.Errorf("%d: %x", i, got)
		}
	}
}

// P12.2: of each number of parents, and as they must be for an envelope to have them.
func TestLinksOfManyParents(t *testing.T) {
	for _, n := range []int{0, 1, 2, 3, 10, 999, 5000} {
		ids := sampleIds(n + 1)
		got := Links(api.Commit{Parents: ids[1:], Root: ids[0]})
		slices.SortFunc(ids, func(a, b api.Id) int { return bytes.Compare(a[:], b[:]) })
		if !slices.Equal(got, ids) {
			t.Fatalf("%d links of %d parents", len(got), n)
		}
		_, e := envel.Put(api.Envelope{Kind: api.KindCommit, Links: got})
		if (e == api.OK) != (n < 1000) {
			t.Fatalf("%d parents: error %d", n, e)
		}
	}
}

// variants are commits no two of which are alike, each but for a part like another one.
func variants() []api.Commit {
	out := []api.Commit{{}}
	change := func(change func(c *api.Commit)) {
		c := ordinary()
		change(&c)
		out = append(out, c)
	}
	change(func(c *api.Commit) {})
	change(func(c *api.Commit) { c.Parents = nil })
	change(func(c *api.Commit) { c.Parents = c.Parents[:1] })
	change(func(c *api.Commit) { c.Parents = c.Parents[1:] })
	change(func(c *api.Commit) { c.Parents[0], c.Parents[1] = c.Parents[1], c.Parents[0] })
	change(func(c *api.Commit) { c.Parents[1] = c.Parents[0] })
	change(func(c *api.Commit) { c.Parents = append(c.Parents, api.Id{}) })
	change(func(c *api.Commit) { c.Parents[0][0]++ })
	change(func(c *api.Commit) { c.Parents[1][31]++ })
	change(func(c *api.Commit) { c.Parents = []api.Id{{}} })
	change(func(c *api.Commit) { c.Root[0]++ })
	change(func(c *api.Commit) { c.Root[31]++ })
	change(func(c *api.Commit) { c.Key[0]++ })
	change(func(c *api.Commit) { c.Key[31]++ })
	change(func(c *api.Commit) { c.Root, c.Key = api.Id(c.Key), api.Key(c.Root) })
	change(func(c *api.Commit) { c.Seq++ })
	change(func(c *api.Commit) { c.Seq += 1 << 32 })
	change(func(c *api.Commit) { c.Seq = math.MaxUint64 })
	change(func(c *api.Commit) { c.Author++ })
	change(func(c *api.Commit) { c.Author = math.MaxUint32 })
	change(func(c *api.Commit) { c.Text = "" })
	change(func(c *api.Commit) { c.Text += "\x00" })
	change(func(c *api.Commit) { c.Text = strings.ToUpper(c.Text) })
	change(func(c *api.Commit) { c.Text = c.Text[:len(c.Text)-1] })
	change(func(c *api.Commit) { c.Text = strings.Repeat("x", 5000) })
	change(func(c *api.Commit) { c.Text = strings.Repeat("x", 5000) + "y" })
	return out
}

// P12.2: all parts are alike, those of commits that may not be too.
func TestSame(t *testing.T) {
	a, b := variants(), variants()
	for i := range a {
		for j := range b {
			if Same(a[i], b[j]) != (i == j) {
				t.Fatalf("%d and %d: %v", i, j, i != j)
			}
		}
	}
}

// P12.2: each bit of each id and key, and each bit of the numbers.
func TestSameLooksAtEachBit(t *testing.T) {
	was := ordinary()
	for bit := range 256 {
		for part := range 6 {
			c := ordinary()
			flip := byte(1) << (bit % 8)
			switch part {
			case 0:
				c.Parents[0][bit/8] ^= flip
			case 1:
				c.Parents[1][bit/8] ^= flip
			case 2:
				c.Root[bit/8] ^= flip
			case 3:
				c.Key[bit/8] ^= flip
			case 4:
				c.Seq ^= 1 << (bit % 64)
			case 5:
				c.Author ^= 1 << (bit % 32)
			}
			if Same(c, was) || Same(was, c) || !Same(c, c) {
				t.Fatalf("part %d, bit %d", part, bit)
			}
		}
	}
}

// P12.2, P3: a nil list and an empty one are the same.
func TestSameOfNoParents(t *testing.T) {
	if !Same(api.Commit{Parents: nil}, api.Commit{Parents: []api.Id{}}) || !Same(api.Commit{Parents: []api.Id{}}, api.Commit{}) {
		t.Fatal("nil and empty are told apart")
	}
	if Same(api.Commit{}, api.Commit{Parents: []api.Id{{}}}) {
		t.Fatal("noughts are no parent")
	}
}

// seqs is commits with these Seqs, and other parts that Next must not look at.
func seqs(l ...uint64) []api.Commit {
	var out []api.Commit
	for i, seq := range l {
		out = append(out, api.Commit{Parents: sampleIds(i % 4), Seq: seq, Author: math.MaxUint32 - uint32(i), Text: strings.Repeat("x", i)})
	}
	return out
}

// P12.2: one more than the greatest, wherever it stands; the document's examples first.
func TestNext(t *testing.T) {
	if got := Next(); got != 0 {
		t.Fatalf("of none: %d", got)
	}
	if got := Next([]api.Commit{}...); got != 0 {
		t.Fatalf("of an empty list: %d", got)
	}
	const most = math.MaxUint64
	for _, x := range []struct {
		l    []uint64
		want uint64
	}{
		{[]uint64{3}, 4},
		{[]uint64{0}, 1},
		{[]uint64{1}, 2},
		{[]uint64{0, 0}, 1},
		{[]uint64{9, 4}, 10},
		{[]uint64{4, 9}, 10},
		{[]uint64{4, 9, 2}, 10},
		{[]uint64{9, 9}, 10},
		{[]uint64{1, 2, 3, 4, 5, 6, 7}, 8},
		{[]uint64{1<<32 - 1}, 1 << 32},
		{[]uint64{1 << 63, 1}, 1<<63 + 1},
		{[]uint64{1<<63 - 1}, 1 << 63},
		{[]uint64{most - 1}, most},
		{[]uint64{most}, most},
		{[]uint64{most, 3}, most},
		{[]uint64{3, most}, most},
		{[]uint64{3, most, 5}, most},
		{[]uint64{most, most}, most},
		{[]uint64{most - 1, most}, most},
		{[]uint64{most, most - 1}, most},
		{[]uint64{most - 2, most - 1, 0}, most},
		{[]uint64{most - 2}, most - 1},
	} {
		if got := Next(seqs(x.l...)...); got != x.want {
			t.Errorf("%d: %d, not %d", x.l, got, x.want)
		}
	}
	if got := Next(api.Commit{}); got != 1 {
		t.Errorf("of the zero value: %d", got)
	}
	if got := Next(api.Commit{Seq: 3, Parents: sampleIds(5), Text: strings.Repeat("x", 5000)}); got != 4 {
		t.Errorf("of one that may not be: %d", got)
	}
}

// P12.2: the greatest one anywhere in a long list.
func TestNextOfMany(t *testing.T) {
	for at := range 300 {
		l := make([]api.Commit, 300)
		for i := range l {
			l[i].Seq = uint64(i * 7919 % 1000)
		}
		l[at].Seq = 5000
		if got := Next(l...); got != 5001 {
			t.Fatalf("the greatest at %d: %d", at, got)
		}
	}
}

// roomy is c with other ids behind its parents, which nobody may read or write.
func roomy(c api.Commit) api.Commit {
	c.Parents = append(slices.Clone(c.Parents), api.Id{0xde}, api.Id{0xad})[:len(c.Parents)]
	return c
}

// untouched fails if c, made by roomy of was, has changed or was written behind.
func untouched(t *testing.T, c, was api.Commit) {
	t.Helper()
	if !alike(c, was) {
		t.Fatal("an argument was changed")
	}
	if n := len(c.Parents); !slices.Equal(c.Parents[n:n+2], []api.Id{{0xde}, {0xad}}) {
		t.Fatal("written behind the parents")
	}
}

// spoil overwrites ids that were answered, and what room there is behind them.
func spoil(l []api.Id) {
	l = l[:cap(l)]
	for i := range l {
		l[i] = api.Id{0xee}
	}
}

// P2: no call changes what it is given, looks at what lies behind a list's length, or answers an argument's memory.
func TestArgumentsStayAsTheyAre(t *testing.T) {
	for n := range 3 {
		was := ordinary()
		was.Parents = was.Parents[:n]
		c, d := roomy(was), roomy(was)
		b, e := Put(c)
		if e != api.OK || !bytes.Equal(b, plainPut(was)) {
			t.Fatalf("error %d", e)
		}
		for i := range b {
			b[i] = 0xee
		}
		links := Links(c)
		if slices.Contains(links, api.Id{0xde}) || len(links) != n+1 {
			t.Fatalf("%x", links)
		}
		spoil(links)
		if !Same(c, d) || Next(c, d) != was.Seq+1 {
			t.Fatal("read behind the parents")
		}
		untouched(t, c, was)
		untouched(t, d, was)
	}
}

// P2: Of reads no byte behind the length, changes none, and keeps none.
func TestOfSharesNothing(t *testing.T) {
	want := ordinary()
	all := append(plainPut(want), 0xde, 0xad)
	kept := slices.Clone(all)
	b := all[:len(all)-2]
	first, _ := Of(b)
	second, e := Of(b)
	if e != api.OK || !alike(first, want) || !alike(second, want) || !bytes.Equal(all, kept) {
		t.Fatalf("error %d", e)
	}
	spoil(first.Parents)
	if !alike(second, want) || !bytes.Equal(all, kept) {
		t.Fatal("two answers share memory, or one with the bytes")
	}
	for i := range all {
		all[i] = 0xee
	}
	if !alike(second, want) {
		t.Fatal("an answer shares memory with the bytes")
	}
	if p, q := unsafe.StringData(first.Text), unsafe.StringData(second.Text); p == q {
		t.Fatal("two answers share a text")
	}
}

// P2: what is answered has no room behind it in which something else could stand.
func TestAnswersHaveNoRoom(t *testing.T) {
	for what, c := range goodCommits() {
		b, _ := Put(c)
		got, _ := Of(b)
		if links := Links(c); cap(b) != len(b) || cap(got.Parents) != len(got.Parents) || cap(links) != len(links) {
			t.Errorf("%s: room behind an answer", what)
		}
	}
}

// P2: a list of commits that is handed to Next stays as it is.
func TestNextChangesNothing(t *testing.T) {
	all := seqs(5, 3, 9, 100)
	if got := Next(all[:2]...); got != 6 {
		t.Fatalf("read behind the list: %d", got)
	}
	for i, c := range seqs(5, 3, 9, 100) {
		if !alike(all[i], c) {
			t.Fatalf("commit %d was changed", i)
		}
	}
}

// P3: asked again, the same is answered.
func TestTheSameAgain(t *testing.T) {
	c := ordinary()
	want := plainPut(c)
	for i := range 3 {
		b, e := Put(c)
		got, f := Of(want)
		if e != api.OK || f != api.OK || !bytes.Equal(b, want) || !alike(got, c) || len(Links(c)) != 3 || !Same(got, c) || Next(c) != c.Seq+1 {
			t.Fatalf("%s: errors %d, %d", strconv.Itoa(i), e, f)
		}
	}
}

// P12.1, P5: two alike are found wherever they stand, and the rest of the parents isn't gone through then.
func TestDoubledIsLeftAtTheFirst(t *testing.T) {
	for _, n := range []int{2, 3, 7} {
		for i := range n {
			for j := range i {
				c := api.Commit{Parents: sampleIds(n)}
				if doubled(c) {
					t.Fatalf("%d unlike parents", n)
				}
				c.Parents[i] = c.Parents[j]
				if !doubled(c) {
					t.Fatalf("of %d parents %d and %d are alike", n, j, i)
				}
			}
		}
	}
}
