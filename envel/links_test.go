package envel

import (
	"slices"
	"testing"

	"tabularium/api"
)

// idsOf is ids that begin with these bytes.
func idsOf(l ...byte) []api.Id {
	out := make([]api.Id, 0, len(l))
	for _, b := range l {
		out = append(out, api.Id{b})
	}
	return out
}

func wantLinks(t *testing.T, l, want []api.Id) {
	t.Helper()
	got := Links(l...)
	if !slices.Equal(got, want) {
		t.Fatalf("Links of %x is %x instead of %x", l, got, want)
	}
	if cap(got) != len(got) {
		t.Fatalf("%d links are handed out with room for %d", len(got), cap(got))
	}
}

// P9.1: each once, rising.
func TestLinks(t *testing.T) {
	wantLinks(t, idsOf(2, 1, 2), idsOf(1, 2))
	wantLinks(t, idsOf(1, 2, 3), idsOf(1, 2, 3))
	wantLinks(t, idsOf(3, 2, 1), idsOf(1, 2, 3))
	wantLinks(t, idsOf(7), idsOf(7))
	wantLinks(t, idsOf(7, 7, 7, 7), idsOf(7))
	wantLinks(t, idsOf(1, 2, 1, 2, 3, 3, 1), idsOf(1, 2, 3))
	wantLinks(t, idsOf(9, 0, 9, 0), idsOf(0, 9))
}

// P9.1, P3: of nothing nothing, nil or empty.
func TestLinksOfNothing(t *testing.T) {
	if got := Links(); len(got) != 0 {
		t.Fatalf("%x", got)
	}
	wantLinks(t, nil, nil)
	wantLinks(t, []api.Id{}, nil)
}

// P9.1: noughts and the greatest id are ids like all others.
func TestLinksAtTheEdges(t *testing.T) {
	var most api.Id
	for i := range most {
		most[i] = 0xff
	}
	wantLinks(t, []api.Id{most, {}, most, {}}, []api.Id{{}, most})
	wantLinks(t, []api.Id{{}}, []api.Id{{}})
}

// P9.1: held against each other byte by byte, from the first on, each as a number from 0 to 255.
func TestLinksRiseByteByByte(t *testing.T) {
	var last, first, middle api.Id
	last[31], first[0], middle[15] = 0xff, 1, 0x80
	wantLinks(t, []api.Id{first, last, middle}, []api.Id{last, middle, first})
	wantLinks(t, idsOf(0x80, 0x7f, 0xff, 0x01), idsOf(0x01, 0x7f, 0x80, 0xff))
	for i := range 32 {
		low, high := api.Id(sample(32)), api.Id(sample(32))
		low[i], high[i] = 0x7f, 0x80
		for j := i + 1; j < 32; j++ {
			low[j], high[j] = 0xff, 0
		}
		wantLinks(t, []api.Id{high, low, high}, []api.Id{low, high})
	}
}

// P9.1: as a plain way tells it, of many ids of which many are alike.
func TestLinksOfMany(t *testing.T) {
	for n := range 60 {
		l := make([]api.Id, 0, n)
		for _, b := range sample(n) {
			l = append(l, api.Id{b % 16, 0, b % 3})
		}
		want := []api.Id{}
		for _, id := range l {
			at := 0
			for at < len(want) && string(want[at][:]) < string(id[:]) {
				at++
			}
			if at == len(want) || want[at] != id {
				want = slices.Insert(want, at, id)
			}
		}
		wantLinks(t, l, want)
	}
	wantLinks(t, sampleIds(3000), slices.SortedFunc(slices.Values(sampleIds(3000)), compare)) // more than an envelope has: Put refuses them, Links doesn't
}

// P2: the list that is handed in stays as it is, what lies behind it too, and the answer is other memory.
func TestLinksLeaveTheListAlone(t *testing.T) {
	for _, begin := range [][]byte{{3, 1, 3, 2}, {1, 2, 3, 4}, {5}} {
		all := append(idsOf(begin...), idsOf(0xde, 0xad)...)
		was := slices.Clone(all)
		got := Links(all[:len(begin)]...)
		for i := range got {
			got[i] = api.Id{0xee}
		}
		_ = append(got, idsOf(0xcc)...)
		if !slices.Equal(all, was) {
			t.Fatalf("the list was changed: %x", all)
		}
		if again := Links(all[:len(begin)]...); slices.Contains(again, api.Id{0xee}) {
			t.Fatalf("two answers share memory: %x", again)
		}
	}
}

// P5: ids that are told by a range over a function may be left, and gone through again.
func TestIdsMayBeLeft(t *testing.T) {
	l := idsOf(1, 1, 2, 3, 3, 4)
	for stop := range 5 {
		told := []api.Id{}
		for id := range once(l) {
			if len(told) == stop {
				break
			}
			told = append(told, id)
		}
		if !slices.Equal(told, idsOf(1, 2, 3, 4)[:stop]) {
			t.Fatalf("left behind %d: %x", stop, told)
		}
	}
	seq := once(l)
	if a, b := slices.Collect(seq), slices.Collect(seq); !slices.Equal(a, b) || len(a) != 4 {
		t.Fatalf("%x, and then %x", a, b)
	}
}
