package mark

import (
	"math"
	"slices"
	"testing"

	"tabularium/api"
)

// plainOrder goes over all objects for each place, and takes the first one that may stand there.
func plainOrder(l []api.Object) ([]api.Object, bool) {
	var out []api.Object
	left := slices.Clone(l)
	for len(left) > 0 {
		at := slices.IndexFunc(left, func(o api.Object) bool { return mayStand(o, l, out) })
		if at < 0 {
			return nil, false
		}
		out = append(out, left[at])
		left = slices.Delete(left, at, at+1)
	}
	return out, true
}

// mayStand says whether each of o's links is one of a placed object, or of no object of l.
func mayStand(o api.Object, l, placed []api.Object) bool {
	for _, link := range o.Links {
		_, is := firstWith(l, link)
		_, done := firstWith(placed, link)
		if is && !done {
			return false
		}
	}
	return true
}

// wantOrder fails unless Order answers as the document says, and leaves alone what it is given.
func wantOrder(t *testing.T, l []api.Object) {
	t.Helper()
	was := cloned(l)
	want, can := plainOrder(l)
	got, is := Order(l)
	if is != can || !sameObjects(got, want) {
		t.Fatalf("Order of %v: %v, %v, not %v, %v", l, got, is, want, can)
	}
	if !is && got != nil {
		t.Fatalf("%v beside false", got)
	}
	if !sameObjects(l, was) {
		t.Fatal("an argument was changed")
	}
}

// sizes is the objects' sizes, which are their places in l in these tests.
func sizes(l []api.Object) []int {
	var out []int
	for _, o := range l {
		out = append(out, o.Size)
	}
	return out
}

// P15.3: by hand: what stands first and is freed last, and what is freed while others ahead of it wait.
func TestOrderByHand(t *testing.T) {
	for what, c := range map[string]struct {
		l    []api.Object
		want []int
	}{
		"no links":              {[]api.Object{obj(0, 3), obj(1, 1), obj(2, 2)}, []int{0, 1, 2}},
		"one object":            {[]api.Object{obj(0, 3)}, []int{0}},
		"in order already":      {[]api.Object{obj(0, 1), obj(1, 2, 1), obj(2, 3, 2, 1)}, []int{0, 1, 2}},
		"backwards":             {[]api.Object{obj(0, 3, 2), obj(1, 2, 1), obj(2, 1)}, []int{2, 1, 0}},
		"freed ones come first": {[]api.Object{obj(0, 1, 2), obj(1, 2), obj(2, 3), obj(3, 4)}, []int{1, 0, 2, 3}},
		"the first of two":      {[]api.Object{obj(0, 1, 3), obj(1, 2, 3), obj(2, 3), obj(3, 4)}, []int{2, 0, 1, 3}},
		"freed one by one":      {[]api.Object{obj(0, 1, 2, 4), obj(1, 2, 3), obj(2, 3), obj(3, 5), obj(4, 4)}, []int{2, 1, 3, 4, 0}},
		"no object's":           {[]api.Object{obj(0, 1, 9), obj(1, 2, 8, 1, 9)}, []int{0, 1}},
		"a link that is twice":  {[]api.Object{obj(0, 1, 2, 2), obj(1, 2)}, []int{1, 0}},
		"two with one id":       {[]api.Object{obj(0, 1, 2), obj(1, 2), obj(2, 1), obj(3, 2)}, []int{1, 0, 2, 3}},
	} {
		got, is := Order(c.l)
		if !is || !slices.Equal(sizes(got), c.want) {
			t.Fatalf("%s: %v, %v, not %v", what, sizes(got), is, c.want)
		}
		wantOrder(t, c.l)
	}
}

// P15.3: nothing and false, if some can't be placed, though others can.
func TestOrderOfRings(t *testing.T) {
	for what, l := range map[string][]api.Object{
		"itself":                 {obj(0, 1, 1)},
		"itself, behind others":  {obj(0, 2), obj(1, 3, 2), obj(2, 1, 2, 1)},
		"two":                    {obj(0, 1, 2), obj(1, 2, 1)},
		"three, and one that is": {obj(0, 4), obj(1, 1, 2), obj(2, 2, 3), obj(3, 3, 1)},
		"one that hangs on two":  {obj(0, 4, 1), obj(1, 1, 2), obj(2, 2, 1)},
		"noughts":                {{Links: []api.Id{{}}}},
		"two with one id":        {obj(0, 1, 2), obj(1, 1, 2), obj(2, 2, 1)},
	} {
		got, is := Order(l)
		if is || got != nil {
			t.Fatalf("%s: %v, %v", what, got, is)
		}
		wantOrder(t, l)
	}
}

// P15.3, P3: of nothing nothing, and true.
func TestOrderOfNothing(t *testing.T) {
	for _, l := range [][]api.Object{nil, {}} {
		if got, is := Order(l); !is || len(got) != 0 {
			t.Fatalf("%v, %v", got, is)
		}
	}
}

// P1: objects that nobody made have an id, noughts, and no links; sizes are handed on as they are.
func TestOrderOfObjectsThatNobodyMade(t *testing.T) {
	wantOrder(t, []api.Object{{}, {}})
	wantOrder(t, []api.Object{obj(0, 1, 0), {}, {Links: ids(1)}})
	wantOrder(t, []api.Object{{Id: api.Id{1}, Links: []api.Id{}, Size: math.MinInt}, {Id: api.Id{2}, Size: math.MaxInt}})
}

// P15.3: all lists of up to three objects with up to two links, to what no object has too.
func TestOrderOfAllSmallLists(t *testing.T) {
	for l := range smallLists(4) {
		wantOrder(t, l)
	}
}

// P15.3: greater lists, as drawn; those of the first kind can be ordered, those of the second one seldom.
func TestOrderOfDrawnLists(t *testing.T) {
	d := drawn(3)
	for range 1500 {
		l := chain(d.below(40))
		for i := range l {
			l[i].Links = nil
			for range d.below(4) {
				l[i].Links = append(l[i].Links, number(i+1+d.below(len(l))))
			}
		}
		for i := range l {
			j := d.below(i + 1)
			l[i], l[j] = l[j], l[i]
		}
		if _, is := Order(l); !is {
			t.Fatalf("%v can be ordered", l)
		}
		wantOrder(t, l)
		wantOrder(t, d.objects(d.below(12), 1+d.below(30), 2))
	}
}

// P15.3: many objects that wait, each for the next one, or all for the last one, or each pair by itself.
func TestOrderOfMany(t *testing.T) {
	const n = 1 << 15
	l := chain(n)
	got, is := Order(l)
	slices.Reverse(l)
	if !is || !sameObjects(got, l) {
		t.Fatalf("each for the next one: %d, %v", len(got), is)
	}
	l = chain(n)
	for i := range l {
		l[i].Links[0] = number(n - 1)
	}
	l[n-1].Links = nil
	got, is = Order(l)
	if !is || !sameObjects(got[:1], l[n-1:]) || !sameObjects(got[1:], l[:n-1]) {
		t.Fatalf("all for the last one: %d, %v", len(got), is)
	}
	l = chain(n)
	for i := range l {
		l[i].Links = l[i].Links[:1-i%2]
	}
	got, is = Order(l)
	for i := range got {
		if got[i].Size != i^1 {
			t.Fatalf("pairs: %d at %d", got[i].Size, i)
		}
	}
	if !is || len(got) != n {
		t.Fatalf("pairs: %d, %v", len(got), is)
	}
}

// P15.3: an object that waits for all of its many links, the last placed first.
func TestOrderOfManyLinks(t *testing.T) {
	for _, n := range []int{1, 2, 1000, 3000} {
		l := []api.Object{{Id: number(n), Size: n}}
		for i := range n {
			l = append(l, api.Object{Id: number(i), Size: i})
			l[0].Links = append(l[0].Links, number(n-1-i))
		}
		got, is := Order(l)
		if !is || !sameObjects(got[:n], l[1:]) || !sameObject(got[n], l[0]) {
			t.Fatalf("%d links: %d, %v", n, len(got), is)
		}
	}
}

// P2: what Order answers is memory of its own, and what lies behind the lists' lengths isn't touched.
func TestOrderSharesNothing(t *testing.T) {
	links := ids(3, 1, 1)
	all := []api.Object{{Id: api.Id{1}, Links: links[:1]}, {Id: api.Id{2}, Links: links[:1]}, obj(0, 3), obj(0, 4)}
	was := cloned(all)
	got, is := Order(all[:3])
	if !is || len(got) != 3 || cap(got) != 3 || cap(got[1].Links) != 1 {
		t.Fatalf("%v, %v", got, is)
	}
	_, _ = append(got, obj(9, 9)), append(got[1].Links, api.Id{9})
	got[1].Links[0], got[0].Id = api.Id{9}, api.Id{9}
	if !sameObjects(all, was) || !slices.Equal(links, ids(3, 1, 1)) || got[2].Links[0] != (api.Id{3}) {
		t.Fatal("memory is shared")
	}
	if again, _ := Order(all[:3]); !sameObjects(again, []api.Object{was[2], was[0], was[1]}) {
		t.Fatalf("%v", again)
	}
}
