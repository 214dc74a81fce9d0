package mark

import (
	"iter"
	"math"
	"slices"
	"testing"

	"tabularium/api"
)

// ids is ids that begin with these bytes.
func ids(l ...byte) []api.Id {
	out := make([]api.Id, 0, len(l))
	for _, b := range l {
		out = append(out, api.Id{b})
	}
	return out
}

// obj is an object with an id and links that begin with these bytes, and a size by which it is told from others.
func obj(size int, id byte, links ...byte) api.Object {
	return api.Object{Id: api.Id{id}, Links: ids(links...), Size: size}
}

func sameObject(a, b api.Object) bool {
	return a.Id == b.Id && a.Size == b.Size && slices.Equal(a.Links, b.Links)
}

func sameObjects(a, b []api.Object) bool {
	return slices.EqualFunc(a, b, sameObject)
}

// cloned is l in memory of its own.
func cloned(l []api.Object) []api.Object {
	out := slices.Clone(l)
	for i := range out {
		out[i].Links = slices.Clone(out[i].Links)
	}
	return out
}

// told is an id that is told, and how far it is.
type told struct {
	far int
	id  api.Id
}

func tell(seq iter.Seq2[int, api.Id]) []told {
	var out []told
	for far, id := range seq {
		out = append(out, told{far, id})
	}
	return out
}

// firstWith is the first object of l with this id.
func firstWith(l []api.Object, id api.Id) (api.Object, bool) {
	i := slices.IndexFunc(l, func(o api.Object) bool { return o.Id == id })
	if i < 0 {
		return api.Object{}, false
	}
	return l[i], true
}

// distances is how far each id is that is reached: worked out by going over all objects till no way gets shorter.
func distances(l []api.Object, roots []api.Id) map[api.Id]int {
	out := map[api.Id]int{}
	for _, id := range roots {
		if _, is := firstWith(l, id); is {
			out[id] = 0
		}
	}
	for changed := true; changed; {
		changed = false
		for _, o := range l {
			far, is := out[o.Id]
			if o, _ = firstWith(l, o.Id); !is {
				continue
			}
			for _, link := range o.Links {
				was, met := out[link]
				if _, is := firstWith(l, link); is && (!met || was > far+1) {
					out[link], changed = far+1, true
				}
			}
		}
	}
	return out
}

// plainWalk is what Walk has to tell, by the distances: of each level first what is named first.
func plainWalk(l []api.Object, roots []api.Id) []told {
	far := distances(l, roots)
	var out []told
	name := func(level int, ids []api.Id) {
		for _, id := range ids {
			if d, is := far[id]; is && d == level && !slices.Contains(out, told{level, id}) {
				out = append(out, told{level, id})
			}
		}
	}
	name(0, roots)
	for i := 0; i < len(out); i++ {
		o, _ := firstWith(l, out[i].id)
		name(out[i].far+1, o.Links)
	}
	return out
}

// rising is the ids, each once, rising.
func rising(l []api.Id) []api.Id {
	var out []api.Id
	for _, id := range l {
		at := 0
		for at < len(out) && string(out[at][:]) < string(id[:]) {
			at++
		}
		if at == len(out) || out[at] != id {
			out = slices.Insert(out, at, id)
		}
	}
	return out
}

// wantAll fails unless Walk, Reach and Sweep answer as the document says, and leave alone what they are given.
func wantAll(t *testing.T, l []api.Object, roots []api.Id) {
	t.Helper()
	was, rootsWere := cloned(l), slices.Clone(roots)
	want := plainWalk(l, roots)
	if got := tell(Walk(l, roots...)); !slices.Equal(got, want) {
		t.Fatalf("Walk of %v from %v: %v, not %v", l, roots, got, want)
	}
	var reached, gone []api.Id
	for _, x := range want {
		reached = append(reached, x.id)
	}
	if got := Reach(l, roots...); !slices.Equal(got, rising(reached)) {
		t.Fatalf("Reach of %v from %v: %v", l, roots, got)
	}
	var kept []api.Object
	for _, o := range l {
		if slices.Contains(reached, o.Id) {
			kept = append(kept, o)
		} else {
			gone = append(gone, o.Id)
		}
	}
	gotKept, gotGone := Sweep(l, roots...)
	if !sameObjects(gotKept, kept) || !slices.Equal(gotGone, rising(gone)) {
		t.Fatalf("Sweep of %v from %v: %v, %v", l, roots, gotKept, gotGone)
	}
	if !sameObjects(l, was) || !slices.Equal(roots, rootsWere) {
		t.Fatal("an argument was changed")
	}
}

// lists tells all lists of bytes below most with up to n of them; each is told in memory of its own.
func lists(most byte, n int) iter.Seq[[]byte] {
	return func(yield func([]byte) bool) {
		for l := [][]byte{nil}; len(l) > 0; l = l[1:] {
			if !yield(slices.Clone(l[0])) {
				return
			}
			for b := range most {
				if len(l[0]) < n {
					l = append(l, append(slices.Clone(l[0]), b))
				}
			}
		}
	}
}

// smallLists tells all lists of up to three objects, three ids at the most, with up to two links below most.
func smallLists(most byte) iter.Seq[[]api.Object] {
	return func(yield func([]api.Object) bool) {
		links := slices.Collect(lists(most, 2))
		for have := range lists(3, 3) {
			for choice := range int(math.Pow(float64(len(links)), float64(len(have)))) {
				var l []api.Object
				for i, id := range have {
					l = append(l, obj(i, id, links[choice%len(links)]...))
					choice /= len(links)
				}
				if !yield(l) {
					return
				}
			}
		}
	}
}

// drawn is numbers that look drawn, always the same ones.
type drawn uint64

func (d *drawn) below(n int) int {
	*d = *d*6364136223846793005 + 1442695040888963407
	return int(uint64(*d)>>33) % n
}

func (d *drawn) ids(most, n int) []api.Id {
	var out []api.Id
	for range n {
		out = append(out, api.Id{byte(d.below(most))})
	}
	return out
}

// objects is n objects with ids and links below most, of which some may be alike, and some no object's.
func (d *drawn) objects(n, most, links int) []api.Object {
	var out []api.Object
	for i := range n {
		out = append(out, api.Object{Id: d.ids(most, 1)[0], Links: d.ids(most, d.below(links+1)), Size: i})
	}
	return out
}

// P15.1, P15.2: the example of the document.
func TestExample(t *testing.T) {
	l := []api.Object{obj(1, 'a', 'b'), obj(2, 'b'), obj(3, 'c')}
	if got := Reach(l, api.Id{'a'}); !slices.Equal(got, ids('a', 'b')) {
		t.Fatalf("Reach: %v", got)
	}
	kept, gone := Sweep(l, api.Id{'a'})
	if !sameObjects(kept, l[:2]) || !slices.Equal(gone, ids('c')) {
		t.Fatalf("Sweep: %v, %v", kept, gone)
	}
}

// P15.1: level by level, by hand: what is nearer by another way is told where it is nearest.
func TestWalkByHand(t *testing.T) {
	l := []api.Object{obj(0, 1, 9, 5, 3), obj(0, 2, 4, 3), obj(0, 3, 6, 1), obj(0, 4, 7), obj(0, 5, 4, 6), obj(0, 6, 7, 8, 2), obj(0, 7, 3), obj(0, 8)}
	want := []told{
		{0, api.Id{2}}, {0, api.Id{1}},
		{1, api.Id{4}}, {1, api.Id{3}}, {1, api.Id{5}},
		{2, api.Id{7}}, {2, api.Id{6}},
		{3, api.Id{8}},
	}
	if got := tell(Walk(l, ids(2, 9, 1, 2)...)); !slices.Equal(got, want) {
		t.Fatalf("%v", got)
	}
	if got := Reach(l, ids(2, 9, 1, 2)...); !slices.Equal(got, ids(1, 2, 3, 4, 5, 6, 7, 8)) {
		t.Fatalf("%v", got)
	}
}

// P15.1: the order is that of roots and Links, not that of ids or of the list; Reach's is that of the ids.
func TestWalkKeepsTheOrder(t *testing.T) {
	l := []api.Object{obj(0, 1), obj(0, 2), obj(0, 3, 2, 5, 1), obj(0, 4), obj(0, 5)}
	want := []told{{0, api.Id{4}}, {0, api.Id{3}}, {1, api.Id{2}}, {1, api.Id{5}}, {1, api.Id{1}}}
	if got := tell(Walk(l, ids(4, 3)...)); !slices.Equal(got, want) {
		t.Fatalf("%v", got)
	}
	if got := Reach(l, ids(4, 3)...); !slices.Equal(got, ids(1, 2, 3, 4, 5)) {
		t.Fatalf("%v", got)
	}
}

// P15.1: ids are told apart by each of their bytes.
func TestIdsThatAreNearlyAlike(t *testing.T) {
	var l []api.Object
	for i := range 32 {
		var id, next api.Id
		id[i], next[(i+1)%32] = 0x80, 0x80
		l = append(l, api.Object{Id: id, Links: []api.Id{next}})
	}
	for from := range 32 {
		for far, id := range Walk(l, l[from].Id) {
			if id != l[(from+far)%32].Id {
				t.Fatalf("%d links from %d on: %x", far, from, id)
			}
		}
		if got := Reach(l, l[from].Id); len(got) != 32 {
			t.Fatalf("%d are reached", len(got))
		}
	}
	wantAll(t, l, []api.Id{{0: 0x80, 1: 0x80}, {31: 0x81}})
}

// P15.1: of two objects with one Id the first one counts, wherever they stand; Sweep goes by the ids.
func TestTwoObjectsWithOneId(t *testing.T) {
	l := []api.Object{obj(1, 3), obj(2, 1, 2), obj(3, 1, 3, 4), obj(4, 2), obj(5, 4), obj(6, 4)}
	want := []told{{0, api.Id{1}}, {1, api.Id{2}}}
	if got := tell(Walk(l, api.Id{1})); !slices.Equal(got, want) {
		t.Fatalf("%v", got)
	}
	kept, gone := Sweep(l, api.Id{1})
	if !sameObjects(kept, l[1:4]) || !slices.Equal(gone, ids(3, 4)) {
		t.Fatalf("%v, %v", kept, gone)
	}
	l[1].Links = nil
	if got := Reach(l, api.Id{1}); !slices.Equal(got, ids(1)) {
		t.Fatalf("the first one has no links, yet %v", got)
	}
}

// P15.1: ids that no object has are passed over, and what stands behind them isn't.
func TestIdsThatNoObjectHas(t *testing.T) {
	l := []api.Object{obj(0, 1, 8, 2, 9), obj(0, 2, 9)}
	wantAll(t, l, ids(7, 8, 1, 9))
	wantAll(t, l, ids(7))
	if got := Reach(l, ids(7, 8, 1, 9)...); !slices.Equal(got, ids(1, 2)) {
		t.Fatalf("%v", got)
	}
	if got := tell(Walk(l, ids(7, 8)...)); got != nil {
		t.Fatalf("%v", got)
	}
}

// P15.1: objects that link to themselves, rings, and links that are named twice are told once.
func TestRings(t *testing.T) {
	for _, l := range [][]api.Object{
		{obj(0, 1, 1)},
		{obj(0, 1, 1, 1, 2, 2), obj(0, 2, 2, 1)},
		{obj(0, 1, 2), obj(0, 2, 3), obj(0, 3, 1)},
		{obj(0, 1, 2), obj(0, 2, 3), obj(0, 3, 2), obj(0, 4, 1)},
	} {
		for roots := range lists(5, 3) {
			wantAll(t, l, ids(roots...))
		}
	}
}

// P3, P15.1, P15.2: nothing comes of nothing, nil or empty; without roots all is gone.
func TestNothing(t *testing.T) {
	for _, l := range [][]api.Object{nil, {}} {
		for _, roots := range [][]api.Id{nil, {}, ids(1, 0)} {
			if got := tell(Walk(l, roots...)); got != nil {
				t.Fatalf("Walk: %v", got)
			}
			if got := Reach(l, roots...); len(got) != 0 {
				t.Fatalf("Reach: %v", got)
			}
			if kept, gone := Sweep(l, roots...); len(kept) != 0 || len(gone) != 0 {
				t.Fatalf("Sweep: %v, %v", kept, gone)
			}
		}
	}
	l := []api.Object{obj(0, 2, 1), obj(0, 1), obj(0, 2)}
	if kept, gone := Sweep(l); len(kept) != 0 || !slices.Equal(gone, ids(1, 2)) {
		t.Fatalf("Sweep: %v, %v", kept, gone)
	}
	wantAll(t, l, nil)
}

// P1: an object that nobody made has noughts, which is passed over or met like any other.
func TestObjectsThatNobodyMade(t *testing.T) {
	l := []api.Object{{}, {Links: ids(1)}, obj(0, 1, 0)}
	wantAll(t, l, []api.Id{{}})
	wantAll(t, l, ids(1))
	wantAll(t, l[2:], []api.Id{{}, {1}})
	wantAll(t, []api.Object{{Size: math.MinInt}, {Id: api.Id{1}, Links: []api.Id{}, Size: math.MaxInt}}, ids(1))
}

// P15.1, P15.2: all lists of up to three objects with up to two links, from one root and from two.
func TestAllSmallLists(t *testing.T) {
	for l := range smallLists(3) {
		for root := range byte(3) {
			wantAll(t, l, ids(root))
			wantAll(t, l, ids(root, 2-root))
		}
	}
}

// P15.1, P15.2: greater lists, as drawn, sparse and dense, with ids that are alike and ids that aren't there.
func TestDrawnLists(t *testing.T) {
	d := drawn(15)
	for range 2000 {
		most := 1 + d.below(40)
		l := d.objects(d.below(40), most, d.below(5))
		wantAll(t, l, d.ids(most, d.below(4)))
	}
}

// P15.4: what is reached is the least set that has the roots and is closed, held against all sets that are.
func TestClosed(t *testing.T) {
	const most = 7
	d := drawn(4)
	for range 300 {
		l, roots := d.objects(d.below(9), most, 3), d.ids(most, d.below(3))
		least := 1<<most - 1
		for set := range 1 << most {
			if isClosed(l, roots, set) {
				least &= set
			}
		}
		var want []api.Id
		for b := range byte(most) {
			if least>>b&1 == 1 {
				want = append(want, api.Id{b})
			}
		}
		if got := Reach(l, roots...); !slices.Equal(got, want) {
			t.Fatalf("%v from %v: %v, not %v", l, roots, got, want)
		}
	}
}

// isClosed says whether the set has the roots, and what its objects link to, as far as l has them.
func isClosed(l []api.Object, roots []api.Id, set int) bool {
	lacks := func(id api.Id) bool {
		_, is := firstWith(l, id)
		return is && set>>id[0]&1 == 0
	}
	if slices.ContainsFunc(roots, lacks) {
		return false
	}
	for _, o := range l {
		o, _ = firstWith(l, o.Id)
		if !lacks(o.Id) && slices.ContainsFunc(o.Links, lacks) {
			return false
		}
	}
	return true
}

// P15.4: what is swept twice stays, and what was kept lacks nothing that there was.
func TestSweptTwice(t *testing.T) {
	d := drawn(44)
	for range 500 {
		l, roots := d.objects(d.below(30), 20, 3), d.ids(20, d.below(4))
		kept, gone := Sweep(l, roots...)
		again, none := Sweep(kept, roots...)
		if !sameObjects(again, kept) || len(none) != 0 {
			t.Fatalf("%v behind %v: %v are gone", again, kept, none)
		}
		for _, o := range l {
			if _, stays := firstWith(kept, o.Id); stays == slices.Contains(gone, o.Id) {
				t.Fatalf("%v is kept and gone, or neither", o)
			}
		}
	}
}

// P5: a walk may be left anywhere, gone through again, and gone through twice at once.
func TestWalkMayBeLeft(t *testing.T) {
	l := []api.Object{obj(0, 1, 2, 3), obj(0, 2, 4), obj(0, 3, 4, 5), obj(0, 4), obj(0, 5, 1)}
	seq := Walk(l, ids(1, 3)...)
	want := plainWalk(l, ids(1, 3))
	for stop := range len(want) + 1 {
		var got []told
		for far, id := range seq {
			if len(got) == stop {
				break
			}
			got = append(got, told{far, id})
		}
		if !slices.Equal(got, want[:stop]) {
			t.Fatalf("left behind %d: %v", stop, got)
		}
	}
	for range seq {
		if got := tell(seq); !slices.Equal(got, want) {
			t.Fatalf("within another one: %v", got)
		}
	}
}

// P5: the levels too may be left and gone through again.
func TestLevelsMayBeLeft(t *testing.T) {
	seq := levels([]api.Object{obj(0, 1, 2), obj(0, 2, 3), obj(0, 3)}, ids(1))
	for stop := 1; stop <= 3; stop++ {
		n := 0
		for level := range seq {
			n++
			if !slices.Equal(level, ids(byte(n))) {
				t.Fatalf("level %d: %v", n, level)
			}
			if n == stop {
				break
			}
		}
		if n != stop {
			t.Fatalf("%d levels instead of %d", n, stop)
		}
	}
}

// P5: so may the links of a level.
func TestLinksMayBeLeft(t *testing.T) {
	seq := begin([]api.Object{obj(0, 1, 2, 3), obj(0, 2, 3)}).linked(ids(1, 2))
	for id := range seq {
		if id != (api.Id{2}) {
			t.Fatalf("%v is told first", id)
		}
		break
	}
	if got := slices.Collect(seq); !slices.Equal(got, ids(2, 3, 3)) {
		t.Fatalf("%v", got)
	}
}

// P2: what becomes of the arguments behind the call isn't told, not even while the walk is gone through.
func TestWalkKeepsNothingOfItsArguments(t *testing.T) {
	l, roots := []api.Object{obj(0, 1, 2), obj(0, 2, 3), obj(0, 3), obj(0, 4)}, ids(1)
	want := plainWalk(l, roots)
	seq := Walk(l, roots...)
	spoil := func() {
		roots[0] = api.Id{4}
		for i := range l {
			l[i].Id[0] += 10
			for j := range l[i].Links {
				l[i].Links[j] = api.Id{4}
			}
		}
	}
	var got []told
	for far, id := range seq {
		got = append(got, told{far, id})
		spoil()
	}
	if !slices.Equal(got, want) || !slices.Equal(tell(seq), want) {
		t.Fatalf("%v, then %v", got, tell(seq))
	}
}

// P2: what lies behind the lists' lengths is neither read nor written.
func TestNothingBehindTheListsIsTouched(t *testing.T) {
	links := ids(2, 3, 3)
	all := []api.Object{{Id: api.Id{1}, Links: links[:1]}, obj(0, 2), obj(0, 3), obj(0, 4)}
	roots := ids(1, 4, 4)
	was := cloned(all)
	if got := Reach(all[:3], roots[:1]...); !slices.Equal(got, ids(1, 2)) {
		t.Fatalf("Reach: %v", got)
	}
	kept, gone := Sweep(all[:3], roots[:1]...)
	if len(kept) != 2 || !slices.Equal(gone, ids(3)) {
		t.Fatalf("Sweep: %v, %v", kept, gone)
	}
	_, _ = append(kept, obj(9, 9)), append(gone, api.Id{9})
	_ = append(kept[0].Links, api.Id{9})
	if !sameObjects(all, was) || !slices.Equal(links, ids(2, 3, 3)) || !slices.Equal(roots, ids(1, 4, 4)) {
		t.Fatal("an argument was changed")
	}
	if cap(kept) != len(kept) || cap(gone) != len(gone) || cap(kept[0].Links) != len(kept[0].Links) {
		t.Fatal("handed out with room behind the length")
	}
}

// P2: no list is handed out with room behind its length, however many there are.
func TestNoRoomBehindTheLists(t *testing.T) {
	for n := range 40 {
		l := chain(n)
		for i := range l {
			l[i].Links = slices.Repeat([]api.Id{number(i - 1)}, i)
		}
		kept, _ := Sweep(l, number(n-1))
		order, is := Order(l)
		_, gone := Sweep(l)
		if !is || len(kept) != n || len(order) != n || len(gone) != n || len(Reach(l, number(n-1))) != n {
			t.Fatalf("%d kept, %d in order, %d gone of %d", len(kept), len(order), len(gone), n)
		}
		if cap(kept) != n || cap(order) != n || cap(gone) != n || cap(Reach(l, number(n-1))) != n {
			t.Fatalf("room behind %d", n)
		}
		for _, o := range append(kept, order...) {
			if cap(o.Links) != len(o.Links) {
				t.Fatalf("room behind %d links", len(o.Links))
			}
		}
	}
}

// P2: Sweep's answer is memory of its own, two objects that shared their links in l too.
func TestSweepSharesNothing(t *testing.T) {
	links := ids(1, 2)
	l := []api.Object{{Id: api.Id{1}, Links: links}, {Id: api.Id{2}, Links: links}, obj(0, 3), obj(0, 4)}
	was := cloned(l)
	kept, gone := Sweep(l, ids(1)...)
	kept[0].Links[0], kept[0].Id, gone[0] = api.Id{9}, api.Id{9}, api.Id{9}
	if !sameObjects(l, was) || kept[1].Links[0] != (api.Id{1}) {
		t.Fatal("memory is shared")
	}
	if again, lost := Sweep(l, ids(1)...); !sameObjects(again, was[:2]) || !slices.Equal(lost, ids(3, 4)) {
		t.Fatalf("%v, %v", again, lost)
	}
}

// number is an id that tells a number.
func number(i int) api.Id {
	return api.Id{byte(i >> 24), byte(i >> 16), byte(i >> 8), byte(i)}
}

// chain is n objects, each with a link to the one behind it.
func chain(n int) []api.Object {
	l := make([]api.Object, 0, n)
	for i := range n {
		l = append(l, api.Object{Id: number(i), Links: []api.Id{number(i + 1)}, Size: i})
	}
	return l
}

// P1, P15.1: a way of as many links as there are objects.
func TestLongWay(t *testing.T) {
	const n = 1 << 16
	l := chain(n)
	at := 0
	for far, id := range Walk(l, number(0)) {
		if far != at || id != number(at) {
			t.Fatalf("%d is told %d links far as the %dth", id, far, at)
		}
		at++
	}
	if at != n {
		t.Fatalf("%d are told", at)
	}
	kept, gone := Sweep(l, number(n/2))
	if !sameObjects(kept, l[n/2:]) || len(gone) != n/2 {
		t.Fatalf("%d are kept, %d are gone", len(kept), len(gone))
	}
	for i, id := range gone {
		if id != number(i) {
			t.Fatalf("%d is gone as the %dth", id, i)
		}
	}
}
