package dir

import (
	"bytes"
	"slices"
	"strconv"
	"strings"
	"testing"
	"unsafe"

	"tabularium/api"
	"tabularium/envel"
)

// few is entries in no order, some of which have Blinds or names in common: no Good list, but one that may be asked of.
func few() []api.Entry {
	return mixed([]byte{1, 3, 0x80}, []string{"a", "b", ""}, []int{1})
}

func wantFound(t *testing.T, l []api.Entry, name string, place int, found bool) {
	t.Helper()
	if at, is := Find(l, name); at != place || is != found {
		t.Fatalf("%q: place %d, %v", name, at, is)
	}
}

// P11.3: the first entry with the name; place 0 and false, if there is none.
func TestFind(t *testing.T) {
	l := []api.Entry{blob(5, "b"), blob(3, "a"), blob(9, "c"), blob(1, "a"), blob(2, "")}
	wantFound(t, l, "b", 0, true)
	wantFound(t, l, "a", 1, true)
	wantFound(t, l, "c", 2, true)
	wantFound(t, l, "", 4, true)
	for _, name := range []string{"d", "A", "ab", "a ", "a\x00", "/", "\xff"} {
		wantFound(t, l, name, 0, false)
	}
	wantFound(t, nil, "a", 0, false)
	wantFound(t, nil, "", 0, false)
	wantFound(t, []api.Entry{}, "a", 0, false)
	wantFound(t, []api.Entry{{}}, "", 0, true)
	wantFound(t, l[:3][:1], "a", 0, false)
	for i, e := range many(600) {
		wantFound(t, many(600), e.Name, i, true)
	}
}

// plainWith is With, worked out otherwise.
func plainWith(l []api.Entry, e api.Entry) []api.Entry {
	var ahead, behind []api.Entry
	for _, x := range l {
		switch {
		case x.Name == e.Name, x.Blind == e.Blind:
		case len(behind) > 0, string(x.Blind[:]) > string(e.Blind[:]):
			behind = append(behind, x)
		default:
			ahead = append(ahead, x)
		}
	}
	return slices.Concat(ahead, []api.Entry{e}, behind)
}

func wantWith(t *testing.T, l []api.Entry, e api.Entry, want []api.Entry) {
	t.Helper()
	if got := With(l, e); !slices.Equal(got, want) {
		t.Fatalf("%v with %v is %v", l, e, got)
	}
}

// P11.3: an entry that is new, at each place.
func TestWithANewEntry(t *testing.T) {
	a, b, c := blob(2, "a"), blob(4, "b"), blob(6, "c")
	l := []api.Entry{a, b, c}
	wantWith(t, nil, a, []api.Entry{a})
	wantWith(t, []api.Entry{}, api.Entry{}, []api.Entry{{}})
	wantWith(t, l, blob(1, "n"), []api.Entry{blob(1, "n"), a, b, c})
	wantWith(t, l, blob(3, "n"), []api.Entry{a, blob(3, "n"), b, c})
	wantWith(t, l, blob(5, "n"), []api.Entry{a, b, blob(5, "n"), c})
	wantWith(t, l, blob(7, "n"), []api.Entry{a, b, c, blob(7, "n")})
	wantWith(t, l, blob(0xff, "0"), []api.Entry{a, b, c, blob(0xff, "0")})
}

// P11.3: an entry whose name or Blind is there already, or both, of one or of two entries.
func TestWithInThePlaceOfOthers(t *testing.T) {
	a, b, c := blob(2, "a"), blob(4, "b"), blob(6, "c")
	l := []api.Entry{a, b, c}
	other := api.Entry{Blind: api.Id{4}, Name: "b", Kind: api.KindDir, Id: api.Id{1}, Key: api.Key{2}, Realm: 3, Epoch: 4}
	wantWith(t, l, b, l)
	wantWith(t, l, other, []api.Entry{a, other, c})
	wantWith(t, l, blob(4, "n"), []api.Entry{a, blob(4, "n"), c})
	wantWith(t, l, blob(1, "b"), []api.Entry{blob(1, "b"), a, c})
	wantWith(t, l, blob(5, "b"), []api.Entry{a, blob(5, "b"), c})
	wantWith(t, l, blob(9, "b"), []api.Entry{a, c, blob(9, "b")})
	wantWith(t, l, blob(2, "c"), []api.Entry{blob(2, "c"), b})
	wantWith(t, l, blob(6, "a"), []api.Entry{b, blob(6, "a")})
	wantWith(t, []api.Entry{a}, blob(2, "n"), []api.Entry{blob(2, "n")})
}

// P11.3: of lists in no order all with the name or the Blind are left out, and e stands ahead of the first greater one of those that stay.
func TestWithOfListsInNoOrder(t *testing.T) {
	wantWith(t, []api.Entry{blob(9, "x"), blob(3, "y")}, blob(5, "x"), []api.Entry{blob(3, "y"), blob(5, "x")})
	wantWith(t, []api.Entry{blob(7, "a"), blob(1, "b"), blob(8, "c")}, blob(2, "n"), []api.Entry{blob(2, "n"), blob(7, "a"), blob(1, "b"), blob(8, "c")})
	wantWith(t, []api.Entry{blob(1, "a"), blob(2, "n"), blob(3, "n"), blob(5, "b"), blob(5, "c"), blob(6, "n"), blob(0, "d")}, blob(5, "n"), []api.Entry{blob(1, "a"), blob(0, "d"), blob(5, "n")})
}

// P11.3: each short list and each entry, as another way tells it.
func TestWithOverShortLists(t *testing.T) {
	of := few()
	shortLists(of, 3, func(l []api.Entry) {
		for _, e := range append(of, blob(0, "z"), blob(2, "a"), blob(0xff, "c")) {
			wantWith(t, l, e, plainWith(l, e))
		}
	})
}

// P11.3: With refuses nothing, not even more entries than a directory has.
func TestWithRefusesNothing(t *testing.T) {
	if got := With(many(500), blob(0xff, "new")); len(got) != 501 || got[500] != blob(0xff, "new") || Good(got) {
		t.Fatalf("%d entries", len(got))
	}
	e := api.Entry{Name: "/", Kind: -1}
	if got := With(many(3)[1:], e); len(got) != 3 || got[0] != e {
		t.Fatalf("%v", got)
	}
}

// P11.4: With of Good ones is Good, if e may be and they are not more than 500 then.
func TestWithOfGoodOnesIsGood(t *testing.T) {
	good := 0
	of := mixed([]byte{1, 3, 5, 7}, []string{"a", "b", "c"}, []int{1, 2, 4})
	shortLists(mixed([]byte{1, 3, 5, 7}, []string{"a", "b", "c"}, []int{2}), 3, func(l []api.Entry) {
		if !Good(l) {
			return
		}
		good++
		for _, e := range append(of, blob(0, "a"), blob(4, "b"), blob(9, "c"), blob(2, "d")) {
			if got := With(l, e); !Good(got) {
				t.Fatalf("%v with %v is %v", l, e, got)
			}
		}
		for _, name := range []string{"a", "b", "c", "d", ""} {
			if got := Without(l, name); !Good(got) {
				t.Fatalf("%v without %q is %v", l, name, got)
			}
		}
	})
	if good < 50 {
		t.Fatalf("only %d lists were Good", good)
	}
	for what, l := range goodLists() {
		for _, e := range []api.Entry{blob(0, "new"), blob(1, "a"), blob(0x80, "n0"), blob(0xff, strings.Repeat("y", 64))} {
			if got := With(l, e); Good(got) != (len(got) <= 500) {
				t.Fatalf("%s with %v: %d entries", what, e, len(got))
			}
		}
	}
	full := many(500)
	if !Good(With(full, full[7])) || !Good(With(full, api.Entry{Blind: full[9].Blind, Name: "new", Kind: 4})) || !Good(With(full, blob(0xff, full[0].Name))) || Good(With(full, blob(0xff, "new"))) {
		t.Fatal("of 500")
	}
}

// P11.4: what makes e itself wrong makes With's answer so.
func TestWithOfWrongOnesIsNotGood(t *testing.T) {
	for _, kind := range badKinds() {
		if Good(With(many(3), api.Entry{Blind: api.Id{9}, Name: "new", Kind: kind})) {
			t.Fatalf("kind %d", kind)
		}
	}
	for _, name := range badNames() {
		if Good(With(many(3), blob(9, name))) {
			t.Fatalf("name %.70q", name)
		}
	}
}

// P11.3: one of the entries has e's Blind and another name.
func TestClashes(t *testing.T) {
	l := []api.Entry{blob(5, "b"), blob(3, "a"), blob(9, "c")}
	for _, e := range append(l, blob(5, "c"), blob(3, "b"), blob(9, ""), blob(4, "a"), blob(4, "n"), blob(0, "")) {
		want := e == blob(5, "c") || e == blob(3, "b") || e == blob(9, "")
		if Clashes(l, e) != want || Clashes(nil, e) || Clashes([]api.Entry{}, e) {
			t.Fatalf("%v", e)
		}
	}
	same := api.Entry{Blind: api.Id{5}, Name: "b", Kind: api.KindDir, Id: api.Id{1}, Key: api.Key{1}, Realm: 1, Epoch: 1}
	if Clashes(l, same) {
		t.Fatal("only kind, id, key, realm and epoch are unlike")
	}
	if !Clashes([]api.Entry{blob(5, "b"), blob(5, "c")}, blob(5, "b")) || !Clashes([]api.Entry{blob(5, "c"), blob(5, "b")}, blob(5, "b")) {
		t.Fatal("the clashing one of two")
	}
	last := api.Entry{Blind: api.Id{5, 31: 1}, Name: "n"}
	if Clashes(l, last) || !Clashes(append(l, api.Entry{Blind: last.Blind, Name: "m"}), last) {
		t.Fatal("the last byte")
	}
	if !Clashes([]api.Entry{{}}, api.Entry{Name: "a"}) || Clashes([]api.Entry{{}}, api.Entry{}) {
		t.Fatal("noughts")
	}
}

// P11.3: each short list and each entry, as With tells it: what clashes is what it takes out for the Blind alone.
func TestClashesOverShortLists(t *testing.T) {
	of := few()
	shortLists(of, 3, func(l []api.Entry) {
		for _, e := range append(of, blob(0, "a")) {
			want := len(With(l, e)) < len(Without(l, e.Name))+1
			if Clashes(l, e) != want {
				t.Fatalf("%v, %v", l, e)
			}
		}
	})
}

// P11.3: all with the name are left out, the others stay in their order.
func TestWithout(t *testing.T) {
	a, b, c := blob(2, "a"), blob(4, "b"), blob(6, "c")
	for _, x := range []struct {
		l    []api.Entry
		name string
		want []api.Entry
	}{
		{nil, "a", nil},
		{[]api.Entry{}, "", nil},
		{[]api.Entry{a}, "a", nil},
		{[]api.Entry{a, b, c}, "a", []api.Entry{b, c}},
		{[]api.Entry{a, b, c}, "b", []api.Entry{a, c}},
		{[]api.Entry{a, b, c}, "c", []api.Entry{a, b}},
		{[]api.Entry{a, b, c}, "d", []api.Entry{a, b, c}},
		{[]api.Entry{a, b, c}, "", []api.Entry{a, b, c}},
		{[]api.Entry{c, a, b, a, a, c, a}, "a", []api.Entry{c, b, c}},
		{[]api.Entry{a, a, a}, "a", nil},
		{[]api.Entry{{}, a, {}}, "", []api.Entry{a}},
	} {
		if got := Without(x.l, x.name); !slices.Equal(got, x.want) {
			t.Errorf("%v without %q is %v", x.l, x.name, got)
		}
	}
	if got := Without(many(700), "n0"); !slices.Equal(got, many(700)[1:]) {
		t.Errorf("%d of 700 stay", len(got))
	}
}

// P11.3: what With puts in, Without takes out.
func TestWithAndWithout(t *testing.T) {
	l := many(40)
	for _, e := range []api.Entry{blob(0xff, "new"), {Blind: api.Id{0, 7, 31: 255}, Name: "new"}, {Name: "new"}} {
		if got := Without(With(l, e), "new"); !slices.Equal(got, l) {
			t.Fatalf("%v: %d entries", e, len(got))
		}
	}
}

// P11.3: the Ids, each once, rising, as envel has them.
func TestLinks(t *testing.T) {
	withId := func(id api.Id, kind int) api.Entry {
		return api.Entry{Blind: api.Id{0xee}, Kind: kind, Id: id, Key: api.Key{0xdd}}
	}
	l := []api.Entry{withId(api.Id{3}, 1), withId(api.Id{31: 9}, 2), withId(api.Id{3}, 4), withId(api.Id{}, 1), withId(api.Id{0xff}, 0), withId(api.Id{31: 9}, -1)}
	if got, want := Links(l), []api.Id{{}, {31: 9}, {3}, {0xff}}; !slices.Equal(got, want) {
		t.Fatalf("%x", got)
	}
	if got := Links(nil); len(got) != 0 {
		t.Fatalf("%x", got)
	}
	if got := Links([]api.Entry{}); len(got) != 0 {
		t.Fatalf("%x", got)
	}
	if got := Links([]api.Entry{{}, {}}); !slices.Equal(got, []api.Id{{}}) {
		t.Fatalf("%x", got)
	}
	for _, n := range []int{1, 2, 10, 500, 2000} {
		ids := []api.Id{}
		for _, e := range many(n) {
			ids = append(ids, e.Id)
		}
		slices.SortFunc(ids, func(a, b api.Id) int { return bytes.Compare(a[:], b[:]) })
		want := slices.Compact(slices.Clone(ids))
		if got := Links(many(n)); !slices.Equal(got, want) || !slices.Equal(got, envel.Links(ids...)) {
			t.Fatalf("%d links of %d entries", len(got), n)
		}
	}
}

// names is what Names tells.
func names(l []api.Entry) []string {
	return slices.Collect(Names(l))
}

// P11.3: rising byte by byte, each as often as it is there, whatever it is.
func TestNames(t *testing.T) {
	named := func(names ...string) []api.Entry {
		var out []api.Entry
		for i, name := range names {
			out = append(out, blob(byte(i), name))
		}
		return out
	}
	for _, x := range []struct{ l, want []string }{
		{nil, nil},
		{[]string{"a"}, []string{"a"}},
		{[]string{"c", "a", "b"}, []string{"a", "b", "c"}},
		{[]string{"b", "a", "b", "a", "b"}, []string{"a", "a", "b", "b", "b"}},
		{[]string{"", "a", ""}, []string{"", "", "a"}},
		{[]string{"ab", "a", "B", "b", "aa", "a\x00", "A"}, []string{"A", "B", "a", "a\x00", "aa", "ab", "b"}},
		{[]string{"\xff", "ä", "z", "~", "名", "10", "9", "/"}, []string{"/", "10", "9", "z", "~", "ä", "名", "\xff"}},
	} {
		if got := names(named(x.l...)); !slices.Equal(got, x.want) {
			t.Errorf("%q: %q", x.l, got)
		}
	}
	if got := names([]api.Entry{}); len(got) != 0 {
		t.Errorf("%q", got)
	}
	var want []string
	for _, e := range many(800) {
		want = append(want, e.Name)
	}
	slices.Sort(want)
	if got := names(many(800)); !slices.Equal(got, want) {
		t.Errorf("%d of 800", len(got))
	}
}

// P11.3: each short list, by counting.
func TestNamesOverShortLists(t *testing.T) {
	shortLists(few(), 4, func(l []api.Entry) {
		count := map[string]int{}
		for _, e := range l {
			count[e.Name]++
		}
		var want []string
		for _, name := range []string{"", "a", "b"} {
			want = append(want, slices.Repeat([]string{name}, count[name])...)
		}
		if got := names(l); !slices.Equal(got, want) {
			t.Fatalf("%v: %q", l, got)
		}
	})
}

// P5: names that are told may be left at any time, and gone through again, within themselves too.
func TestNamesMayBeLeft(t *testing.T) {
	seq := Names([]api.Entry{blob(1, "c"), blob(2, "a"), blob(3, "b"), blob(4, "a")})
	want := []string{"a", "a", "b", "c"}
	for stop := range 5 {
		var told []string
		for name := range seq {
			if len(told) == stop {
				break
			}
			told = append(told, name)
		}
		if !slices.Equal(told, want[:stop]) {
			t.Fatalf("left behind %d: %q", stop, told)
		}
	}
	pairs := ""
	for a := range seq {
		for b := range seq {
			pairs += a + b
		}
	}
	if pairs != "aaaaabac"+"aaaaabac"+"bababbbc"+"cacacbcc" {
		t.Fatal(pairs)
	}
	for stop := range 3 {
		told := 0
		seq(func(string) bool {
			told++
			return told <= stop
		})
		if told != stop+1 {
			t.Fatalf("%d names told, left at %d", told, stop+1)
		}
	}
}

// P2, P3: what Names tells are the names at the call, whatever becomes of the list then.
func TestNamesAreThoseAtTheCall(t *testing.T) {
	l := []api.Entry{blob(1, "b"), blob(2, "a")}
	seq := Names(l)
	l[0].Name = "z"
	for range 2 {
		if got := slices.Collect(seq); !slices.Equal(got, []string{"a", "b"}) {
			t.Fatalf("%q", got)
		}
	}
}

// P2: no call changes what it is given, or looks at what lies behind the list's length.
func TestArgumentsStayAsTheyAre(t *testing.T) {
	for _, n := range []int{0, 1, 2, 5} {
		all := append(many(n), blob(0xff, "behind"), blob(0xff, "behind"))
		was := slices.Clone(all)
		l := all[:n]
		if _, is := Find(l, "behind"); is || Clashes(l, blob(0xff, "a")) || !Good(l) {
			t.Fatal("read behind the list")
		}
		b, e := Put(l)
		if e != api.OK || !bytes.Equal(b, plainPut(l)) {
			t.Fatal("written behind the list")
		}
		kept := slices.Clone(b)
		got, _ := Of(b)
		for _, x := range [][]api.Entry{With(l, blob(0, "new")), With(l, blob(0xfe, "new")), With(l, blob(0xff, "n0")), Without(l, "n0"), Without(l, "behind"), got} {
			for i := range x {
				x[i] = blob(0xee, "changed")
			}
			_ = append(x, blob(0xee, "more"))
		}
		ids := append(Links(l), api.Id{0xee})
		for i := range ids {
			ids[i] = api.Id{0xee}
		}
		if len(names(l)) != n || !slices.Equal(all, was) || !bytes.Equal(b, kept) {
			t.Fatalf("of %d entries some were changed", n)
		}
	}
}

// P2: what is answered has no room behind it in which something else could stand.
func TestAnswersHaveNoRoom(t *testing.T) {
	for _, n := range []int{0, 1, 2, 5, 100} {
		l := many(n)
		b, _ := Put(l)
		got, _ := Of(b)
		for i, x := range [][]api.Entry{got, With(l, blob(0xfe, "new")), With(l, blob(0, "n0")), Without(l, "n0"), Without(l, "none")} {
			if cap(x) != len(x) {
				t.Errorf("answer %d: %d entries with room for %d", i, len(x), cap(x))
			}
		}
		if cap(b) != len(b) {
			t.Errorf("%d bytes with room for %d", len(b), cap(b))
		}
	}
}

// within says whether part's bytes lie in whole's memory.
func within(part, whole string) bool {
	if part == "" || whole == "" {
		return false
	}
	p, w := uintptr(unsafe.Pointer(unsafe.StringData(part))), uintptr(unsafe.Pointer(unsafe.StringData(whole)))
	return p < w+uintptr(len(whole)) && w < p+uintptr(len(part))
}

// P2: names that are answered are in memory of their own.
func TestNamesShareNothing(t *testing.T) {
	var l []api.Entry
	for i := range 4 {
		l = append(l, blob(byte(2*i), "name "+strconv.Itoa(i)))
	}
	e := blob(3, "new "+strconv.Itoa(1))
	answers := slices.Concat(names(l), names(With(nil, e)))
	for _, x := range slices.Concat(With(l, e), Without(l, "none")) {
		answers = append(answers, x.Name)
	}
	for i, name := range answers {
		for _, x := range append(l, e) {
			if within(name, x.Name) {
				t.Fatalf("answer %d, %q, shares memory", i, name)
			}
		}
		for _, other := range answers[:i] {
			if within(name, other) {
				t.Fatalf("two answers share %q", name)
			}
		}
	}
}

// P3: asked again, the same is answered.
func TestTheSameAgain(t *testing.T) {
	l := many(20)
	first, _ := Put(l)
	for range 3 {
		b, e := Put(l)
		got, f := Of(first)
		if e != api.OK || f != api.OK || !bytes.Equal(b, first) || !slices.Equal(got, l) {
			t.Fatalf("errors %d, %d", e, f)
		}
		if !slices.Equal(With(l, l[3]), l) || !slices.Equal(Without(l, l[0].Name), l[1:]) {
			t.Fatal("otherwise")
		}
	}
}
