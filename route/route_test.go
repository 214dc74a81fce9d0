package route

import (
	"slices"
	"strconv"
	"strings"
	"testing"
	"unsafe"

	"tabularium/api"
	"tabularium/mac"
	"tabularium/suite"
	"tabularium/tape"
)

// goodNames are names that may be, ordinary ones and those at the edges.
func goodNames() []string {
	return []string{
		"a", "Z", "0", "name", "a name", "a.b", "...", "....", ".a", "a.", "..a", "a..", ". ", " .", " ", "\\", "-", "\n", "\x01", "\x7f",
		"\xff", "\xc0\xaf", "\xe2\x80", "ä", "名前", "\u2215", "\u2024", "..\xff",
		strings.Repeat("x", 63), strings.Repeat("x", 64), strings.Repeat(".", 64), strings.Repeat("ä", 32), strings.Repeat("\xff", 64),
	}
}

// badNames are texts that are no names.
func badNames() []string {
	return []string{
		"", ".", "..", "/", "//", "a/b", "/a", "a/", "./", "../", "/.", "/..",
		"\x00", "a\x00", "\x00a", "a\x00b", ".\x00", "..\x00", "\x00\x00", "/\x00",
		strings.Repeat("x", 65), strings.Repeat("ä", 33), strings.Repeat("x", 64) + "\x00", strings.Repeat("x", 63) + "\x00", "\x00" + strings.Repeat("x", 63),
		strings.Repeat("x", 63) + "/", strings.Repeat("x", 70000), strings.Repeat("ä", 64),
	}
}

// P10.1: ordinary names, and all that the words let in.
func TestGood(t *testing.T) {
	for _, name := range goodNames() {
		if !Good(name) {
			t.Errorf("%q is refused", name)
		}
	}
}

// P10.1: wrong ones.
func TestGoodRefuses(t *testing.T) {
	for _, name := range badNames() {
		if Good(name) {
			t.Errorf("%q is taken", name)
		}
	}
}

// P10.1: each byte, by itself and among others, at each place.
func TestGoodByteByByte(t *testing.T) {
	for c := range 256 {
		one := string([]byte{byte(c)})
		if want := c != 0 && c != '/' && c != '.'; Good(one) != want {
			t.Errorf("byte %d alone", c)
		}
		for place := range 64 {
			name := strings.Repeat("x", place) + one + strings.Repeat("x", 63-place)
			if want := c != 0 && c != '/'; Good(name) != want {
				t.Errorf("byte %d at place %d", c, place)
			}
		}
	}
}

// P10.1: each length, with bytes and not letters counted.
func TestGoodOfEachLength(t *testing.T) {
	for n := range 200 {
		want := n >= 1 && n <= 64
		if Good(strings.Repeat("x", n)) != want {
			t.Errorf("%d bytes", n)
		}
		if n > 2 && Good(strings.Repeat(".", n)) != want {
			t.Errorf("%d points", n)
		}
		if Good(strings.Repeat("ä", n)) != (n >= 1 && n <= 32) {
			t.Errorf("%d letters of two bytes", n)
		}
	}
}

// numbers is n names, each its place.
func numbers(n int) []string {
	out := make([]string, n)
	for i := range out {
		out[i] = strconv.Itoa(i)
	}
	return out
}

func wantSplit(t *testing.T, path string, want []string) {
	t.Helper()
	if got, e := Split(path); e != api.OK || !slices.Equal(got, want) {
		t.Errorf("%q: %q, error %d", path, got, e)
	}
}

func wantNoSplit(t *testing.T, path string, want api.Errno) {
	t.Helper()
	if got, e := Split(path); e != want || got != nil {
		t.Errorf("%q: %q, error %d and not %d", path, got, e, want)
	}
}

// P10.2: ordinary paths, the empty one, and the examples of the document.
func TestSplit(t *testing.T) {
	wantSplit(t, "", nil)
	wantSplit(t, "a", []string{"a"})
	wantSplit(t, "a/b", []string{"a", "b"})
	wantSplit(t, "b/a", []string{"b", "a"})
	wantSplit(t, "a/a/a", []string{"a", "a", "a"})
	wantSplit(t, "dir/sub/a file.txt", []string{"dir", "sub", "a file.txt"})
	wantSplit(t, ".a/..b/...", []string{".a", "..b", "..."})
	wantSplit(t, "a\\b/\xff/ä", []string{"a\\b", "\xff", "ä"})
	wantNoSplit(t, "a//b", api.ErrName)
}

// P10.2: a path of one Good name is that name.
func TestSplitOfOneName(t *testing.T) {
	for _, name := range goodNames() {
		wantSplit(t, name, []string{name})
	}
}

// P10.2: none of a path's names may be wrong, wherever it stands.
func TestSplitRefusesNames(t *testing.T) {
	for _, path := range []string{
		"/", "//", "///", "/a", "a/", "a//", "//a", "a//b", "a/b/", "/a/b", "/a/b/", "a/b//", "a///b",
		".", "..", "./a", "../a", "a/.", "a/..", "a/./b", "a/../b",
		"\x00", "a/\x00", "\x00/a", "a/b\x00c/d",
		strings.Repeat("x", 65), strings.Repeat("x", 65) + "/a", "a/" + strings.Repeat("x", 65), "a/" + strings.Repeat("ä", 33) + "/b",
		strings.Repeat("x", 100000), strings.Repeat("x", 100000) + "/" + strings.Repeat("y", 100000),
	} {
		wantNoSplit(t, path, api.ErrName)
	}
	for _, bad := range badNames() {
		if bad == "" || strings.Contains(bad, "/") {
			continue
		}
		for place := range 16 {
			names := numbers(16)
			names[place] = bad
			wantNoSplit(t, strings.Join(names, "/"), api.ErrName)
		}
	}
}

// P10.2: up to 16 names and no more.
func TestSplitOfDeepPaths(t *testing.T) {
	long := strings.Repeat("x", 64)
	for n := range 40 {
		names := numbers(n)
		longs := slices.Repeat([]string{long}, n)
		if n <= 16 {
			wantSplit(t, strings.Join(names, "/"), names)
			wantSplit(t, strings.Join(longs, "/"), longs)
			continue
		}
		wantNoSplit(t, strings.Join(names, "/"), api.ErrDeep)
		wantNoSplit(t, strings.Join(longs, "/"), api.ErrDeep)
	}
}

// P10.2, P4: of a path that is too deep and has wrong names ErrDeep is told; what is no name counts too.
func TestSplitTellsErrDeepAhead(t *testing.T) {
	for n := 1; n < 40; n++ {
		want := api.ErrName
		if n+1 > 16 {
			want = api.ErrDeep
		}
		wantNoSplit(t, strings.Repeat("/", n), want)
	}
	for place := range 17 {
		for _, bad := range []string{"", ".", "..", "\x00", strings.Repeat("x", 65)} {
			names := numbers(17)
			names[place] = bad
			wantNoSplit(t, strings.Join(names, "/"), api.ErrDeep)
		}
	}
	wantNoSplit(t, strings.Join(numbers(16), "/")+"/", api.ErrDeep)
	wantNoSplit(t, "/"+strings.Join(numbers(16), "/"), api.ErrDeep)
	wantNoSplit(t, strings.Join(numbers(15), "/")+"/", api.ErrName)
	wantNoSplit(t, "/"+strings.Join(numbers(15), "/"), api.ErrName)
	wantNoSplit(t, strings.Repeat("a/", 500000), api.ErrDeep)
	wantNoSplit(t, strings.Repeat("/", 1000000), api.ErrDeep)
}

// plainSplit is Split, worked out otherwise.
func plainSplit(path string) ([]string, api.Errno) {
	if path == "" {
		return nil, api.OK
	}
	names := strings.Split(path, "/")
	if len(names) > 16 {
		return nil, api.ErrDeep
	}
	for _, name := range names {
		if name == "" || name == "." || name == ".." || len(name) > 64 || strings.Contains(name, "\x00") {
			return nil, api.ErrName
		}
	}
	return names, api.OK
}

// shortTexts tells each text of at most n of the letters.
func shortTexts(letters string, n int, tell func(string)) {
	texts := []string{""}
	for range n + 1 {
		var longer []string
		for _, text := range texts {
			tell(text)
			for i := range len(letters) {
				longer = append(longer, text+letters[i:i+1])
			}
		}
		texts = longer
	}
}

// P10.2: each short text, as another splitter takes it; and Steps tells the same, with their places.
func TestSplitAndStepsOverShortTexts(t *testing.T) {
	shortTexts("a./\x00", 6, func(path string) {
		want, bad := plainSplit(path)
		got, e := Split(path)
		if e != bad || !slices.Equal(got, want) || e != api.OK && got != nil {
			t.Fatalf("%q: %q, error %d", path, got, e)
		}
		wantSteps(t, path, want)
	})
}

func wantSteps(t *testing.T, path string, want []string) {
	t.Helper()
	n := 0
	for i, name := range Steps(path) {
		if i != n || i >= len(want) || name != want[i] {
			t.Fatalf("%q: place %d, %q", path, i, name)
		}
		n++
	}
	if n != len(want) {
		t.Fatalf("%q: %d names and not %d", path, n, len(want))
	}
}

// P10.2: the names with their places; nothing of the empty path, and nothing with an error.
func TestSteps(t *testing.T) {
	wantSteps(t, "", nil)
	wantSteps(t, "a", []string{"a"})
	wantSteps(t, "a/b", []string{"a", "b"})
	wantSteps(t, "b/a/b", []string{"b", "a", "b"})
	wantSteps(t, strings.Join(numbers(16), "/"), numbers(16))
	for _, path := range []string{"/", "a/", "/a", "a//b", "a/b/..", "a/b/.", "a/b/\x00", "a/b/" + strings.Repeat("x", 65), strings.Join(numbers(17), "/")} {
		wantSteps(t, path, nil)
	}
}

// P5: what is told may be left at any time, and gone through again, within itself too.
func TestStepsMayBeLeft(t *testing.T) {
	names := numbers(16)
	steps := Steps(strings.Join(names, "/"))
	for last := range names {
		told := 0
		for i, name := range steps {
			if i != told || name != names[i] {
				t.Fatalf("place %d, %q behind %d names", i, name, told)
			}
			told++
			if i == last {
				break
			}
		}
		if told != last+1 {
			t.Fatalf("%d names and not %d", told, last+1)
		}
	}
	pairs := 0
	for i, a := range steps {
		for j, b := range steps {
			if a != names[i] || b != names[j] {
				t.Fatalf("%d, %d: %q, %q", i, j, a, b)
			}
			pairs++
		}
	}
	if pairs != 16*16 {
		t.Fatalf("%d pairs", pairs)
	}
}

// P5: nothing is told behind a break, where nobody listens any more.
func TestNothingIsToldBehindABreak(t *testing.T) {
	for stop := range 3 {
		steps, pieces := 0, 0
		Steps("a/b/c")(func(int, string) bool {
			steps++
			return steps <= stop
		})
		between("a/b/c")(func(string) bool {
			pieces++
			return pieces <= stop
		})
		if steps != stop+1 || pieces != stop+1 {
			t.Fatalf("%d and %d names told, left at %d", steps, pieces, stop+1)
		}
	}
}

// P10.2: the names with / between, whatever they are.
func TestJoin(t *testing.T) {
	for _, names := range [][]string{
		nil, {}, {"a"}, {"a", "b"}, {"b", "a", "b"}, {""}, {"", ""}, {"", "", ""}, {"a", ""}, {"", "a"}, {"a", "", "b"},
		{"."}, {"..", "."}, {"/"}, {"/", "/"}, {"a/b", "c"}, {"\x00", "\xff"}, {"ä", "名前"},
		numbers(16), numbers(17), numbers(1000), badNames(), goodNames(),
	} {
		want := ""
		for i, name := range names {
			want += name
			if i < len(names)-1 {
				want += "/"
			}
		}
		if got := Join(names...); got != want {
			t.Errorf("%q: %q", names, got)
		}
	}
	if Join() != "" || Join("a", "b") != "a/b" || Join("", "") != "/" {
		t.Error("by hand")
	}
}

// P10.5: of up to 16 Good names, all there are and mixed ones.
func TestThereAndBack(t *testing.T) {
	all := goodNames()
	for first := range all {
		for n := range 17 {
			names := []string{}
			for i := range n {
				names = append(names, all[(first+i*(first+1))%len(all)])
			}
			wantSplit(t, Join(names...), names)
		}
	}
}

// P10.5: and Join of what Split answers is the path.
func TestBackAndThere(t *testing.T) {
	shortTexts("ab./", 6, func(path string) {
		if names, e := Split(path); e == api.OK && Join(names...) != path {
			t.Fatalf("%q: %q", path, names)
		}
	})
}

// sample is n bytes without a short period.
func sample(n int) []byte {
	out := make([]byte, n)
	x := uint32(1)
	for i := range out {
		x = x*1664525 + 1013904223
		out[i] = byte(x >> 24)
	}
	return out
}

// P10.3: of a Real suite, by the mac itself; no name is refused.
func TestBlindOfARealSuite(t *testing.T) {
	s := suite.New(api.Real, nil)
	for _, k := range []api.Key{{}, {1}, {31: 1}, api.Key(sample(32))} {
		for _, name := range append(goodNames(), badNames()...) {
			got, e := Blind(s, k, name)
			if want := mac.Sum(k[:], []byte{0x6e}, []byte(name)); e != api.OK || got != api.Id(want) {
				t.Errorf("%q: %x, error %d", name, got, e)
			}
		}
	}
}

// P10.3: other keys and other names have other blinds.
func TestBlindHangsOnKeyAndName(t *testing.T) {
	s := suite.New(api.Real, nil)
	met := map[api.Id]int{}
	for k := range 8 {
		for _, name := range append(goodNames(), badNames()...) {
			b, e := Blind(s, api.Key{byte(k)}, name)
			if met[b]++; met[b] > 1 || e != api.OK {
				t.Fatalf("key %d, %q: error %d", k, name, e)
			}
		}
	}
}

// P10.3: of an Ideal suite, drawn once for each key and name, and the Prf of the label n.
func TestBlindOfAnIdealSuite(t *testing.T) {
	draws := sample(3 * 32)
	s := suite.New(api.Ideal, tape.New(draws))
	ask := func(k api.Key, name string, draw int) {
		t.Helper()
		if got, e := Blind(s, k, name); e != api.OK || got != api.Id(draws[32*draw:][:32]) {
			t.Fatalf("%x, error %d", got, e)
		}
		if p, e := s.Prf(k, 'n', []byte(name)); e != api.OK || p != api.Key(draws[32*draw:][:32]) {
			t.Fatalf("not the Prf: error %d", e)
		}
	}
	ask(api.Key{1}, "a", 0)
	ask(api.Key{1}, "b", 1)
	ask(api.Key{1}, "a", 0)
	ask(api.Key{2}, "a", 2)
	ask(api.Key{1}, "b", 1)
	if got, e := Blind(s, api.Key{2}, "b"); e != api.ErrEntropy || got != (api.Id{}) {
		t.Fatalf("without draws: %x, error %d", got, e)
	}
	ask(api.Key{2}, "a", 2)
}

// P10.3, P1, P4: without a suite, without draws, and with too few of them.
func TestBlindTellsTheSuitesError(t *testing.T) {
	for what, c := range map[string]struct {
		s    *suite.Suite
		want api.Errno
	}{
		"nil":                {nil, api.ErrRange},
		"a zero value":       {&suite.Suite{}, api.ErrRange},
		"of no mode":         {suite.New(2, tape.New(sample(64))), api.ErrRange},
		"without a tape":     {suite.New(api.Ideal, nil), api.ErrEntropy},
		"with an empty tape": {suite.New(api.Ideal, tape.New(nil)), api.ErrEntropy},
		"one byte too few":   {suite.New(api.Ideal, tape.New(sample(31))), api.ErrEntropy},
	} {
		for _, name := range []string{"a", "", "/"} {
			if got, e := Blind(c.s, api.Key{1}, name); e != c.want || got != (api.Id{}) {
				t.Errorf("%s, %q: %x, error %d", what, name, got, e)
			}
		}
	}
}

// P10.4: ordinary paths, the empty ones, and those that only begin alike.
func TestUnder(t *testing.T) {
	for _, c := range []struct {
		path, dir string
		want      bool
	}{
		{"", "", true}, {"x", "", true}, {"x/y", "", true}, {"/", "", true}, {"/x", "", true}, {"\x00", "", true},
		{"a", "a", true}, {"a/b", "a", true}, {"a/b/c", "a", true}, {"a/b/c", "a/b", true}, {"a/b", "a/b", true}, {"a/a", "a", true},
		{"a/", "a", true}, {"a//", "a", true}, {"a//b", "a", true}, {"a//b", "a/", true}, {"/", "/", true}, {"//", "/", true}, {"/a", "/", false},
		{"", "a", false}, {"ab", "a", false}, {"ab/c", "a", false}, {"a", "ab", false}, {"a", "a/b", false}, {"a", "a/", false}, {"a/b", "a/", false},
		{"b", "a", false}, {"b/a", "a", false}, {"b/a", "a/b", false}, {"a/bc", "a/b", false}, {"a/c", "a/b", false}, {"a.b", "a", false}, {"a\x00/b", "a", false},
		{"A/b", "a", false}, {"a0", "a", false}, {"aa", "a", false}, {"", "/", false}, {"x/a/b", "a", false},
		{"..", "..", true}, {"../a", "..", true}, {"../a", ".", false}, {"ä/b", "ä", true}, {"ä/b", "\xc3", false},
		{strings.Repeat("x", 70000) + "/y", strings.Repeat("x", 70000), true}, {strings.Repeat("x", 70000), strings.Repeat("x", 69999), false},
	} {
		if Under(c.path, c.dir) != c.want {
			t.Errorf("%q, %q: not %v", c.path, c.dir, c.want)
		}
	}
}

// P10.4: each two short texts.
func TestUnderOverShortTexts(t *testing.T) {
	shortTexts("ab/", 4, func(path string) {
		shortTexts("ab/", 4, func(dir string) {
			want := path == dir || strings.HasPrefix(path, dir+"/") || dir == ""
			if Under(path, dir) != want {
				t.Fatalf("%q, %q: not %v", path, dir, want)
			}
		})
	})
}

// P10.4, P10.2: a path is under each path that its first names make, and under no other of theirs.
func TestUnderItsOwnDirectories(t *testing.T) {
	names := numbers(16)
	for n := range 17 {
		for m := range 17 {
			if Under(Join(names[:n]...), Join(names[:m]...)) != (m <= n) {
				t.Fatalf("%d names under %d", n, m)
			}
		}
	}
}

// within says whether part's bytes lie in whole's memory.
func within(part, whole string) bool {
	if part == "" || whole == "" {
		return false
	}
	p, w := uintptr(unsafe.Pointer(unsafe.StringData(part))), uintptr(unsafe.Pointer(unsafe.StringData(whole)))
	return p < w+uintptr(len(whole)) && w < p+uintptr(len(part))
}

// P2: answers are in memory of their own, and no two of them share a list.
func TestAnswersShareNothing(t *testing.T) {
	path := strings.Clone("some/path/of/names")
	first, _ := Split(path)
	second, _ := Split(path)
	for i, name := range first {
		if within(name, path) || within(name, second[i]) {
			t.Errorf("%q shares memory", name)
		}
	}
	for i, name := range Steps(path) {
		if within(name, path) {
			t.Errorf("step %d shares memory", i)
		}
	}
	for i := range first {
		first[i] = "changed"
	}
	if !slices.Equal(second, []string{"some", "path", "of", "names"}) {
		t.Error("two answers share a list")
	}
	for _, names := range [][]string{{"alone"}, {"", "behind"}, {"two", "names"}} {
		joined := Join(names...)
		for _, name := range names {
			if within(joined, name) {
				t.Errorf("Join of %q shares memory", names)
			}
		}
	}
}

// P2: what is given stays as it is, and what lies behind a list's length is nobody's.
func TestArgumentsStayAsTheyAre(t *testing.T) {
	all := []string{"a", "b", "behind"}
	if got := Join(all[:2]...); got != "a/b" {
		t.Errorf("Join: %q", got)
	}
	if !slices.Equal(all, []string{"a", "b", "behind"}) {
		t.Error("Join changed its names")
	}
	names, _ := Split("a/b/c")
	room := append(names, "more")
	if again, _ := Split("a/b/c"); !slices.Equal(again, []string{"a", "b", "c"}) || len(room) != 4 {
		t.Error("Split's room is shared")
	}
	for i, name := range names[:cap(names)] {
		if i >= len(names) && name != "" && name != "more" {
			t.Errorf("%q stands behind the names", name)
		}
	}
}

// P3: asked again, the same is answered.
func TestTheSameAgain(t *testing.T) {
	steps := Steps("a/b")
	for range 3 {
		wantSplit(t, "a/b", []string{"a", "b"})
		wantNoSplit(t, "a//b", api.ErrName)
		n := 0
		for i, name := range steps {
			if i != n || name != []string{"a", "b"}[i] {
				t.Fatal(i, name)
			}
			n++
		}
		if n != 2 {
			t.Fatal(n)
		}
	}
}
