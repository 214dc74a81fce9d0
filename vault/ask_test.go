package vault

import (
	"bytes"
	"fmt"
	"math"
	"slices"
	"strings"
	"testing"

	"tabularium/api"
	"tabularium/envel"
	"tabularium/suite"
	"tabularium/tape"
	"tabularium/wire"
)

// strangeKinds are those that no request has.
func strangeKinds() []int {
	return []int{0, -1, -2, 11, 12, 99, 266, 1<<32 + 1, 1<<32 + 2, math.MaxInt, math.MinInt, math.MinInt + 2}
}

// P17.2, P17's example: without the tenant all is refused but ReqTenant and ReqDone, whatever else is wrong.
func TestNoTenant(t *testing.T) {
	v := host(t)
	id := put(t, v, blob("a"))
	set(t, v, "main", id)
	kinds := append(strangeKinds(), api.ReqPut, api.ReqGet, api.ReqHas, api.ReqRef, api.ReqCas, api.ReqList, api.ReqGc, api.ReqDrop)
	for _, kind := range kinds {
		for _, tenant := range []uint32{0, 2, math.MaxUint32} {
			wantErr(t, v, api.Request{Kind: kind, Tenant: tenant}, api.ErrTenant)
			wantErr(t, v, api.Request{Kind: kind, Tenant: tenant, Name: "main", Id: id, N: 5, Body: blob("a")}, api.ErrTenant)
			wantErr(t, v, api.Request{Kind: kind, Tenant: tenant, Name: "a/b", Old: id, Id: api.Id{1}, Body: []byte("no envelope")}, api.ErrTenant)
		}
	}
	wantErr(t, New(nil), api.Request{Kind: api.ReqGet}, api.ErrTenant)
}

// P17.2: kinds that there aren't.
func TestStrangeKinds(t *testing.T) {
	v := host(t)
	id := put(t, v, blob("a"))
	for _, kind := range strangeKinds() {
		wantErr(t, v, api.Request{Kind: kind, Tenant: 1}, api.ErrRange)
		wantErr(t, v, api.Request{Kind: kind, Tenant: 1, Name: "main", Id: id, N: 5, Body: blob("b")}, api.ErrRange)
	}
}

// P17.2: a tenant comes once, with its quota and nothing else, and goes with all that it has.
func TestTenants(t *testing.T) {
	v := New(suite.New(api.Real, nil))
	for i, n := range []uint32{0, 1, 2, math.MaxUint32} {
		quota := []uint64{100, 0, math.MaxUint64, 1 << 40}[i]
		r := api.Request{Kind: api.ReqTenant, Tenant: n, N: quota, Name: "a/b", Id: api.Id{1}, Old: api.Id{2}, Body: []byte("x")}
		wantAnswer(t, v, r, api.Reply{}, true)
		if used, got, is := v.Used(n); used != 0 || got != quota || !is {
			t.Fatalf("tenant %d: %d of %d, %t", n, used, got, is)
		}
		wantErr(t, v, r, api.ErrTenant)
		wantErr(t, v, api.Request{Kind: api.ReqTenant, Tenant: n, N: 7}, api.ErrTenant)
	}
	text := blob("a")
	for _, n := range []uint32{0, 2} {
		id := wantOK(t, v, api.Request{Kind: api.ReqPut, Tenant: n, Body: text}).Id
		wantOK(t, v, api.Request{Kind: api.ReqCas, Tenant: n, Name: "main", Id: id})
	}
	wantAnswer(t, v, api.Request{Kind: api.ReqDrop, Tenant: 2, N: 5, Name: "main"}, api.Reply{}, true)
	wantErr(t, v, api.Request{Kind: api.ReqDrop, Tenant: 2}, api.ErrTenant)
	wantAnswer(t, v, api.Request{Kind: api.ReqTenant, Tenant: 2, N: 9}, api.Reply{}, true)
	if used, quota, is := v.Used(2); used != 0 || quota != 9 || !is || len(v.Objects(2)) != 0 {
		t.Fatalf("%d of %d, %t", used, quota, is)
	}
	wantErr(t, v, api.Request{Kind: api.ReqRef, Tenant: 2, Name: "main"}, api.ErrNone)
	if used, _, is := v.Used(0); used != 6 || !is || len(v.Objects(0)) != 1 || len(slices.Collect(v.Refs(0))) != 1 {
		t.Fatal("the other tenant lost something")
	}
}

// P17.2: an envelope is kept once, by its digest.
func TestPut(t *testing.T) {
	v := host(t)
	text := blob("text")
	id, _ := suite.New(api.Real, nil).Digest(text)
	r := api.Request{Kind: api.ReqPut, Tenant: 1, Body: text, Id: api.Id{1}, Old: api.Id{2}, N: 3, Name: "a/b"}
	wantErr(t, v, api.Request{Kind: api.ReqGet, Tenant: 1, Id: id}, api.ErrNone)
	wantAnswer(t, v, r, api.Reply{Id: id}, true)
	wantAnswer(t, v, r, api.Reply{Id: id}, false)
	if l := v.Objects(1); len(l) != 1 {
		t.Fatalf("%v", l)
	}
	wantAnswer(t, v, api.Request{Kind: api.ReqGet, Tenant: 1, Id: id}, api.Reply{Id: id, Body: text}, false)
}

// P17.2: what is no envelope's bytes isn't kept.
func TestPutNoEnvelope(t *testing.T) {
	v := host(t)
	good := blob("text")
	for what, b := range map[string][]byte{
		"nothing":           nil,
		"no bytes":          {},
		"a kind too few":    {0, 0, 0, 0, 0},
		"a kind too many":   {4, 0, 0, 0, 0},
		"cut":               good[:len(good)-1],
		"a byte more":       append(slices.Clone(good), 0),
		"a long number":     {0x81, 0, 0, 0, 0, 0},
		"links that fall":   slices.Concat([]byte{1, 0, 0, 2}, ids(2, 1), []byte{0}),
		"links alike":       slices.Concat([]byte{1, 0, 0, 2}, ids(1, 1), []byte{0}),
		"70,001 bytes":      slices.Concat([]byte{1, 0, 0, 0, 0xf1, 0xa2, 4}, make([]byte, 70001)),
		"a link, and a cut": slices.Concat([]byte{1, 0, 0, 1}, ids(9)),
	} {
		if _, e := envel.Of(b); e != api.ErrEnvelope {
			t.Fatalf("%s: it is an envelope", what)
		}
		wantErr(t, v, api.Request{Kind: api.ReqPut, Tenant: 1, Body: b}, api.ErrEnvelope)
	}
}

// P17.2: what an envelope links to the tenant must have; that another one has it doesn't count.
func TestPutLinks(t *testing.T) {
	v := host(t)
	wantOK(t, v, api.Request{Kind: api.ReqTenant, Tenant: 2, N: 1000})
	a, b := put(t, v, blob("a")), put(t, v, blob("b"))
	for _, links := range [][]api.Id{{{9}}, {{}}, {a, {9}}, {a, b, {}}, {{0xff}, a, b}} {
		wantErr(t, v, api.Request{Kind: api.ReqPut, Tenant: 1, Body: directory("", links...)}, api.ErrNone)
	}
	wantErr(t, v, api.Request{Kind: api.ReqPut, Tenant: 2, Body: directory("", a)}, api.ErrNone)
	for _, kind := range []int{api.KindBlob, api.KindDir, api.KindCommit} {
		for _, links := range [][]api.Id{{a}, {a, b}} {
			put(t, v, envelope(kind, "", links...))
		}
	}
	own := directory("of itself", a)
	id, _ := suite.New(api.Real, nil).Digest(own)
	wantErr(t, v, api.Request{Kind: api.ReqPut, Tenant: 1, Body: directory("of another", id)}, api.ErrNone)
	put(t, v, own)
	put(t, v, directory("of another", id))
}

// P17.2: an envelope as great as it can be, with 1000 links.
func TestPutGreatest(t *testing.T) {
	v := host(t)
	var links []api.Id
	for i := range 1000 {
		links = append(links, put(t, v, blob(fmt.Sprint(i))))
	}
	text := envelope(api.KindCommit, string(make([]byte, 70000)), links...)
	id := put(t, v, text)
	wantAnswer(t, v, api.Request{Client: 9, Seq: 1, Kind: api.ReqGet, Tenant: 1, Id: id}, api.Reply{Id: id, Body: text}, false)
	wantErr(t, v, api.Request{Kind: api.ReqPut, Tenant: 1, Body: envelope(api.KindCommit, string(make([]byte, 70000)), append(links[1:], api.Id{1})...)}, api.ErrNone)
	w := rebuilt(t, v)
	if a, is := w.Last(9); !is || !bytes.Equal(a.Body, text) {
		t.Fatal("the greatest answer wasn't built again")
	}
}

// P17.2: the digest's errors, and that nothing is drawn for what is refused ahead of it.
func TestPutDigests(t *testing.T) {
	s, draws := ideal(1, 2, 2, 3)
	v := New(s)
	wantOK(t, v, api.Request{Kind: api.ReqTenant, Tenant: 1, N: 100})
	wantLeft := func(n int) {
		t.Helper()
		if draws.Left() != 32*n {
			t.Fatalf("%d bytes are left", draws.Left())
		}
	}
	wantErr(t, v, api.Request{Kind: api.ReqPut, Tenant: 2, Body: blob("a")}, api.ErrTenant)
	wantErr(t, v, api.Request{Kind: api.ReqPut, Tenant: 1, Body: []byte("a")}, api.ErrEnvelope)
	wantErr(t, v, api.Request{Kind: api.ReqPut, Tenant: 1, Body: directory("", api.Id{1})}, api.ErrNone)
	wantLeft(4)
	if a := v.Ask(api.Request{Kind: api.ReqPut, Tenant: 1, Body: blob("a")}); a.Err != api.OK || a.Id != (api.Id{1}) {
		t.Fatalf("%v", a)
	}
	wantLeft(3)
	put(t, v, blob("a"))
	wantLeft(3)
	put(t, v, blob("b"))
	wantLeft(2)
	wantErr(t, v, api.Request{Kind: api.ReqPut, Tenant: 1, Body: blob("c")}, api.ErrCollision)
	wantErr(t, v, api.Request{Kind: api.ReqPut, Tenant: 1, Body: blob("b")}, api.ErrCollision)
	wantAnswer(t, v, api.Request{Kind: api.ReqGet, Tenant: 1, Id: api.Id{2}}, api.Reply{Id: api.Id{2}, Body: blob("b")}, false)
	wantLeft(1)
	wantErr(t, v, api.Request{Kind: api.ReqPut, Tenant: 1, Body: blob(strings.Repeat("d", 90))}, api.ErrQuota)
	wantLeft(0)
	wantErr(t, v, api.Request{Kind: api.ReqPut, Tenant: 1, Body: blob("e")}, api.ErrEntropy)
	wantErr(t, v, api.Request{Kind: api.ReqPut, Tenant: 1, Body: blob(strings.Repeat("e", 90))}, api.ErrEntropy)
	put(t, v, blob("a"))
}

// P17.2: of a suite that nobody made there is no digest; all else there is.
func TestPutNoSuite(t *testing.T) {
	for _, s := range []*suite.Suite{nil, {}} {
		v := New(s)
		wantErr(t, v, api.Request{Kind: api.ReqPut, Tenant: 1, Body: blob("a")}, api.ErrTenant)
		wantAnswer(t, v, api.Request{Kind: api.ReqTenant, Tenant: 1}, api.Reply{}, true)
		wantErr(t, v, api.Request{Kind: api.ReqPut, Tenant: 1, Body: []byte("a")}, api.ErrEnvelope)
		wantErr(t, v, api.Request{Kind: api.ReqPut, Tenant: 1, Body: directory("", api.Id{1})}, api.ErrNone)
		wantErr(t, v, api.Request{Kind: api.ReqPut, Tenant: 1, Body: blob("a")}, api.ErrRange)
		wantAnswer(t, v, api.Request{Kind: api.ReqList, Tenant: 1}, api.Reply{}, false)
	}
}

// P17.2: the objects' bytes are at most the quota; what is there already needs no room.
func TestQuota(t *testing.T) {
	v := New(suite.New(api.Real, nil))
	three, four, five := blob("abc"), blob("abcd"), blob("abcde") // 8, 9, 10 bytes
	for i, quota := range []uint64{0, 7, 8, 16, 17, 26, 27, math.MaxUint64} {
		n := uint32(i)
		wantOK(t, v, api.Request{Kind: api.ReqTenant, Tenant: n, N: quota})
		used := uint64(0)
		for _, b := range [][]byte{three, three, four, five, three} {
			r := api.Request{Kind: api.ReqPut, Tenant: n, Body: b}
			id, _ := v.digests.Digest(b)
			has := v.Ask(api.Request{Kind: api.ReqHas, Tenant: n, Id: id}).N == 1
			switch {
			case has:
				wantAnswer(t, v, r, api.Reply{Id: id}, false)
			case used+uint64(len(b)) > quota:
				wantErr(t, v, r, api.ErrQuota)
			default:
				wantAnswer(t, v, r, api.Reply{Id: id}, true)
				used += uint64(len(b))
			}
			if got, _, _ := v.Used(n); got != used {
				t.Fatalf("%d of %d, not %d", got, quota, used)
			}
		}
	}
	for i, objects := range []int{0, 0, 1, 1, 2, 2, 3, 3} {
		if got := len(v.Objects(uint32(i))); got != objects {
			t.Errorf("tenant %d has %d objects, not %d", i, got, objects)
		}
	}
}

// P17.2: what is had, by ids; nothing else of a request counts.
func TestGetHas(t *testing.T) {
	v := host(t)
	wantOK(t, v, api.Request{Kind: api.ReqTenant, Tenant: 2, N: 1000})
	a := put(t, v, blob("a"))
	b := put(t, v, directory("b", a))
	for id, text := range map[api.Id][]byte{a: blob("a"), b: directory("b", a)} {
		wantAnswer(t, v, api.Request{Kind: api.ReqGet, Tenant: 1, Id: id}, api.Reply{Id: id, Body: text}, false)
		wantAnswer(t, v, api.Request{Kind: api.ReqHas, Tenant: 1, Id: id}, api.Reply{N: 1}, false)
		wantAnswer(t, v, api.Request{Kind: api.ReqGet, Tenant: 1, Id: id, Name: "/", Old: api.Id{8}, N: 9, Body: []byte("x")}, api.Reply{Id: id, Body: text}, false)
		wantAnswer(t, v, api.Request{Kind: api.ReqHas, Tenant: 1, Id: id, Name: "/", Old: api.Id{8}, N: 9, Body: []byte("x")}, api.Reply{N: 1}, false)
		wantErr(t, v, api.Request{Kind: api.ReqGet, Tenant: 2, Id: id}, api.ErrNone)
		wantAnswer(t, v, api.Request{Kind: api.ReqHas, Tenant: 2, Id: id}, api.Reply{}, false)
	}
	for _, id := range []api.Id{{}, {1}, {31: 1}} {
		wantErr(t, v, api.Request{Kind: api.ReqGet, Tenant: 1, Id: id, Body: blob("a")}, api.ErrNone)
		wantAnswer(t, v, api.Request{Kind: api.ReqHas, Tenant: 1, Id: id, N: 1}, api.Reply{}, false)
	}
}

// P17.2: a draw of noughts is an object's id as any other; but no ref stands there.
func TestNoughts(t *testing.T) {
	s, _ := ideal(0, 1)
	v := New(s)
	wantOK(t, v, api.Request{Kind: api.ReqTenant, Tenant: 1, N: 1000})
	wantErr(t, v, api.Request{Kind: api.ReqPut, Tenant: 1, Body: directory("b", api.Id{})}, api.ErrNone)
	put(t, v, blob("a"))
	wantAnswer(t, v, api.Request{Kind: api.ReqHas, Tenant: 1}, api.Reply{N: 1}, false)
	wantAnswer(t, v, api.Request{Kind: api.ReqGet, Tenant: 1}, api.Reply{Body: blob("a")}, false)
	b := put(t, v, directory("b", api.Id{}))
	set(t, v, "main", b)
	wantAnswer(t, v, api.Request{Kind: api.ReqGc, Tenant: 1}, api.Reply{}, true)
	if is, was := picture(rebuilt(t, v)), picture(v); is != was {
		t.Fatalf("%s\nis built again of\n%s", is, was)
	}
	wantAnswer(t, v, api.Request{Kind: api.ReqCas, Tenant: 1, Name: "main", Old: b}, api.Reply{}, true)
	wantErr(t, v, api.Request{Kind: api.ReqRef, Tenant: 1, Name: "main"}, api.ErrNone)
	wantAnswer(t, v, api.Request{Kind: api.ReqGc, Tenant: 1}, api.Reply{N: 2}, true)
}

// P17.2: a ref goes from where it stands to what is there.
func TestCas(t *testing.T) {
	v := host(t)
	a, b := put(t, v, blob("a")), put(t, v, blob("b"))
	cas := func(name string, old, id api.Id) api.Request {
		return api.Request{Kind: api.ReqCas, Tenant: 1, Name: name, Old: old, Id: id}
	}
	none, lost := api.Id{}, api.Id{7}
	wantErr(t, v, api.Request{Kind: api.ReqRef, Tenant: 1, Name: "main"}, api.ErrNone)
	wantErr(t, v, cas("main", a, b), api.ErrStale)
	wantErr(t, v, cas("main", none, lost), api.ErrNone)
	wantErr(t, v, cas("main", a, lost), api.ErrStale)
	wantErr(t, v, cas("main", a, none), api.ErrStale)
	wantAnswer(t, v, cas("main", none, none), api.Reply{}, true)
	wantErr(t, v, api.Request{Kind: api.ReqRef, Tenant: 1, Name: "main"}, api.ErrNone)
	wantAnswer(t, v, cas("main", none, a), api.Reply{Id: a}, true)
	wantAnswer(t, v, api.Request{Kind: api.ReqRef, Tenant: 1, Name: "main", Id: b, Old: b, N: 3}, api.Reply{Id: a}, false)
	wantErr(t, v, cas("main", none, b), api.ErrStale)
	wantErr(t, v, cas("main", none, a), api.ErrStale)
	wantErr(t, v, cas("main", none, none), api.ErrStale)
	wantErr(t, v, cas("main", b, a), api.ErrStale)
	wantErr(t, v, cas("main", lost, lost), api.ErrStale)
	wantErr(t, v, cas("main", a, lost), api.ErrNone)
	wantAnswer(t, v, cas("main", a, a), api.Reply{Id: a}, true)
	wantAnswer(t, v, cas("main", a, b), api.Reply{Id: b}, true)
	wantAnswer(t, v, api.Request{Kind: api.ReqRef, Tenant: 1, Name: "main"}, api.Reply{Id: b}, false)
	wantErr(t, v, api.Request{Kind: api.ReqRef, Tenant: 1, Name: "Main"}, api.ErrNone)
	wantErr(t, v, api.Request{Kind: api.ReqRef, Tenant: 1}, api.ErrNone)
	wantAnswer(t, v, cas("other", none, b), api.Reply{Id: b}, true)
	wantAnswer(t, v, cas("main", b, none), api.Reply{}, true)
	wantErr(t, v, api.Request{Kind: api.ReqRef, Tenant: 1, Name: "main"}, api.ErrNone)
	wantAnswer(t, v, api.Request{Kind: api.ReqRef, Tenant: 1, Name: "other"}, api.Reply{Id: b}, false)
	wantAnswer(t, v, cas("main", none, b), api.Reply{Id: b}, true)
}

// P17.2: a ref's object must be the tenant's own, and a ref is the tenant's own too.
func TestCasTenants(t *testing.T) {
	v := host(t)
	wantOK(t, v, api.Request{Kind: api.ReqTenant, Tenant: 2, N: 1000})
	a := put(t, v, blob("a"))
	set(t, v, "main", a)
	wantErr(t, v, api.Request{Kind: api.ReqCas, Tenant: 2, Name: "main", Id: a}, api.ErrNone)
	wantErr(t, v, api.Request{Kind: api.ReqRef, Tenant: 2, Name: "main"}, api.ErrNone)
	wantAnswer(t, v, api.Request{Kind: api.ReqList, Tenant: 2}, api.Reply{}, false)
}

// P17.2: a ref has a Good name; a bad one is told ahead of all else.
func TestCasNames(t *testing.T) {
	v := host(t)
	a := put(t, v, blob("a"))
	for _, name := range []string{"", ".", "..", "/", "a/b", "/a", "a/", "a\x00", "\x00", strings.Repeat("x", 65), strings.Repeat("ä", 33)} {
		for _, r := range []api.Request{{Id: a}, {}, {Old: a}, {Old: api.Id{7}, Id: api.Id{7}}} {
			r.Kind, r.Tenant, r.Name = api.ReqCas, 1, name
			wantErr(t, v, r, api.ErrName)
		}
		wantErr(t, v, api.Request{Kind: api.ReqRef, Tenant: 1, Name: name}, api.ErrNone)
	}
	for _, name := range []string{"a", "...", ".a", " ", "\xff", "a\nb", strings.Repeat("x", 64), strings.Repeat("ä", 32)} {
		wantAnswer(t, v, api.Request{Kind: api.ReqCas, Tenant: 1, Name: name, Id: a}, api.Reply{Id: a}, true)
		wantAnswer(t, v, api.Request{Kind: api.ReqRef, Tenant: 1, Name: name}, api.Reply{Id: a}, false)
	}
}

// P17.2: all refs are counted, and the first 1000 told.
func TestList(t *testing.T) {
	v := host(t)
	a := put(t, v, blob("a"))
	list := api.Request{Kind: api.ReqList, Tenant: 1, Name: "r5", Id: a, N: 3, Body: []byte("x")}
	wantAnswer(t, v, list, api.Reply{}, false)
	var names []string
	for i := range 1003 {
		// Not in their order, so that it shows whether they are told in it.
		name := fmt.Sprintf("%d-%s", (i*7919)%1009, strings.Repeat("x", i%50))
		set(t, v, name, a)
		names = append(names, name)
		slices.Sort(names)
		if i < 4 || i > 996 {
			wantAnswer(t, v, list, api.Reply{N: uint64(i) + 1, Names: names[:min(i+1, 1000)]}, false)
		}
	}
	set(t, v, names[2], api.Id{})
	names = slices.Delete(names, 2, 3)
	wantAnswer(t, v, list, api.Reply{N: 1002, Names: names[:1000]}, false)
	long := api.Request{Client: 9, Seq: 1, Kind: api.ReqList, Tenant: 1}
	wantAnswer(t, v, long, api.Reply{N: 1002, Names: names[:1000]}, false)
	if is, was := picture(rebuilt(t, v)), picture(v); is != was {
		t.Fatal("it isn't built again")
	}
}

// P17.2, P17.5: what no ref reaches goes, and nothing else.
func TestGc(t *testing.T) {
	v := host(t)
	wantOK(t, v, api.Request{Kind: api.ReqTenant, Tenant: 2, N: 1000})
	wantOK(t, v, api.Request{Kind: api.ReqPut, Tenant: 2, Body: blob("a")})
	gc := api.Request{Kind: api.ReqGc, Tenant: 1, Name: "main", N: 9, Body: []byte("x")}
	wantAnswer(t, v, gc, api.Reply{}, true)
	a, b, c := put(t, v, blob("a")), put(t, v, blob("b")), put(t, v, blob("c"))
	ab, bc := put(t, v, directory("", a, b)), put(t, v, directory("", b, c))
	top := put(t, v, envelope(api.KindCommit, "", ab))
	over := put(t, v, envelope(api.KindCommit, "over", top, bc))
	has := func(want ...api.Id) {
		t.Helper()
		var got []api.Id
		for _, o := range v.Objects(1) {
			got = append(got, o.Id)
		}
		if !slices.Equal(got, envel.Links(want...)) {
			t.Fatalf("%x, not %x", got, envel.Links(want...))
		}
	}
	set(t, v, "main", top)
	set(t, v, "other", bc)
	wantAnswer(t, v, gc, api.Reply{N: 1}, true)
	has(a, b, c, ab, bc, top)
	wantAnswer(t, v, gc, api.Reply{}, true)
	has(a, b, c, ab, bc, top)
	wantErr(t, v, api.Request{Kind: api.ReqGet, Tenant: 1, Id: over}, api.ErrNone)
	set(t, v, "other", api.Id{})
	wantAnswer(t, v, gc, api.Reply{N: 2}, true)
	has(a, b, ab, top)
	wantErr(t, v, api.Request{Kind: api.ReqPut, Tenant: 1, Body: directory("", b, c)}, api.ErrNone)
	set(t, v, "main", a)
	wantAnswer(t, v, gc, api.Reply{N: 3}, true)
	has(a)
	set(t, v, "main", api.Id{})
	wantAnswer(t, v, gc, api.Reply{N: 1}, true)
	has()
	if len(v.Objects(2)) != 1 {
		t.Fatal("another tenant's object went")
	}
	put(t, v, blob("a"))
	has(a)
}

// P17.2: a ReqDone's Body is a reply to a client; it needs no tenant.
func TestDone(t *testing.T) {
	v := New(nil)
	reply := api.Reply{Client: 5, Seq: 300, Err: api.ErrStale, Id: api.Id{1}, N: 7, Body: []byte("body"), Names: []string{"b", "", "a"}}
	good, _ := wire.PutReply(reply)
	nobody, _ := wire.PutReply(api.Reply{Seq: 1, N: 1})
	request, _ := wire.PutRequest(api.Request{Client: 5, Kind: api.ReqGc})
	for _, b := range [][]byte{nil, {}, {2}, nobody, request, good[:len(good)-1], append(slices.Clone(good), 0), blob("a")} {
		for _, client := range []uint32{0, 5, 9} {
			wantErr(t, v, api.Request{Client: client, Seq: 1, Kind: api.ReqDone, Body: b}, api.ErrRange)
			if _, is := v.Last(client); is {
				t.Fatalf("a ReqDone of %x is client %d's last request", b, client)
			}
		}
	}
	wantAnswer(t, v, api.Request{Kind: api.ReqDone, Tenant: 9, Name: "/", Id: api.Id{2}, N: 3, Body: good}, api.Reply{}, true)
	if a, is := v.Last(5); !is || !wire.SameReply(a, reply) {
		t.Fatalf("%v, %t", a, is)
	}
	if a := v.Do(api.Request{Client: 5, Seq: 300, Kind: api.ReqGc}); !wire.SameReply(a, reply) {
		t.Fatalf("%v", a)
	}
	wantErr(t, v, api.Request{Client: 5, Seq: 299, Kind: api.ReqGc}, api.ErrSession)
	// It may go back, too.
	reply.Seq, reply.Names = 20, nil
	good, _ = wire.PutReply(reply)
	wantAnswer(t, v, api.Request{Client: 9, Seq: 4, Kind: api.ReqDone, Body: good}, api.Reply{}, true)
	if a, is := v.Last(5); !is || !wire.SameReply(a, reply) {
		t.Fatalf("%v, %t", a, is)
	}
	if _, is := v.Last(9); is {
		t.Fatal("a ReqDone became the last request of who asked for it")
	}
	wantErr(t, v, api.Request{Client: 5, Seq: 21, Kind: api.ReqGc}, api.ErrTenant)
}

// P17.2: asking changes nothing but the draws, whatever is asked, and however often.
func TestAskChangesNothing(t *testing.T) {
	draws := tape.New(ids(1, 2, 3, 4))
	v := New(suite.New(api.Ideal, draws))
	wantOK(t, v, api.Request{Kind: api.ReqTenant, Tenant: 1, N: 1000})
	a := put(t, v, blob("a"))
	set(t, v, "main", a)
	put(t, v, blob("loose"))
	wantOK(t, v, api.Request{Client: 5, Seq: 5, Kind: api.ReqList, Tenant: 1})
	done, _ := wire.PutReply(api.Reply{Client: 5, Seq: 9})
	was := picture(v)
	for kind := -1; kind <= 12; kind++ {
		for _, r := range []api.Request{
			{Kind: kind, Tenant: 1, Name: "main", Old: a},
			{Kind: kind, Tenant: 1, Name: "new", Id: a, Body: blob("b")},
			{Kind: kind, Tenant: 2, N: 50, Body: done},
			{Client: 5, Seq: 4, Kind: kind, Tenant: 1},
			{Client: 5, Seq: 6, Kind: kind, Tenant: 1, Name: "new", Id: a, Body: done},
			{Client: 9, Seq: 1, Kind: kind, Tenant: 1, Id: a},
		} {
			first := v.Ask(r)
			v.Changes(r)
			if again := v.Ask(r); !wire.SameReply(first, again) {
				t.Fatalf("%+v: %v, then %v", r, first, again)
			}
			if is := picture(v); is != was {
				t.Fatalf("%+v made\n%s\nof\n%s", r, is, was)
			}
		}
	}
	if draws.Left() != 32 {
		t.Fatalf("%d bytes are left of the draws", draws.Left())
	}
}
