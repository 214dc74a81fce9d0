package vault

import (
	"bytes"
	"fmt"
	"iter"
	"math"
	"slices"
	"testing"

	"tabularium/api"
	"tabularium/envel"
	"tabularium/suite"
	"tabularium/tape"
	"tabularium/wire"
)

// envelope is the bytes of one with this text, which links to these ids.
func envelope(kind int, text string, links ...api.Id) []byte {
	b, e := envel.Put(api.Envelope{Kind: kind, Realm: 1, Epoch: 2, Links: envel.Links(links...), Body: []byte(text)})
	if e != api.OK {
		panic(e)
	}
	return b
}

func blob(text string) []byte {
	return envelope(api.KindBlob, text)
}

func directory(text string, links ...api.Id) []byte {
	return envelope(api.KindDir, text, links...)
}

// ids are draws for an ideal suite: of each byte an id that begins with it.
func ids(l ...byte) []byte {
	var out []byte
	for _, b := range l {
		out = append(append(out, b), make([]byte, 31)...)
	}
	return out
}

// ideal is an ideal suite whose digests begin with these bytes, one behind the other, and its tape.
func ideal(l ...byte) (*suite.Suite, *tape.Tape) {
	draws := tape.New(ids(l...))
	return suite.New(api.Ideal, draws), draws
}

// host is a real one with tenant 1, which has room for much.
func host(t *testing.T) *State {
	t.Helper()
	v := New(suite.New(api.Real, nil))
	wantOK(t, v, api.Request{Kind: api.ReqTenant, Tenant: 1, N: 1 << 40})
	return v
}

// wantOK does r and fails if it is refused.
func wantOK(t *testing.T, v *State, r api.Request) api.Reply {
	t.Helper()
	a := v.Do(r)
	if a.Err != api.OK {
		t.Fatalf("%+v: error %d", r, a.Err)
	}
	return a
}

// wantErr asks for r and does it, and fails unless both answer e, with all else but Client and Seq noughts, and nothing else changes than the last request.
func wantErr(t *testing.T, v *State, r api.Request, e api.Errno) {
	t.Helper()
	want := api.Reply{Client: r.Client, Seq: r.Seq, Err: e}
	was := pictureOfTenants(v)
	if a := v.Ask(r); !wire.SameReply(a, want) {
		t.Fatalf("Ask of %+v: %+v, not error %d", r, a, e)
	}
	if v.Changes(r) {
		t.Fatalf("%+v is refused and changes something", r)
	}
	if a := v.Do(r); !wire.SameReply(a, want) {
		t.Fatalf("Do of %+v: %+v, not error %d", r, a, e)
	}
	if is := pictureOfTenants(v); is != was {
		t.Fatalf("%+v is refused, and still there is\n%s\nwhere there was\n%s", r, is, was)
	}
}

// wantAnswer asks for r and does it, and fails unless both answer want and Changes answers changes.
func wantAnswer(t *testing.T, v *State, r api.Request, want api.Reply, changes bool) {
	t.Helper()
	want.Client, want.Seq = r.Client, r.Seq
	was := picture(v)
	if a := v.Ask(r); !wire.SameReply(a, want) {
		t.Fatalf("Ask of %+v: %+v, not %+v", r, a, want)
	}
	if is := v.Changes(r); is != changes {
		t.Fatalf("Changes of %+v: %t", r, is)
	}
	if is := picture(v); is != was {
		t.Fatalf("asking %+v made\n%s\nof\n%s", r, is, was)
	}
	if a := v.Do(r); !wire.SameReply(a, want) {
		t.Fatalf("Do of %+v: %+v, not %+v", r, a, want)
	}
	if is := picture(v); r.Client == 0 && !changes && is != was {
		t.Fatalf("%+v changes nothing, and still there is\n%s\nwhere there was\n%s", r, is, was)
	}
}

// put is the id of b, which tenant 1 keeps.
func put(t *testing.T, v *State, b []byte) api.Id {
	t.Helper()
	return wantOK(t, v, api.Request{Kind: api.ReqPut, Tenant: 1, Body: b}).Id
}

// set makes a ref of tenant 1 stand at an id, wherever it stands.
func set(t *testing.T, v *State, name string, id api.Id) {
	t.Helper()
	at := v.Ask(api.Request{Kind: api.ReqRef, Tenant: 1, Name: name}).Id
	wantOK(t, v, api.Request{Kind: api.ReqCas, Tenant: 1, Name: name, Old: at, Id: id})
}

// someTenants and someClients are those whom the tests use.
func someTenants() []uint32 { return []uint32{0, 1, 2, 3, 7, 1000, math.MaxUint32} }
func someClients() []uint32 { return []uint32{0, 1, 2, 3, 5, 9, 1000, math.MaxUint32} }

// pictureOfTenants is all that one sees of the tenants, as a text.
func pictureOfTenants(v *State) string {
	var out bytes.Buffer
	for _, n := range someTenants() {
		used, quota, is := v.Used(n)
		fmt.Fprintf(&out, "tenant %d: %d %d %t\n", n, used, quota, is)
		for _, o := range v.Objects(n) {
			a := v.Ask(api.Request{Kind: api.ReqGet, Tenant: n, Id: o.Id})
			fmt.Fprintf(&out, "%x %x %d: %x, error %d\n", o.Id, o.Links, o.Size, a.Body, a.Err)
		}
		for ref := range v.Refs(n) {
			fmt.Fprintf(&out, "%q %x\n", ref.Name, ref.Id)
		}
	}
	return out.String()
}

// picture is all that one sees of a host, as a text.
func picture(v *State) string {
	out := bytes.NewBufferString(pictureOfTenants(v))
	for _, n := range someClients() {
		a, is := v.Last(n)
		fmt.Fprintf(out, "client %d: %+v %t\n", n, a, is)
	}
	return out.String()
}

// rebuilt is a host with the same digests that did v's Rebuild.
func rebuilt(t *testing.T, v *State) *State {
	t.Helper()
	w := New(v.digests)
	for r := range v.Rebuild() {
		wantOK(t, w, r)
	}
	return w
}

func sameRequest(a, b api.Request) bool {
	return a.Client == b.Client && a.Seq == b.Seq && a.Kind == b.Kind && a.Tenant == b.Tenant && a.Name == b.Name &&
		a.Id == b.Id && a.Old == b.Old && a.N == b.N && bytes.Equal(a.Body, b.Body)
}

// P17.1: nothing is there.
func TestNew(t *testing.T) {
	for _, s := range []*suite.Suite{nil, {}, suite.New(api.Real, nil), suite.New(api.Ideal, nil)} {
		v := New(s)
		if v == nil {
			t.Fatal("no host")
		}
		for _, n := range someTenants() {
			if used, quota, is := v.Used(n); used != 0 || quota != 0 || is {
				t.Errorf("tenant %d: %d, %d, %t", n, used, quota, is)
			}
			if l := v.Objects(n); len(l) != 0 {
				t.Errorf("tenant %d has %v", n, l)
			}
			for ref := range v.Refs(n) {
				t.Errorf("tenant %d has %v", n, ref)
			}
		}
		for _, n := range someClients() {
			if a, is := v.Last(n); is || !wire.SameReply(a, api.Reply{}) {
				t.Errorf("client %d was answered %v", n, a)
			}
		}
		for r := range v.Rebuild() {
			t.Errorf("%v to make nothing", r)
		}
	}
}

// P17.1: two hosts with one suite have nothing in common but the digests.
func TestNewApart(t *testing.T) {
	s, draws := ideal(5, 6)
	v, w := New(s), New(s)
	wantOK(t, v, api.Request{Client: 1, Kind: api.ReqTenant, Tenant: 1, N: 100})
	if _, _, is := w.Used(1); is {
		t.Fatal("the other host has the tenant too")
	}
	if _, is := w.Last(1); is {
		t.Fatal("the other host answered too")
	}
	wantOK(t, w, api.Request{Kind: api.ReqTenant, Tenant: 1, N: 100})
	a, b := put(t, v, blob("a")), put(t, w, blob("a"))
	if a != (api.Id{5}) || b != a || draws.Left() != 32 {
		t.Fatalf("%x, %x, %d bytes left", a, b, draws.Left())
	}
	if len(v.Objects(1)) != 1 || len(w.Objects(1)) != 1 {
		t.Fatal("each has put one object")
	}
}

// P17.1: the digests are s's, of each mode.
func TestNewDigests(t *testing.T) {
	text := blob("text")
	want, _ := suite.New(api.Real, nil).Digest(text)
	if got := put(t, host(t), text); got != want {
		t.Fatalf("%x, not %x", got, want)
	}
	s, _ := ideal(7)
	want, _ = s.Digest(text)
	v := New(s)
	wantOK(t, v, api.Request{Kind: api.ReqTenant, Tenant: 1, N: 100})
	if got := put(t, v, text); got != want || got != (api.Id{7}) {
		t.Fatalf("%x, not %x", got, want)
	}
}

// P17.4, P1: a State that nobody made refuses all and has nothing.
func TestNobodyMade(t *testing.T) {
	for what, v := range map[string]*State{"nil": nil, "zero": {}} {
		for kind := -1; kind <= 12; kind++ {
			done, _ := wire.PutReply(api.Reply{Client: 5})
			for _, r := range []api.Request{
				{Kind: kind},
				{Client: 5, Seq: 6, Kind: kind, Tenant: 1, Name: "a", N: 100, Body: blob("a")},
				{Client: 5, Seq: math.MaxUint64, Kind: kind, Body: done},
			} {
				want := api.Reply{Client: r.Client, Seq: r.Seq, Err: api.ErrRange}
				if a := v.Ask(r); !wire.SameReply(a, want) {
					t.Errorf("%s: Ask of %v: %v", what, r, a)
				}
				if a := v.Do(r); !wire.SameReply(a, want) {
					t.Errorf("%s: Do of %v: %v", what, r, a)
				}
				if v.Changes(r) {
					t.Errorf("%s: %v changes something", what, r)
				}
			}
		}
		if used, quota, is := v.Used(1); used != 0 || quota != 0 || is {
			t.Errorf("%s: %d, %d, %t", what, used, quota, is)
		}
		if a, is := v.Last(5); is || !wire.SameReply(a, api.Reply{}) {
			t.Errorf("%s: %v", what, a)
		}
		if l := v.Objects(1); len(l) != 0 {
			t.Errorf("%s: %v", what, l)
		}
		for ref := range v.Refs(1) {
			t.Errorf("%s: %v", what, ref)
		}
		for r := range v.Rebuild() {
			t.Errorf("%s: %v", what, r)
		}
	}
}

// P17.4: the bytes of all objects, and the quota, whatever comes and goes.
func TestUsed(t *testing.T) {
	v := New(suite.New(api.Real, nil))
	want := func(used, quota uint64, is bool) {
		t.Helper()
		if u, q, i := v.Used(1); u != used || q != quota || i != is {
			t.Fatalf("%d of %d, %t; not %d of %d, %t", u, q, i, used, quota, is)
		}
	}
	want(0, 0, false)
	wantOK(t, v, api.Request{Kind: api.ReqTenant, Tenant: 1, N: 200})
	want(0, 200, true)
	a := put(t, v, blob("abc")) // 8 bytes: Kind, Realm, Epoch, no links, and the text
	want(8, 200, true)
	put(t, v, blob("abc"))
	want(8, 200, true)
	b := put(t, v, directory("", a)) // 32 more for a link
	want(45, 200, true)
	put(t, v, blob("loose"))
	want(55, 200, true)
	set(t, v, "main", b)
	want(55, 200, true)
	wantOK(t, v, api.Request{Kind: api.ReqGc, Tenant: 1})
	want(45, 200, true)
	wantErr(t, v, api.Request{Kind: api.ReqPut, Tenant: 1, Body: blob(string(make([]byte, 151)))}, api.ErrQuota)
	want(45, 200, true)
	set(t, v, "main", api.Id{})
	wantOK(t, v, api.Request{Kind: api.ReqGc, Tenant: 1})
	want(0, 200, true)
	put(t, v, blob("abc"))
	wantOK(t, v, api.Request{Kind: api.ReqDrop, Tenant: 1})
	want(0, 0, false)
	wantOK(t, v, api.Request{Kind: api.ReqTenant, Tenant: 1, N: 0})
	want(0, 0, true)
}

// P17.4: the objects stand by their ids, with their links and the length of their bytes.
func TestObjects(t *testing.T) {
	s, _ := ideal(0x30, 0x10, 0xff, 0x20)
	v := New(s)
	wantOK(t, v, api.Request{Kind: api.ReqTenant, Tenant: 1, N: 1000})
	a := put(t, v, blob("abc"))
	b := put(t, v, directory("", a))
	c := put(t, v, directory("xy", a, b))
	d := put(t, v, blob(""))
	want := []api.Object{
		{Id: b, Links: []api.Id{a}, Size: 37},
		{Id: d, Size: 5},
		{Id: a, Size: 8},
		{Id: c, Links: []api.Id{b, a}, Size: 71},
	}
	same := func(x, y api.Object) bool {
		return x.Id == y.Id && x.Size == y.Size && slices.Equal(x.Links, y.Links)
	}
	if got := v.Objects(1); !slices.EqualFunc(got, want, same) {
		t.Fatalf("%v, not %v", got, want)
	}
	if got := v.Objects(2); len(got) != 0 {
		t.Fatalf("%v of a tenant that isn't there", got)
	}
}

// P17.4, P5: the refs by names, as they are at the call; they may be left and told again.
func TestRefs(t *testing.T) {
	v := host(t)
	a, b := put(t, v, blob("a")), put(t, v, blob("b"))
	for i, name := range []string{"main", "Z", "a", "\xff", "aa", "B", "ä", "a.b"} {
		set(t, v, name, []api.Id{a, b}[i%2])
	}
	want := []api.Ref{{Name: "B", Id: b}, {Name: "Z", Id: b}, {Name: "a", Id: a}, {Name: "a.b", Id: b}, {Name: "aa", Id: a}, {Name: "main", Id: a}, {Name: "ä", Id: a}, {Name: "\xff", Id: b}}
	refs := v.Refs(1)
	for n := range len(want) {
		if got := firsts(refs, n+1); !slices.Equal(got, want[:n+1]) {
			t.Fatalf("the first %d: %v", n+1, got)
		}
	}
	var got []api.Ref
	for ref := range refs {
		got = append(got, ref)
		set(t, v, ref.Name, api.Id{})
		set(t, v, "z"+ref.Name, a)
	}
	if !slices.Equal(got, want) || !slices.Equal(slices.Collect(refs), want) {
		t.Fatalf("%v, not %v", got, want)
	}
	if got := slices.Collect(v.Refs(1)); len(got) != 8 || got[0] != (api.Ref{Name: "zB", Id: a}) {
		t.Fatalf("%v", got)
	}
	if got := slices.Collect(v.Refs(2)); len(got) != 0 {
		t.Fatalf("%v of a tenant that isn't there", got)
	}
}

// firsts is the first n of what is told, which is left then.
func firsts[T any](seq iter.Seq[T], n int) []T {
	var out []T
	for x := range seq {
		out = append(out, x)
		if len(out) == n {
			break
		}
	}
	return out
}
