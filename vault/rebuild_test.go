package vault

import (
	"math"
	"slices"
	"testing"

	"tabularium/api"
	"tabularium/suite"
	"tabularium/tape"
	"tabularium/wire"
)

// several is a host with tenants, objects, refs and clients, and what its Rebuild has to tell.
// Its ids are drawn so that the objects' order isn't that of their ids, nor that in which they were put.
func several(t *testing.T) (*State, []api.Request) {
	t.Helper()
	s, _ := ideal(0x50, 0x10, 0x40, 0x20, 0x30)
	v := New(s)
	for _, n := range []uint32{1000, 1, 0, math.MaxUint32} {
		wantOK(t, v, api.Request{Kind: api.ReqTenant, Tenant: n, N: uint64(n) + 200})
	}
	a := put(t, v, blob("a"))                                   // 50
	ab := put(t, v, directory("ab", a))                         // 10
	c := put(t, v, blob("c"))                                   // 40
	loose := put(t, v, directory("loose", c))                   // 20
	top := put(t, v, envelope(api.KindCommit, "top", ab, c, a)) // 30
	set(t, v, "main", top)
	set(t, v, "Zed", loose)
	set(t, v, "gone", a)
	set(t, v, "gone", api.Id{})
	wantOK(t, v, api.Request{Kind: api.ReqPut, Tenant: 1000, Body: blob("c")})
	for i, client := range []uint32{9, 2, math.MaxUint32, 1000} {
		r := api.Request{Client: client, Seq: uint64(10 - i), Kind: api.ReqGet, Tenant: 1, Id: []api.Id{a, c, {7}, top}[i]}
		v.Do(r)
	}
	done := func(a api.Reply) api.Request {
		b, _ := wire.PutReply(a)
		return api.Request{Kind: api.ReqDone, Body: b}
	}
	return v, []api.Request{
		{Kind: api.ReqTenant, Tenant: 0, N: 200},
		{Kind: api.ReqTenant, Tenant: 1, N: 201},
		{Kind: api.ReqPut, Tenant: 1, Body: blob("c")},
		{Kind: api.ReqPut, Tenant: 1, Body: directory("loose", c)},
		{Kind: api.ReqPut, Tenant: 1, Body: blob("a")},
		{Kind: api.ReqPut, Tenant: 1, Body: directory("ab", a)},
		{Kind: api.ReqPut, Tenant: 1, Body: envelope(api.KindCommit, "top", ab, c, a)},
		{Kind: api.ReqCas, Tenant: 1, Name: "Zed", Id: loose},
		{Kind: api.ReqCas, Tenant: 1, Name: "main", Id: top},
		{Kind: api.ReqTenant, Tenant: 1000, N: 1200},
		{Kind: api.ReqPut, Tenant: 1000, Body: blob("c")},
		{Kind: api.ReqTenant, Tenant: math.MaxUint32, N: math.MaxUint32 + 200},
		done(api.Reply{Client: 2, Seq: 9, Id: c, Body: blob("c")}),
		done(api.Reply{Client: 9, Seq: 10, Id: a, Body: blob("a")}),
		done(api.Reply{Client: 1000, Seq: 7, Id: top, Body: envelope(api.KindCommit, "top", ab, c, a)}),
		done(api.Reply{Client: math.MaxUint32, Seq: 8, Err: api.ErrNone}),
	}
}

// P17.4, P5: the requests by hand, in their order; they may be left and told again.
func TestRebuild(t *testing.T) {
	v, want := several(t)
	all := v.Rebuild()
	for n := range len(want) {
		if got := firsts(all, n+1); !slices.EqualFunc(got, want[:n+1], sameRequest) {
			t.Fatalf("the first %d:\n%+v\nnot\n%+v", n+1, got, want[:n+1])
		}
	}
	for range 2 {
		if got := slices.Collect(all); !slices.EqualFunc(got, want, sameRequest) {
			t.Fatalf("%+v\nnot\n%+v", got, want)
		}
	}
}

// P17.4, P5: what is told is the host as it was at the call, whatever is done while it is told.
func TestRebuildMeanwhile(t *testing.T) {
	v, want := several(t)
	all := v.Rebuild()
	var got []api.Request
	for r := range all {
		got = append(got, r)
		if len(got) == 1 {
			for _, n := range []uint32{0, 1, 1000} {
				wantOK(t, v, api.Request{Client: 3, Seq: uint64(n) + 1, Kind: api.ReqDrop, Tenant: n})
			}
		}
		v.Do(api.Request{Kind: api.ReqTenant, Tenant: uint32(2000 + len(got))})
	}
	if !slices.EqualFunc(got, want, sameRequest) || !slices.EqualFunc(slices.Collect(all), want, sameRequest) {
		t.Fatalf("%+v\nnot\n%+v", got, want)
	}
	// By now there are the tenant that stayed, one more for each request, and one client more.
	if n := len(slices.Collect(v.Rebuild())); n != 1+len(want)+5 {
		t.Fatalf("%d requests", n)
	}
}

// P17.6: a host that was built again shows the same, and tells the same requests.
func TestRebuilt(t *testing.T) {
	v, want := several(t)
	w := rebuilt(t, v)
	if is, was := picture(w), picture(v); is != was {
		t.Fatalf("%s\nis built again of\n%s", is, was)
	}
	if got := slices.Collect(w.Rebuild()); !slices.EqualFunc(got, want, sameRequest) {
		t.Fatalf("%+v\nnot\n%+v", got, want)
	}
	for _, client := range []uint32{9, 2, math.MaxUint32, 1000} {
		last, _ := v.Last(client)
		for _, seq := range []uint64{last.Seq - 1, last.Seq, last.Seq + 1} {
			r := api.Request{Client: client, Seq: seq, Kind: api.ReqList, Tenant: 1}
			if a, b := v.Do(r), w.Do(r); !wire.SameReply(a, b) {
				t.Fatalf("%+v: %v and %v", r, a, b)
			}
		}
	}
}

// P17.6: with a suite of its own, as long as it is a real one.
func TestRebuiltElsewhere(t *testing.T) {
	v, _ := ordinary(t)
	v.Do(api.Request{Client: 5, Seq: 9, Kind: api.ReqList, Tenant: 1})
	w := New(suite.New(api.Real, tape.New(nil)))
	for r := range v.Rebuild() {
		wantOK(t, w, r)
	}
	if is, was := picture(w), picture(v); is != was {
		t.Fatalf("%s\nis built again of\n%s", is, was)
	}
}

// P17.6: a host that is full is built again, and is as full.
func TestRebuiltFull(t *testing.T) {
	v := New(suite.New(api.Real, nil))
	wantOK(t, v, api.Request{Kind: api.ReqTenant, Tenant: 1, N: 18})
	put(t, v, blob("abc"))
	put(t, v, blob("abcde"))
	w := rebuilt(t, v)
	for _, x := range []*State{v, w} {
		if used, quota, is := x.Used(1); used != 18 || quota != 18 || !is {
			t.Fatalf("%d of %d, %t", used, quota, is)
		}
		wantErr(t, x, api.Request{Kind: api.ReqPut, Tenant: 1, Body: blob("")}, api.ErrQuota)
	}
}

// P17.6: the ideal suite draws nothing for what it has digested already.
func TestRebuiltWithoutDraws(t *testing.T) {
	s, draws := ideal(3, 2)
	v := New(s)
	wantOK(t, v, api.Request{Kind: api.ReqTenant, Tenant: 1, N: 100})
	a := put(t, v, blob("a"))
	put(t, v, directory("", a))
	if draws.Left() != 0 {
		t.Fatal("there is more to draw")
	}
	if is, was := picture(rebuilt(t, v)), picture(v); is != was {
		t.Fatalf("%s\nis built again of\n%s", is, was)
	}
}
