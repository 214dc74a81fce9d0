package vault

import (
	"math"
	"testing"

	"tabularium/api"
	"tabularium/suite"
	"tabularium/wire"
)

// wantLast fails unless the client's last request was answered so.
func wantLast(t *testing.T, v *State, client uint32, want api.Reply) {
	t.Helper()
	if a, is := v.Last(client); !is || !wire.SameReply(a, want) {
		t.Fatalf("client %d: %+v, %t; not %+v", client, a, is, want)
	}
}

// everyKind is requests that a host with tenant 1, a ref main at an object and a loose one does, or refuses where bad is said.
func everyKind(at api.Id) map[string]api.Request {
	return map[string]api.Request{
		"a tenant":       {Kind: api.ReqTenant, Tenant: 2, N: 5},
		"a tenant, bad":  {Kind: api.ReqTenant, Tenant: 1, N: 5},
		"a put":          {Kind: api.ReqPut, Tenant: 1, Body: blob("new")},
		"a put again":    {Kind: api.ReqPut, Tenant: 1, Body: blob("a")},
		"a put, bad":     {Kind: api.ReqPut, Tenant: 1, Body: []byte("no envelope")},
		"a put of links": {Kind: api.ReqPut, Tenant: 1, Body: directory("", api.Id{7})},
		"a get":          {Kind: api.ReqGet, Tenant: 1, Id: at},
		"a get, bad":     {Kind: api.ReqGet, Tenant: 1, Id: api.Id{7}},
		"a has":          {Kind: api.ReqHas, Tenant: 1, Id: at},
		"a ref":          {Kind: api.ReqRef, Tenant: 1, Name: "main"},
		"a ref, bad":     {Kind: api.ReqRef, Tenant: 1, Name: "other"},
		"a cas":          {Kind: api.ReqCas, Tenant: 1, Name: "main", Old: at},
		"a cas, bad":     {Kind: api.ReqCas, Tenant: 1, Name: "main", Id: at},
		"a list":         {Kind: api.ReqList, Tenant: 1},
		"a gc":           {Kind: api.ReqGc, Tenant: 1},
		"a drop":         {Kind: api.ReqDrop, Tenant: 1},
		"a drop, bad":    {Kind: api.ReqDrop, Tenant: 2},
		"a strange one":  {Kind: 77, Tenant: 1},
		"no kind at all": {},
	}
}

// ordinary is a host for everyKind.
func ordinary(t *testing.T) (*State, api.Id) {
	t.Helper()
	v := host(t)
	a := put(t, v, blob("a"))
	set(t, v, "main", a)
	put(t, v, blob("loose"))
	return v, a
}

// P17.3: what is answered is the client's last reply, and told again, whatever is asked with the same Seq.
func TestToldAgain(t *testing.T) {
	for what, r := range everyKind(put(t, host(t), blob("a"))) {
		v, _ := ordinary(t)
		r.Client, r.Seq = 5, 3
		asked := v.Ask(r)
		first := v.Do(r)
		if !wire.SameReply(asked, first) || first.Client != 5 || first.Seq != 3 {
			t.Fatalf("%s: %v, then %v", what, asked, first)
		}
		wantLast(t, v, 5, first)
		was := picture(v)
		for other, q := range everyKind(api.Id{1}) {
			q.Client, q.Seq = 5, 3
			if a := v.Ask(q); !wire.SameReply(a, first) {
				t.Fatalf("%s, then %s: Ask tells %v, not %v", what, other, a, first)
			}
			if v.Changes(q) {
				t.Fatalf("%s, then %s: it changes something", what, other)
			}
			if a := v.Do(q); !wire.SameReply(a, first) {
				t.Fatalf("%s, then %s: %v, not %v", what, other, a, first)
			}
		}
		if is := picture(v); is != was {
			t.Fatalf("%s: told again\n%s\nwas made of\n%s", what, is, was)
		}
	}
}

// P17.3: what comes behind the last request is refused, changes nothing, and isn't the last one: the last one is told again yet.
func TestSession(t *testing.T) {
	v, a := ordinary(t)
	last := wantOK(t, v, api.Request{Client: 5, Seq: 10, Kind: api.ReqHas, Tenant: 1, Id: a})
	was := picture(v)
	for _, seq := range []uint64{9, 0, 8} {
		for _, r := range everyKind(a) {
			r.Client, r.Seq = 5, seq
			wantErr(t, v, r, api.ErrSession)
			wantLast(t, v, 5, last)
		}
		done, _ := wire.PutReply(api.Reply{Client: 5, Seq: 1})
		wantErr(t, v, api.Request{Client: 5, Seq: seq, Kind: api.ReqDone, Body: done}, api.ErrSession)
	}
	if is := picture(v); is != was {
		t.Fatalf("%s\nwas made of\n%s", is, was)
	}
	if again := v.Do(api.Request{Client: 5, Seq: 10, Kind: api.ReqDrop, Tenant: 1}); !wire.SameReply(again, last) {
		t.Fatalf("%v, not %v", again, last)
	}
}

// P17.3: a greater Seq goes on, by however much; an error is a last reply, too.
func TestSeqs(t *testing.T) {
	v, a := ordinary(t)
	for i, seq := range []uint64{0, 1, 5, 1 << 32, 1<<63 - 1, 1 << 63, math.MaxUint64} {
		r := api.Request{Client: 5, Seq: seq, Kind: api.ReqHas, Tenant: 1, Id: a}
		want := api.Reply{Client: 5, Seq: seq, N: 1}
		if i%2 == 1 {
			r.Tenant, want.N, want.Err = 2, 0, api.ErrTenant
		}
		if got := v.Do(r); !wire.SameReply(got, want) {
			t.Fatalf("%+v: %+v", r, got)
		}
		wantLast(t, v, 5, want)
		// The tenant is there by now, and the answer stays what it was.
		wantOK(t, v, api.Request{Kind: api.ReqTenant, Tenant: 2, N: 5})
		if got := v.Do(r); !wire.SameReply(got, want) {
			t.Fatalf("%+v again: %+v", r, got)
		}
		wantOK(t, v, api.Request{Kind: api.ReqDrop, Tenant: 2})
	}
	for _, seq := range []uint64{0, 7, math.MaxUint64 - 1} {
		wantErr(t, v, api.Request{Client: 5, Seq: seq, Kind: api.ReqHas, Tenant: 1}, api.ErrSession)
	}
}

// P17.3: a client's requests are its own.
func TestClientsApart(t *testing.T) {
	v, a := ordinary(t)
	for i, client := range []uint32{1, 2, 9, 1000, math.MaxUint32} {
		r := api.Request{Client: client, Seq: uint64(20 - i), Kind: api.ReqHas, Tenant: 1, Id: a}
		wantLast(t, v, client, func() api.Reply { return v.Do(r) }())
	}
	wantLast(t, v, 1, api.Reply{Client: 1, Seq: 20, N: 1})
	wantErr(t, v, api.Request{Client: 1, Seq: 19, Kind: api.ReqHas, Tenant: 1}, api.ErrSession)
	wantAnswer(t, v, api.Request{Client: 2, Seq: 20, Kind: api.ReqHas, Tenant: 1}, api.Reply{}, false)
	wantLast(t, v, 2, api.Reply{Client: 2, Seq: 20})
	if _, is := v.Last(3); is {
		t.Fatal("client 3 asked nothing")
	}
}

// P17.3: nothing is told again to client 0, with whatever Seq.
func TestClient0(t *testing.T) {
	v, a := ordinary(t)
	for _, seq := range []uint64{9, 9, 3, 0, math.MaxUint64} {
		wantAnswer(t, v, api.Request{Seq: seq, Kind: api.ReqHas, Tenant: 1, Id: a}, api.Reply{N: 1}, false)
		wantErr(t, v, api.Request{Seq: seq, Kind: api.ReqGet, Tenant: 1}, api.ErrNone)
		wantAnswer(t, v, api.Request{Seq: seq, Kind: api.ReqCas, Tenant: 1, Name: "x", Id: a}, api.Reply{Id: a}, true)
		wantAnswer(t, v, api.Request{Seq: seq, Kind: api.ReqCas, Tenant: 1, Name: "x", Old: a}, api.Reply{}, true)
		if _, is := v.Last(0); is {
			t.Fatal("client 0 has a last request")
		}
	}
}

// P17.3: a ReqDone is nobody's last request, but is refused or told again as any other.
func TestDoneIsNotLast(t *testing.T) {
	v := New(nil)
	body := func(seq, n uint64) []byte {
		b, _ := wire.PutReply(api.Reply{Client: 5, Seq: seq, N: n})
		return b
	}
	done := func(client uint32, seq uint64, b []byte) api.Request {
		return api.Request{Client: client, Seq: seq, Kind: api.ReqDone, Body: b}
	}
	wantAnswer(t, v, done(9, 1, body(7, 1)), api.Reply{}, true)
	wantAnswer(t, v, done(9, 1, body(8, 2)), api.Reply{}, true)
	wantLast(t, v, 5, api.Reply{Client: 5, Seq: 8, N: 2})
	wantErr(t, v, done(9, 1, nil), api.ErrRange)
	if _, is := v.Last(9); is {
		t.Fatal("client 9 has a last request")
	}
	// To client 5 it is told what it was answered, even if it asks for a ReqDone.
	again := v.Do(done(5, 8, body(9, 3)))
	if want := (api.Reply{Client: 5, Seq: 8, N: 2}); !wire.SameReply(again, want) || v.Changes(done(5, 8, body(9, 3))) {
		t.Fatalf("%v", again)
	}
	wantErr(t, v, done(5, 7, body(9, 3)), api.ErrSession)
	wantLast(t, v, 5, api.Reply{Client: 5, Seq: 8, N: 2})
	wantAnswer(t, v, done(5, 9, body(20, 4)), api.Reply{}, true)
	wantLast(t, v, 5, api.Reply{Client: 5, Seq: 20, N: 4})
	wantErr(t, v, done(5, 21, []byte("no reply")), api.ErrRange)
	wantLast(t, v, 5, api.Reply{Client: 5, Seq: 20, N: 4})
}

// P17.3: the last reply is the latest one, of each kind, whether it is refused or not.
func TestLastIsLatest(t *testing.T) {
	_, a := ordinary(t)
	for what, r := range everyKind(a) {
		v, _ := ordinary(t)
		wantOK(t, v, api.Request{Client: 5, Seq: 1, Kind: api.ReqList, Tenant: 1})
		r.Client, r.Seq = 5, 2
		want := v.Do(r)
		if want.Seq != 2 {
			t.Fatalf("%s: %v", what, want)
		}
		wantLast(t, v, 5, want)
	}
}

// P17.3: which requests change a host, kind by kind, and that those that don't leave it as it is.
func TestChanges(t *testing.T) {
	_, a := ordinary(t)
	changing := map[string]bool{"a tenant": true, "a put": true, "a cas": true, "a gc": true, "a drop": true}
	for what, r := range everyKind(a) {
		for _, client := range []uint32{0, 9} {
			v, _ := ordinary(t)
			r.Client = client
			was := pictureOfTenants(v)
			if is := v.Changes(r); is != changing[what] {
				t.Errorf("%s: %t", what, is)
			}
			v.Do(r)
			if is := pictureOfTenants(v); (is != was) != changing[what] {
				t.Errorf("%s:\n%s\nwas made of\n%s", what, is, was)
			}
		}
	}
}

// P17.3: what may be changed to what it is counts as a change, by its kind.
func TestChangesToTheSame(t *testing.T) {
	v, a := ordinary(t)
	wantOK(t, v, api.Request{Kind: api.ReqGc, Tenant: 1})
	last := v.Do(api.Request{Client: 5, Seq: 3, Kind: api.ReqList, Tenant: 1})
	done, _ := wire.PutReply(last)
	was := picture(v)
	for _, r := range []api.Request{
		{Kind: api.ReqGc, Tenant: 1},
		{Kind: api.ReqCas, Tenant: 1, Name: "main", Old: a, Id: a},
		{Kind: api.ReqCas, Tenant: 1, Name: "none"},
		{Kind: api.ReqDone, Body: done},
	} {
		if !v.Changes(r) {
			t.Errorf("%+v doesn't count as a change", r)
		}
		wantOK(t, v, r)
		if is := picture(v); is != was {
			t.Errorf("%+v made\n%s\nof\n%s", r, is, was)
		}
	}
}

// P17.3: an error of the digest is a last reply as well, and stays it when the draws are there.
func TestDigestErrorIsLast(t *testing.T) {
	v := New(suite.New(api.Ideal, nil))
	wantOK(t, v, api.Request{Kind: api.ReqTenant, Tenant: 1, N: 100})
	r := api.Request{Client: 5, Seq: 1, Kind: api.ReqPut, Tenant: 1, Body: blob("a")}
	want := api.Reply{Client: 5, Seq: 1, Err: api.ErrEntropy}
	if a := v.Do(r); !wire.SameReply(a, want) {
		t.Fatalf("%v", a)
	}
	wantLast(t, v, 5, want)
	if is, was := picture(rebuilt(t, v)), picture(v); is != was {
		t.Fatalf("%s\nis built again of\n%s", is, was)
	}
}
