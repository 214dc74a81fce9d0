package keep

import (
	"fmt"
	"math"
	"slices"
	"strings"
	"testing"

	"tabularium/api"
	"tabularium/disk"
	"tabularium/slog"
	"tabularium/suite"
	"tabularium/tape"
	"tabularium/wire"
)

// P18.3: what changes something is in the log ahead of its answer; what doesn't isn't, but it is the client's last request.
func TestDo(t *testing.T) {
	d := created(t, 200)
	h := mustOpen(t, suite.New(api.Real, nil), d)
	v := stateOf(suite.New(api.Real, nil))
	var log []api.Request
	for i, r := range slices.Concat(several(), several()) {
		if i >= len(several()) {
			r.Seq += 100
		}
		changes := v.Changes(r)
		want := v.Do(r)
		writes := d.Writes()
		if a := h.Do(r); !wire.SameReply(a, want) {
			t.Fatalf("%+v: %+v, not %+v", r, a, want)
		}
		if changes {
			log = append(log, r)
		}
		if (d.Writes() > writes) != changes {
			t.Fatalf("%+v changes something: %t, writes: %d", r, changes, d.Writes()-writes)
		}
		if is, want := picture(h.State()), picture(v); is != want {
			t.Fatalf("%+v: %s\nnot\n%s", r, is, want)
		}
		wantLogged(t, d, 1, log...)
	}
	if len(log) < 10 {
		t.Fatalf("only %d changes", len(log))
	}
}

// P18.3: by hand: which requests are appended, and which aren't.
func TestWhatIsAppended(t *testing.T) {
	h, d := host(t, 200)
	a := blob("a")
	n := len(logged(t, d, 1))
	for i, x := range []struct {
		r    api.Request
		is   api.Errno
		more bool
	}{
		{api.Request{Kind: api.ReqTenant, Tenant: 1}, api.ErrTenant, false},
		{api.Request{Kind: api.ReqTenant, Tenant: 7}, api.OK, true},
		{api.Request{Kind: api.ReqDrop, Tenant: 7}, api.OK, true},
		{api.Request{Kind: api.ReqDrop, Tenant: 7}, api.ErrTenant, false},
		{api.Request{Kind: api.ReqPut, Tenant: 1, Body: a}, api.OK, true},
		{api.Request{Kind: api.ReqPut, Tenant: 1, Body: a}, api.OK, false},
		{api.Request{Kind: api.ReqPut, Tenant: 1, Body: a[1:]}, api.ErrEnvelope, false},
		{api.Request{Kind: api.ReqGet, Tenant: 1, Id: idOf(a)}, api.OK, false},
		{api.Request{Kind: api.ReqGet, Tenant: 1}, api.ErrNone, false},
		{api.Request{Kind: api.ReqHas, Tenant: 1, Id: idOf(a)}, api.OK, false},
		{api.Request{Kind: api.ReqCas, Tenant: 1, Name: "main", Id: idOf(a)}, api.OK, true},
		{api.Request{Kind: api.ReqCas, Tenant: 1, Name: "main", Id: idOf(a)}, api.ErrStale, false},
		{api.Request{Kind: api.ReqCas, Tenant: 1, Name: "main", Id: idOf(a), Old: idOf(a)}, api.OK, true},
		{api.Request{Kind: api.ReqRef, Tenant: 1, Name: "main"}, api.OK, false},
		{api.Request{Kind: api.ReqList, Tenant: 1}, api.OK, false},
		{api.Request{Kind: api.ReqGc, Tenant: 1}, api.OK, true},
		{api.Request{Kind: api.ReqDone, Body: doneOf(api.Reply{Client: 3, Seq: 9})}, api.OK, true},
		{api.Request{Kind: api.ReqDone, Body: doneOf(api.Reply{})}, api.ErrRange, false},
		{api.Request{Kind: 0, Tenant: 1}, api.ErrRange, false},
		{api.Request{Kind: 11, Tenant: 1}, api.ErrRange, false},
		{api.Request{Kind: math.MinInt, Tenant: 1}, api.ErrRange, false},
		{api.Request{Client: 3, Seq: 9, Kind: api.ReqTenant, Tenant: 8}, api.OK, false},
		{api.Request{Client: 3, Seq: 8, Kind: api.ReqTenant, Tenant: 8}, api.ErrSession, false},
		{api.Request{Client: 3, Seq: 10, Kind: api.ReqTenant, Tenant: 8}, api.OK, true},
		{api.Request{Client: 3, Seq: 10, Kind: api.ReqTenant, Tenant: 9}, api.OK, false},
	} {
		if a := h.Do(x.r); a.Err != x.is {
			t.Fatalf("%d: error %d, not %d", i, a.Err, x.is)
		}
		if x.more {
			n++
		}
		if got := logged(t, d, 1); len(got) != n || x.more && got[n-1].Kind != x.r.Kind {
			t.Fatalf("%d: %d requests in the log, not %d", i, len(got), n)
		}
	}
}

// P18.3: what isn't appended is the client's last request all the same, till the host is opened anew.
func TestLastRequests(t *testing.T) {
	h, d := host(t, 200)
	wantOK(t, h, api.Request{Client: 5, Seq: 1, Kind: api.ReqPut, Tenant: 1, Body: blob("a")})
	get := api.Request{Client: 5, Seq: 2, Kind: api.ReqGet, Tenant: 1, Id: idOf(blob("a"))}
	none := api.Request{Client: 6, Seq: 2, Kind: api.ReqGet, Tenant: 1}
	answer, refused := wantOK(t, h, get), h.Do(none)
	if refused.Err != api.ErrNone {
		t.Fatalf("%+v", refused)
	}
	// Asked otherwise by the same Seq, the same is told again.
	for _, r := range []api.Request{get, {Client: 5, Seq: 2, Kind: api.ReqTenant, Tenant: 3}} {
		if a := h.Do(r); !wire.SameReply(a, answer) {
			t.Errorf("%+v: %+v", r, a)
		}
	}
	for _, r := range []api.Request{none, {Client: 6, Seq: 2, Kind: api.ReqTenant, Tenant: 3}} {
		if a := h.Do(r); !wire.SameReply(a, refused) {
			t.Errorf("%+v: %+v", r, a)
		}
	}
	if a, is := h.State().Last(5); !is || !wire.SameReply(a, answer) {
		t.Errorf("%+v", a)
	}
	g := mustOpen(t, suite.New(api.Real, nil), d)
	if a, is := g.State().Last(5); !is || a.Seq != 1 || a.Id != idOf(blob("a")) {
		t.Errorf("opened anew: %+v", a)
	}
	if a, is := g.State().Last(6); is {
		t.Errorf("opened anew: %+v", a)
	}
}

// P18.3: what can't be put as a request isn't done, though a vault would do it: then nothing changes, not even who asked last.
func TestTooLongToPut(t *testing.T) {
	h, d := host(t, 20000)
	long, longest := strings.Repeat("x", 65), make([]byte, 110001)
	wantOK(t, h, api.Request{Kind: api.ReqPut, Tenant: 1, Body: blob("there")})
	wantOK(t, h, api.Request{Client: 4, Seq: 1, Kind: api.ReqList, Tenant: 1})
	done := doneOf(api.Reply{Client: 9, Seq: 1, Body: longest[:110000]})
	for _, client := range []uint32{0, 4, 5} {
		for _, r := range []api.Request{
			{Kind: api.ReqTenant, Tenant: 2, Name: long},
			{Kind: api.ReqTenant, Tenant: 2, Body: longest},
			{Kind: api.ReqDrop, Tenant: 1, Name: long},
			{Kind: api.ReqDrop, Tenant: 1, Body: longest},
			{Kind: api.ReqPut, Tenant: 1, Body: blob("new"), Name: long},
			{Kind: api.ReqCas, Tenant: 1, Name: "main", Id: idOf(blob("there")), Body: longest},
			{Kind: api.ReqGc, Tenant: 1, Name: long},
			{Kind: api.ReqGc, Tenant: 1, Body: longest},
			{Kind: api.ReqDone, Body: done},
			{Kind: api.ReqDone, Body: doneOf(api.Reply{Client: 9, Seq: 1}), Name: long},
		} {
			r.Client, r.Seq = client, 2
			wantRefused(t, h, d, r, api.ErrWire)
		}
	}
	// What changes nothing isn't put, so it is answered, however long it is.
	for _, r := range []api.Request{
		{Client: 5, Seq: 2, Kind: api.ReqPut, Tenant: 1, Body: blob("there"), Name: long},
		{Client: 5, Seq: 3, Kind: api.ReqList, Tenant: 1, Name: long, Body: longest},
	} {
		wantOK(t, h, r)
	}
	wantRefused(t, h, d, api.Request{Kind: api.ReqTenant, Tenant: 1, Name: long}, api.ErrTenant)
	// At the limit there is nothing to refuse.
	wantOK(t, h, api.Request{Kind: api.ReqTenant, Tenant: 2, Name: long[:64], Body: longest[:110000]})
	wantOK(t, h, api.Request{Kind: api.ReqGc, Tenant: 1, Name: long[:64], Body: longest[:110000]})
	if g := mustOpen(t, suite.New(api.Real, nil), d); pictureOfTenants(g.State()) != pictureOfTenants(h.State()) {
		t.Fatal("opened anew it has something else")
	}
}

// P18.3: what was drawn for a request that isn't appended stays drawn.
func TestDrawsOfTheRefused(t *testing.T) {
	draws := tape.New(make([]byte, 96))
	s := suite.New(api.Ideal, draws)
	h := mustOpen(t, s, created(t, 6))
	wantErr := func(r api.Request, e api.Errno, left int) {
		t.Helper()
		if a := h.Do(r); a.Err != e || draws.Left() != left {
			t.Fatalf("error %d, not %d; %d bytes are left to draw, not %d", a.Err, e, draws.Left(), left)
		}
	}
	wantOK(t, h, api.Request{Kind: api.ReqTenant, Tenant: 1, N: 1 << 40})
	put := api.Request{Kind: api.ReqPut, Tenant: 1, Body: blob("a"), Name: strings.Repeat("x", 65)}
	wantErr(put, api.ErrWire, 64)
	put.Name = ""
	wantErr(put, api.ErrFull, 64)
	put.Body = blob("b")
	wantErr(put, api.ErrCollision, 32)
	put.Body = envelope(api.KindDir, "", api.Id{9})
	wantErr(put, api.ErrNone, 32)
}

// P18.3: a request that the half has no room for isn't done; the host goes on, and what fits is done.
func TestFull(t *testing.T) {
	for size := 6; size < 40; size++ {
		d := created(t, size)
		h := mustOpen(t, suite.New(api.Real, nil), d)
		_, room := Half(d, 1)
		for i := range 40 {
			// Of the names' lengths it hangs whether a request takes two sectors or three.
			r := api.Request{Client: 5, Seq: uint64(i), Kind: api.ReqTenant, Tenant: uint32(i + 1), Name: strings.Repeat("x", (i*37)%65)}
			span := slog.Span(len(asRecord(r)))
			if span > room {
				wantRefused(t, h, d, r, api.ErrFull)
				r.Name = strings.Repeat("x", 65)
				wantRefused(t, h, d, r, api.ErrWire)
				continue
			}
			wantOK(t, h, r)
			room -= span
		}
		if h.Dead() || room > 2 || len(logged(t, d, 1)) == 0 {
			t.Fatalf("%d sectors: Dead %t, %d are left", size, h.Dead(), room)
		}
		if g := mustOpen(t, suite.New(api.Real, nil), d); picture(g.State()) != picture(h.State()) {
			t.Fatalf("%d sectors: opened anew it has something else", size)
		}
	}
}

// P18.3: a full host still answers what changes nothing.
func TestFullAnswers(t *testing.T) {
	h, d := host(t, 6)
	wantRefused(t, h, d, api.Request{Client: 5, Seq: 1, Kind: api.ReqDrop, Tenant: 1}, api.ErrFull)
	wantOK(t, h, api.Request{Client: 5, Seq: 1, Kind: api.ReqList, Tenant: 1})
	wantOK(t, h, api.Request{Client: 5, Seq: 1, Kind: api.ReqDrop, Tenant: 1})
	wantRefused(t, h, d, api.Request{Client: 5, Seq: 2, Kind: api.ReqDrop, Tenant: 1}, api.ErrFull)
}

// wantDead fails unless the host is Dead and stays so, whatever it is asked, and its disk stays as it is.
func wantDead(t *testing.T, h *Host, d *disk.Disk) {
	t.Helper()
	if !h.Dead() {
		t.Fatal("not Dead")
	}
	for i := range 12 {
		for _, client := range []uint32{0, 5, 6} {
			r := api.Request{Client: client, Seq: uint64(1000 + i), Kind: i, Tenant: 1, Body: blob("dead")}
			wantRefused(t, h, d, r, api.ErrCrash)
		}
	}
	was, disk, gen := picture(h.State()), sectorsOf(d), h.Gen()
	if e := h.Compact(); e != api.ErrCrash {
		t.Fatalf("Compact: error %d", e)
	}
	if picture(h.State()) != was || h.Gen() != gen || !slices.Equal(sectorsOf(d), disk) {
		t.Fatal("Compact of a host that is Dead changed something")
	}
}

// P18.3: behind the disk's ErrCrash the host is Dead for ever; what it was asked isn't done, and another one is opened.
func TestDead(t *testing.T) {
	// Both the tenant and the object take three writes.
	for after := 3; after < 6; after++ {
		d := created(t, 60, api.Crash{After: after})
		h := mustOpen(t, suite.New(api.Real, nil), d)
		wantOK(t, h, api.Request{Kind: api.ReqTenant, Tenant: 1, N: 1000})
		wantOK(t, h, api.Request{Client: 5, Seq: 1, Kind: api.ReqList, Tenant: 1})
		was := picture(h.State())
		r := api.Request{Client: 5, Seq: 2, Kind: api.ReqPut, Tenant: 1, Body: blob("a")}
		if a := h.Do(r); !wire.SameReply(a, api.Reply{Client: 5, Seq: 2, Err: api.ErrCrash}) {
			t.Fatalf("%+v", a)
		}
		if picture(h.State()) != was || h.Gen() != 1 {
			t.Fatal("what wasn't written is done")
		}
		wantDead(t, h, d)
		d.Start()
		wantDead(t, h, d)
		g := mustOpen(t, suite.New(api.Real, nil), d)
		wantOK(t, g, r)
		wantDead(t, h, d)
	}
}

// P18.3: a host that hasn't met the loss of power yet answers what it needs no disk for.
func TestNotYetDead(t *testing.T) {
	d := created(t, 60, api.Crash{After: 3})
	h := mustOpen(t, suite.New(api.Real, nil), d)
	wantOK(t, h, api.Request{Kind: api.ReqTenant, Tenant: 1, N: 1000})
	d.Write(59, [64]byte{})
	if !d.Dead() || h.Dead() {
		t.Fatalf("the disk is dead: %t, the host: %t", d.Dead(), h.Dead())
	}
	wantOK(t, h, api.Request{Kind: api.ReqList, Tenant: 1})
	if a := h.Do(api.Request{Client: 5, Seq: 1, Kind: api.ReqTenant, Tenant: 2}); !wire.SameReply(a, api.Reply{Client: 5, Seq: 1, Err: api.ErrCrash}) {
		t.Fatalf("%+v", a)
	}
	wantDead(t, h, d)
}

// P2: what is told may be changed, and what was given may be: neither the host nor its disk changes with it.
func TestMemory(t *testing.T) {
	h, d := host(t, 200)
	body := append(blob("a"), "behind it"...)
	given := api.Request{Client: 5, Seq: 1, Kind: api.ReqPut, Tenant: 1, Body: body[:len(blob("a"))]}
	id := wantOK(t, h, given).Id
	if string(body[len(blob("a")):]) != "behind it" || fmt.Sprint(given.Body) != fmt.Sprint(blob("a")) {
		t.Fatalf("%q", body)
	}
	clear(body)
	for i, x := range []*Host{h, mustOpen(t, suite.New(api.Real, nil), d), h} {
		a := wantOK(t, x, api.Request{Client: 7, Seq: uint64(i), Kind: api.ReqGet, Tenant: 1, Id: id})
		if fmt.Sprint(a.Body) != fmt.Sprint(blob("a")) {
			t.Fatalf("%q", a.Body)
		}
		clear(a.Body[:cap(a.Body)])
	}
	wantCompacted(t, h)
	if a := h.Do(api.Request{Kind: api.ReqGet, Tenant: 1, Id: id}); fmt.Sprint(a.Body) != fmt.Sprint(blob("a")) {
		t.Fatalf("%q", a.Body)
	}
}

// P3: a nil body and an empty one are the same.
func TestNilAndEmpty(t *testing.T) {
	for kind := range 12 {
		h, d := host(t, 60)
		g, f := host(t, 60)
		a := h.Do(api.Request{Client: 5, Seq: 1, Kind: kind, Tenant: 1})
		b := g.Do(api.Request{Client: 5, Seq: 1, Kind: kind, Tenant: 1, Body: []byte{}})
		if !wire.SameReply(a, b) || picture(h.State()) != picture(g.State()) || !slices.Equal(sectorsOf(d), sectorsOf(f)) {
			t.Errorf("kind %d: %v and %v", kind, a, b)
		}
	}
}
