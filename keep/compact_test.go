package keep

import (
	"math"
	"slices"
	"testing"

	"tabularium/api"
	"tabularium/disk"
	"tabularium/slog"
	"tabularium/suite"
	"tabularium/tape"
)

func wantCompacted(t *testing.T, h *Host) {
	t.Helper()
	gen, was := h.Gen(), picture(h.State())
	if e := h.Compact(); e != api.OK {
		t.Fatalf("Compact: error %d", e)
	}
	if h.Gen() != gen+1 || h.Dead() || picture(h.State()) != was {
		t.Fatalf("Gen %d behind %d, Dead %t, and %s\nnot\n%s", h.Gen(), gen, h.Dead(), picture(h.State()), was)
	}
}

// P18.4: behind it the host is what it was, its changes go into the other half, and what was dropped takes no room.
func TestCompact(t *testing.T) {
	h, d := host(t, 200)
	for i := range 12 {
		for j := range 10 {
			wantOK(t, h, api.Request{Client: 5, Seq: uint64(20*i + 2*j + 1), Kind: api.ReqTenant, Tenant: 7, N: uint64(i)})
			wantOK(t, h, api.Request{Client: 5, Seq: uint64(20*i + 2*j + 2), Kind: api.ReqDrop, Tenant: 7})
		}
		wantCompacted(t, h)
		all := slices.Collect(h.State().Rebuild())
		wantLogged(t, d, h.Gen(), all...)
		r := api.Request{Kind: api.ReqPut, Tenant: 1, Body: blob(string(rune('a' + i)))}
		wantOK(t, h, r)
		wantLogged(t, d, h.Gen(), append(all, r)...)
		g := mustOpen(t, suite.New(api.Real, nil), d)
		if g.Gen() != uint32(i+2) || picture(g.State()) != picture(h.State()) {
			t.Fatalf("opened anew: Gen %d, and %s\nnot\n%s", g.Gen(), picture(g.State()), picture(h.State()))
		}
		if i%3 == 2 {
			h = g
		}
	}
}

// P18.4: what was answered last outlasts a restart behind Compact, also if it was never appended.
func TestCompactTakesLastRequests(t *testing.T) {
	h, d := host(t, 200)
	wantOK(t, h, api.Request{Client: 5, Seq: 2, Kind: api.ReqList, Tenant: 1})
	h.Do(api.Request{Client: 6, Seq: 2, Kind: api.ReqGet, Tenant: 1})
	wantCompacted(t, h)
	g := mustOpen(t, suite.New(api.Real, nil), d)
	for _, client := range []uint32{5, 6} {
		if a, is := g.State().Last(client); !is || a.Seq != 2 || a.Client != client {
			t.Errorf("%+v", a)
		}
	}
}

// compactedTill is a host on which that many compactions were done, its disk ahead of one more, and the error of that one with a crash behind so many writes.
func compactedTill(t *testing.T, compactions, after int) (h *Host, was [][64]byte, d *disk.Disk, e api.Errno) {
	t.Helper()
	d = created(t, 100, api.Crash{After: -1}, api.Crash{After: after})
	h = mustOpen(t, suite.New(api.Real, nil), d)
	for _, r := range several() {
		h.Do(r)
	}
	for range compactions {
		wantCompacted(t, h)
	}
	was = sectorsOf(d)
	d.Start()
	return h, was, d, h.Compact()
}

// P18.4: what is written, and where: the other half, then the other head's sector twice; the half and the head that count stay.
func TestCompactWrites(t *testing.T) {
	for compactions := range 3 {
		gen := uint32(compactions + 2)
		next := int(gen % 2)
		from, behind := 2+49*next, 2+49*next+49
		var heads [][64]byte
		for e := api.ErrCrash; e == api.ErrCrash; {
			after := len(heads)
			h, was, d, bad := compactedTill(t, compactions, after)
			is := sectorsOf(d)
			for i := range is {
				if is[i] != was[i] && i != next && (i < from || i >= behind) {
					t.Fatalf("%d writes: sector %d was written", after, i)
				}
			}
			if after > 0 && is[from] != ([64]byte{}) && is[from] != firstSector(t, h, gen) || after == 1 && is[from] != [64]byte{} {
				t.Fatalf("%d writes: the other half begins with %x", after, is[from])
			}
			if is[next] != was[next] || bad == api.OK {
				d.Start()
				wantLogged(t, d, gen, slices.Collect(h.State().Rebuild())...)
			}
			e, heads = bad, append(heads, is[next])
			if e != api.OK && e != api.ErrCrash {
				t.Fatalf("%d writes: error %d", after, e)
			}
		}
		// A crash behind no write, behind each but the last two, behind the last but one, and none any more.
		last := len(heads) - 1
		for i, s := range heads {
			want := heads[0]
			if i >= last-1 {
				want = [2][64]byte{{}, Super(gen)}[i-(last-1)]
			}
			if s != want {
				t.Errorf("gen %d: %d writes of %d: the other head's sector is %x", gen, i, last, s)
			}
		}
		if last < 10 || gen > 2 && heads[0] != Super(gen-2) {
			t.Errorf("gen %d: %d writes, over the head %x", gen, last, heads[0])
		}
	}
}

// firstSector is the one with which the log of gen begins if it tells what h has.
func firstSector(t *testing.T, h *Host, gen uint32) [64]byte {
	t.Helper()
	d := disk.New(200)
	slog.Format(d, 0, 200, gen)
	l, _ := slog.Open(d, 0, 200, gen)
	for r := range h.State().Rebuild() {
		l.Append(asRecord(r))
		break
	}
	s, _ := d.Read(0)
	return s
}

// P18.4: if the other half has no room, the host goes on as it was, now and behind a restart.
func TestCompactFull(t *testing.T) {
	d := created(t, 6)
	h := mustOpen(t, suite.New(api.Real, nil), d)
	// In the log it is one record of two sectors; told again it is a tenant, and what client 5 was answered.
	wantOK(t, h, api.Request{Client: 5, Seq: 1, Kind: api.ReqTenant, Tenant: 1})
	was := picture(h.State())
	for range 3 {
		head, _ := d.Read(0)
		if e := h.Compact(); e != api.ErrFull {
			t.Fatalf("error %d, not ErrFull", e)
		}
		if now, _ := d.Read(0); now != head || h.Gen() != 1 || h.Dead() || picture(h.State()) != was {
			t.Fatalf("Gen %d, Dead %t, %s", h.Gen(), h.Dead(), picture(h.State()))
		}
		wantOK(t, h, api.Request{Kind: api.ReqList, Tenant: 1})
		wantRefused(t, h, d, api.Request{Kind: api.ReqDrop, Tenant: 1}, api.ErrFull)
		if g := mustOpen(t, suite.New(api.Real, nil), d); g.Gen() != 1 || picture(g.State()) != was {
			t.Fatalf("opened anew: Gen %d, %s", g.Gen(), picture(g.State()))
		}
	}
}

// P18.4: a host that couldn't be compacted goes on changing in its half, and is compacted when it has less.
func TestCompactLater(t *testing.T) {
	d := created(t, 40)
	h := mustOpen(t, suite.New(api.Real, nil), d)
	wantOK(t, h, api.Request{Kind: api.ReqTenant, Tenant: 1, N: 1000})
	for client := range uint32(12) {
		wantOK(t, h, api.Request{Client: client + 1, Seq: 1, Kind: api.ReqList, Tenant: 1})
	}
	if e := h.Compact(); e != api.ErrFull {
		t.Fatalf("error %d, not ErrFull", e)
	}
	wantOK(t, h, api.Request{Kind: api.ReqPut, Tenant: 1, Body: blob("a")})
	// Opened anew it has forgotten what it was asked without a change.
	g := mustOpen(t, suite.New(api.Real, nil), d)
	if pictureOfTenants(g.State()) != pictureOfTenants(h.State()) {
		t.Fatalf("%s\nnot\n%s", pictureOfTenants(g.State()), pictureOfTenants(h.State()))
	}
	wantCompacted(t, g)
	wantOK(t, g, api.Request{Kind: api.ReqPut, Tenant: 1, Body: blob("b")})
	wantState(t, mustOpen(t, suite.New(api.Real, nil), d),
		api.Request{Kind: api.ReqTenant, Tenant: 1, N: 1000},
		api.Request{Kind: api.ReqPut, Tenant: 1, Body: blob("a")},
		api.Request{Kind: api.ReqPut, Tenant: 1, Body: blob("b")})
}

// P18.4: an answer that somebody made the state take past the host, too long to be a request's body.
func TestCompactTooLong(t *testing.T) {
	h, d := host(t, 20000)
	done := doneOf(api.Reply{Client: 9, Seq: 1, Body: make([]byte, 110000)})
	h.State().Do(api.Request{Kind: api.ReqDone, Body: done})
	was := picture(h.State())
	if e := h.Compact(); e != api.ErrWire {
		t.Fatalf("error %d, not ErrWire", e)
	}
	if h.Gen() != 1 || h.Dead() || picture(h.State()) != was {
		t.Fatalf("Gen %d, Dead %t", h.Gen(), h.Dead())
	}
	wantOK(t, h, api.Request{Kind: api.ReqTenant, Tenant: 2})
	wantState(t, mustOpen(t, suite.New(api.Real, nil), d),
		api.Request{Kind: api.ReqTenant, Tenant: 1, N: 1 << 40}, api.Request{Kind: api.ReqTenant, Tenant: 2})
	// Another answer to that client stands in its place, and all is well.
	wantOK(t, h, api.Request{Client: 9, Seq: 2, Kind: api.ReqList, Tenant: 1})
	wantCompacted(t, h)
}

// P18.4, P18.5: gens go on over the edges of their bytes; behind the greatest there is none, so nothing is written.
func TestCompactGens(t *testing.T) {
	for _, gen := range someGens() {
		if gen == 0 {
			continue
		}
		d := onDisk(t, gen, asRecord(several()[0]))
		h := mustOpen(t, suite.New(api.Real, nil), d)
		if gen == math.MaxUint32 {
			was := sectorsOf(d)
			if e := h.Compact(); e != api.ErrRange || h.Gen() != gen || h.Dead() || !slices.Equal(sectorsOf(d), was) {
				t.Fatalf("behind the greatest gen: error %d, Gen %d", e, h.Gen())
			}
			wantOK(t, h, several()[1])
			continue
		}
		wantCompacted(t, h)
		s, _ := d.Read(int((gen + 1) % 2))
		if g := mustOpen(t, suite.New(api.Real, nil), d); s != Super(gen+1) || g.Gen() != gen+1 || picture(g.State()) != picture(h.State()) {
			t.Fatalf("behind gen %d: Gen %d, head %x", gen, g.Gen(), s)
		}
	}
}

// P18.4: nothing is drawn, also if two unlike texts had one digest.
func TestCompactDrawsNothing(t *testing.T) {
	draws := tape.New(slices.Concat(make([]byte, 64), []byte("32 bytes that are a single draw.")))
	h := mustOpen(t, suite.New(api.Ideal, draws), created(t, 60))
	wantOK(t, h, api.Request{Kind: api.ReqTenant, Tenant: 1, N: 1000})
	wantOK(t, h, api.Request{Kind: api.ReqPut, Tenant: 1, Body: blob("a")})
	if a := h.Do(api.Request{Kind: api.ReqPut, Tenant: 1, Body: blob("b")}); a.Err != api.ErrCollision {
		t.Fatalf("%+v", a)
	}
	wantCompacted(t, h)
	if draws.Left() != 32 {
		t.Fatalf("%d bytes are left to draw", draws.Left())
	}
	wantOK(t, h, api.Request{Kind: api.ReqGet, Tenant: 1})
}

// P18.4: the state is the host's own: what is asked of the host later is seen in it.
func TestState(t *testing.T) {
	h, _ := host(t, 60)
	v := h.State()
	wantOK(t, h, api.Request{Kind: api.ReqTenant, Tenant: 2, N: 9})
	wantCompacted(t, h)
	wantOK(t, h, api.Request{Kind: api.ReqTenant, Tenant: 3, N: 7})
	if h.State() != v {
		t.Fatal("another state")
	}
	for n, want := range map[uint32]uint64{2: 9, 3: 7} {
		if _, quota, is := v.Used(n); quota != want || !is {
			t.Errorf("tenant %d: %d, %t", n, quota, is)
		}
	}
}

// P18.4, P1: a Host that nobody made.
func TestNobodyMade(t *testing.T) {
	for _, h := range []*Host{nil, {}} {
		for kind := -1; kind < 12; kind++ {
			r := api.Request{Client: 5, Seq: 6, Kind: kind, Tenant: 1, Name: "main", Body: blob("a")}
			if a := h.Do(r); a.Err != api.ErrCrash || len(a.Body) != 0 || len(a.Names) != 0 || a.N != 0 || a.Id != (api.Id{}) {
				t.Errorf("%+v", a)
			}
		}
		if e := h.Compact(); e != api.ErrCrash {
			t.Errorf("Compact: error %d", e)
		}
		if !h.Dead() || h.State() != nil || h.Gen() != 0 {
			t.Errorf("Dead %t, State %v, Gen %d", h.Dead(), h.State(), h.Gen())
		}
	}
}
