package keep

import (
	"fmt"
	"strings"
	"testing"

	"tabularium/api"
	"tabularium/disk"
	"tabularium/suite"
	"tabularium/tape"
	"tabularium/vault"
	"tabularium/wire"
)

// compaction is the kind of what is no request in a script.
const compaction = 0

// script is a life of a host: requests that change something, such as change nothing, and compactions between; each client's Seqs rise.
func script(s *suite.Suite) []api.Request {
	idOf := func(b []byte) api.Id {
		id, _ := s.Digest(b)
		return id
	}
	a, b, long := blob("a"), blob("b"), blob(strings.Repeat("long ", 40))
	dir := envelope(api.KindDir, "dir", idOf(a), idOf(long))
	all := []api.Request{
		{Client: 5, Kind: api.ReqTenant, Tenant: 1, N: 1000},
		{Client: 5, Kind: api.ReqPut, Tenant: 1, Body: a},
		{Client: 6, Kind: api.ReqPut, Tenant: 1, Body: b},
		{Kind: compaction},
		{Client: 5, Kind: api.ReqList, Tenant: 1},
		{Client: 5, Kind: api.ReqPut, Tenant: 1, Body: long},
		{Client: 5, Kind: api.ReqPut, Tenant: 1, Body: dir},
		{Client: 5, Kind: api.ReqCas, Tenant: 1, Name: "main", Id: idOf(dir)},
		{Client: 6, Kind: api.ReqTenant, Tenant: 2, N: 5},
		{Kind: compaction},
		{Client: 7, Kind: api.ReqGc, Tenant: 1},
		{Client: 6, Kind: api.ReqDrop, Tenant: 2},
		{Kind: compaction},
		{Kind: compaction},
		{Client: 6, Kind: api.ReqCas, Tenant: 1, Name: "main", Id: idOf(a), Old: idOf(dir)},
		{Client: 6, Kind: api.ReqGet, Tenant: 1, Id: idOf(a)},
		{Client: 7, Kind: api.ReqGc, Tenant: 1},
	}
	for i := range all {
		all[i].Seq = uint64(i + 1)
	}
	return all
}

// suites are a new real suite and a new ideal one whose digests are unlike.
func suites() []*suite.Suite {
	var draws []byte
	for i := range 32 * 32 {
		draws = append(draws, byte(i*i+i>>5))
	}
	return []*suite.Suite{suite.New(api.Real, nil), suite.New(api.Ideal, tape.New(draws))}
}

// kept is what a host has to have: of one that is never without power, and the answers to the last changes.
type kept struct {
	v       *vault.State
	answers map[uint32]api.Reply
}

// does takes in that r was done, or may have been.
func (k *kept) does(r api.Request) {
	changes := k.v.Changes(r)
	if a := k.v.Do(r); changes {
		k.answers[r.Client] = a
	}
}

// wantKept fails unless the host has just what k tells.
func wantKept(t *testing.T, what string, h *Host, k *kept) {
	t.Helper()
	if is, want := pictureOfTenants(h.State()), pictureOfTenants(k.v); is != want {
		t.Fatalf("%s: the host has\n%s\nnot\n%s", what, is, want)
	}
	for client, want := range k.answers {
		// A later request that changed nothing may be the last one, or forgotten.
		if a, is := h.State().Last(client); !is || a.Seq <= want.Seq && !wire.SameReply(a, want) {
			t.Fatalf("%s: client %d was answered %+v last, not %+v", what, client, a, want)
		}
	}
}

// again opens the host anew behind a crash at r, and fails unless it has all that said OK, and r whole or not at all.
func again(t *testing.T, what string, s *suite.Suite, d *disk.Disk, r api.Request, k *kept) *Host {
	t.Helper()
	d.Start()
	h, e := Open(s, d)
	if e != api.OK {
		t.Fatalf("%s: Open: error %d", what, e)
	}
	if r.Kind != compaction && pictureOfTenants(h.State()) != pictureOfTenants(k.v) {
		k.does(r)
	}
	wantKept(t, what, h, k)
	return h
}

// live runs the script on d, opening the host anew behind each crash and asking again what wasn't answered; it answers the host and how many crashes there were.
func live(t *testing.T, what string, s *suite.Suite, d *disk.Disk) (*Host, int) {
	t.Helper()
	h := mustOpen(t, s, d)
	k := &kept{v: vault.New(s), answers: map[uint32]api.Reply{}}
	crashes := 0
	for _, r := range script(s) {
		for {
			e := api.OK
			if r.Kind == compaction {
				e = h.Compact()
			} else {
				e = h.Do(r).Err
			}
			if e == api.OK {
				break
			}
			if e != api.ErrCrash || !h.Dead() {
				t.Fatalf("%s: %+v: error %d, Dead %t", what, r, e, h.Dead())
			}
			crashes++
			h = again(t, what, s, d, r, k)
		}
		if r.Kind != compaction {
			k.does(r)
		}
	}
	wantKept(t, what, h, k)
	return h, crashes
}

// someKeeps are how much of a sector a crash keeps: each length near the ends of a head's and a mark's parts.
func someKeeps() []int {
	l := []int{30}
	for i := -1; i <= 6; i++ {
		l = append(l, i)
	}
	for i := 53; i <= 65; i++ {
		l = append(l, i)
	}
	return l
}

// P18.5: the power goes at every write of a host's life; asked again behind it, it comes to the same as one that had power all the while.
func TestKept(t *testing.T) {
	for mode := range 2 {
		s := suites()[mode]
		g, _ := live(t, "without a crash", s, created(t, 120))
		want := pictureOfTenants(g.State())
		for after, crashes := 0, 1; crashes > 0; after++ {
			for _, keep := range someKeeps() {
				s := suites()[mode]
				what := fmt.Sprintf("mode %d, a crash behind %d writes, of which %d bytes are kept", mode, after, keep)
				h, n := live(t, what, s, created(t, 120, api.Crash{After: after, Keep: keep}))
				if is := pictureOfTenants(h.State()); is != want {
					t.Fatalf("%s: in the end there is\n%s\nnot\n%s", what, is, want)
				}
				crashes = n
			}
			if crashes == 0 && after < 50 {
				t.Fatalf("mode %d: only %d writes", mode, after)
			}
		}
	}
}

// P18.5: crash upon crash, close behind each other, so that what was torn is torn again.
func TestKeptBehindCrashUponCrash(t *testing.T) {
	keeps := []int{0, 1, 3, 4, 54, 55, 59, 60, 62, 63, 64}
	for first := range 100 {
		for i, keep := range keeps {
			s := suites()[i%2]
			crashes := []api.Crash{{After: first, Keep: keep}}
			for j := range 6 {
				crashes = append(crashes, api.Crash{After: (first*7 + j*j*3) % 5, Keep: keeps[(i+first+j)%len(keeps)]})
			}
			what := fmt.Sprintf("crashes %v", crashes)
			live(t, what, s, created(t, 120, crashes...))
		}
	}
}

// P18.5: gens at the edges of their bytes: a torn head is no head, and none of another gen.
func TestKeptAtTheEdgesOfGens(t *testing.T) {
	for _, gen := range someGens() {
		if gen == 0 || gen+1 == 0 {
			continue
		}
		for after := range 20 {
			for _, keep := range someKeeps() {
				d := onDisk(t, gen, asRecord(several()[0]))
				d.Write(int((gen+1)%2), Super(gen-1))
				c := disk.New(d.Len(), api.Crash{After: -1}, api.Crash{After: after, Keep: keep})
				for i, s := range d.Sectors() {
					c.Write(i, s)
				}
				c.Start()
				h := mustOpen(t, nil, c)
				e := h.Compact()
				c.Start()
				g, bad := Open(nil, c)
				if bad != api.OK || picture(g.State()) != picture(h.State()) {
					t.Fatalf("gen %d, a crash behind %d writes, of which %d bytes are kept: error %d", gen, after, keep, bad)
				}
				if e == api.OK && g.Gen() != gen+1 || g.Gen() != gen && g.Gen() != gen+1 {
					t.Fatalf("gen %d, a crash behind %d writes, of which %d bytes are kept: Gen %d", gen, after, keep, g.Gen())
				}
			}
		}
	}
}

// P18.2, P18.5: a crash while a host is created: there is one of nothing then, or none.
func TestCrashWhileCreating(t *testing.T) {
	for after := range 6 {
		for keep := -1; keep <= 65; keep++ {
			d := disk.New(60, api.Crash{After: after, Keep: keep})
			e := Create(nil, d)
			if (e == api.OK) != (after >= 4) {
				t.Fatalf("a crash behind %d writes: error %d", after, e)
			}
			d.Start()
			h, e := Open(nil, d)
			if is := after >= 4 || after == 3 && keep >= 64; is && (e != api.OK || picture(h.State()) != "") || !is && e != api.ErrLog {
				t.Fatalf("a crash behind %d writes, of which %d bytes are kept: error %d", after, keep, e)
			}
			if e := Create(nil, d); e != api.OK {
				t.Fatalf("Create again: error %d", e)
			}
			if h := mustOpen(t, nil, d); picture(h.State()) != "" || h.Gen() != 1 {
				t.Fatalf("Gen %d, %s", h.Gen(), picture(h.State()))
			}
		}
	}
}
