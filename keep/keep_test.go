package keep

import (
	"fmt"
	"slices"
	"strings"
	"testing"

	"tabularium/api"
	"tabularium/disk"
	"tabularium/envel"
	"tabularium/slog"
	"tabularium/suite"
	"tabularium/vault"
	"tabularium/wire"
)

func blob(text string) []byte {
	return envelope(api.KindBlob, text)
}

// envelope is the bytes of one with this text, which links to these ids.
func envelope(kind int, text string, links ...api.Id) []byte {
	b, e := envel.Put(api.Envelope{Kind: kind, Links: envel.Links(links...), Body: []byte(text)})
	if e != api.OK {
		panic(e)
	}
	return b
}

// idOf is the id of b as real suites tell it.
func idOf(b []byte) api.Id {
	id, _ := suite.New(api.Real, nil).Digest(b)
	return id
}

// doneOf is the body of a ReqDone of a.
func doneOf(a api.Reply) []byte {
	b, e := wire.PutReply(a)
	if e != api.OK {
		panic(e)
	}
	return b
}

// dirty is a disk of n sectors none of which is clean, and on which an older host's heads and records stand; then the crashes are ahead.
func dirty(n int, crashes ...api.Crash) *disk.Disk {
	d := disk.New(n, append([]api.Crash{{After: -1}}, crashes...)...)
	for i := range n {
		d.Write(i, mark(uint32(i)%5, uint32(i)))
	}
	if n >= 2 {
		d.Write(0, Super(4))
		d.Write(1, Super(3))
	}
	d.Start()
	return d
}

// mark is a sector that begins a record of one byte with this number in a log of gen.
func mark(gen, number uint32) [64]byte {
	s := [64]byte{0: 1, 4: 0x77, 63: 0xa5}
	for i := range 4 {
		s[55+i], s[59+i] = byte(gen>>(8*i)), byte(number>>(8*i))
	}
	return s
}

// sectorsOf is all that the disk has, with power or without.
func sectorsOf(d *disk.Disk) [][64]byte {
	var out [][64]byte
	for _, s := range d.Sectors() {
		out = append(out, s)
	}
	return out
}

// created is a disk on which Create was done with power; then the crashes are ahead.
func created(t *testing.T, n int, crashes ...api.Crash) *disk.Disk {
	t.Helper()
	d := dirty(n, append([]api.Crash{{After: -1}}, crashes...)...)
	if e := Create(nil, d); e != api.OK {
		t.Fatalf("Create: error %d", e)
	}
	d.Start()
	return d
}

func mustOpen(t *testing.T, s *suite.Suite, d *disk.Disk) *Host {
	t.Helper()
	h, e := Open(s, d)
	if e != api.OK || h == nil {
		t.Fatalf("Open: error %d", e)
	}
	return h
}

// host is a real one with a disk of n sectors and tenant 1, which has room for much.
func host(t *testing.T, n int) (*Host, *disk.Disk) {
	t.Helper()
	d := created(t, n)
	h := mustOpen(t, suite.New(api.Real, nil), d)
	wantOK(t, h, api.Request{Kind: api.ReqTenant, Tenant: 1, N: 1 << 40})
	return h, d
}

// wantOK does r and fails if it is refused.
func wantOK(t *testing.T, h *Host, r api.Request) api.Reply {
	t.Helper()
	a := h.Do(r)
	if a.Err != api.OK || a.Client != r.Client || a.Seq != r.Seq {
		t.Fatalf("%.200v: %.200v", r, a)
	}
	return a
}

// wantRefused does r and fails unless the answer is e with r's Client and Seq alone, and neither the host nor its disk has changed.
func wantRefused(t *testing.T, h *Host, d *disk.Disk, r api.Request, e api.Errno) {
	t.Helper()
	was, disk, dead, gen := picture(h.State()), sectorsOf(d), h.Dead(), h.Gen()
	if a := h.Do(r); !wire.SameReply(a, api.Reply{Client: r.Client, Seq: r.Seq, Err: e}) {
		t.Fatalf("%.200v: %.200v, not error %d", r, a, e)
	}
	if picture(h.State()) != was || h.Dead() != dead || h.Gen() != gen {
		t.Fatalf("%.200v is refused and changes the host", r)
	}
	if !slices.Equal(sectorsOf(d), disk) {
		t.Fatalf("%.200v is refused and changes the disk", r)
	}
}

// picture is all that a host has, as a text: the requests that make it.
func picture(v *vault.State) string {
	var out strings.Builder
	for r := range v.Rebuild() {
		out.WriteString(line(r))
	}
	return out.String()
}

// pictureOfTenants is picture, without what was answered last.
func pictureOfTenants(v *vault.State) string {
	var out strings.Builder
	for r := range v.Rebuild() {
		if r.Kind != api.ReqDone {
			out.WriteString(line(r))
		}
	}
	return out.String()
}

// line is all of a request, as a text.
func line(r api.Request) string {
	return fmt.Sprintf("%d %d %d %d %q %x %x %d %x\n", r.Client, r.Seq, r.Kind, r.Tenant, r.Name, r.Id[:], r.Old[:], r.N, r.Body)
}

// stateOf is what a host of nothing becomes that does all these requests.
func stateOf(s *suite.Suite, all ...api.Request) *vault.State {
	v := vault.New(s)
	for _, r := range all {
		v.Do(r)
	}
	return v
}

// logged is the requests that stand in the half of gen, without asking keep how they are read.
func logged(t *testing.T, d *disk.Disk, gen uint32) []api.Request {
	t.Helper()
	n := (d.Len() - 2) / 2
	l, e := slog.Open(d, 2+n*int(gen%2), n, gen)
	if e != api.OK {
		t.Fatalf("the half of gen %d: error %d", gen, e)
	}
	var out []api.Request
	for b := range l.Records() {
		r, e := wire.OfRequest(b)
		if e != api.OK {
			t.Fatalf("record %d is no request", len(out))
		}
		out = append(out, r)
	}
	return out
}

// wantLogged fails unless just these requests stand in the half of gen.
func wantLogged(t *testing.T, d *disk.Disk, gen uint32, want ...api.Request) {
	t.Helper()
	got := logged(t, d, gen)
	if len(got) != len(want) {
		t.Fatalf("%d requests in the log, not %d: %.500v", len(got), len(want), got)
	}
	for i, r := range want {
		if line(got[i]) != line(r) {
			t.Fatalf("request %d of the log: %.200v, not %.200v", i, got[i], r)
		}
	}
}

// wantState fails unless the host has what stateOf tells of these requests.
func wantState(t *testing.T, h *Host, all ...api.Request) {
	t.Helper()
	if is, want := picture(h.State()), picture(stateOf(suite.New(api.Real, nil), all...)); is != want {
		t.Fatalf("%s\nnot\n%s", is, want)
	}
}
