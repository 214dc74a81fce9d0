package keep

import (
	"fmt"
	"maps"
	"slices"
	"strings"
	"testing"

	"tabularium/api"
	"tabularium/disk"
	"tabularium/slog"
	"tabularium/suite"
	"tabularium/tape"
	"tabularium/vault"
	"tabularium/wire"
)

// dice is draws for tests, always the same ones of a seed.
type dice struct{ at uint64 }

// roll is the next draw, from 0 to n - 1.
func (d *dice) roll(n int) int {
	d.at = d.at*6364136223846793005 + 1442695040888963407
	return int(d.at >> 33 % uint64(n))
}

// pick is one of these, drawn.
func pick[T any](d *dice, l ...T) T {
	return l[d.roll(len(l))]
}

// model is a host as the document tells it, worked out otherwise: the requests that its half has, and a vault that does what they don't forget.
type model struct {
	s    *suite.Suite
	log  []api.Request
	v    *vault.State
	gen  uint32
	half int
}

// spans is how many sectors the requests take.
func spans(log ...api.Request) int {
	n := 0
	for _, r := range log {
		n += slog.Span(len(asRecord(r)))
	}
	return n
}

// do is the answer to r with power, and whether anything is written for it; it is done, unless it is only asked.
func (m *model) do(r api.Request, really bool) (api.Reply, bool) {
	changes := m.v.Changes(r)
	if changes && (len(r.Name) > 64 || len(r.Body) > 110000) {
		return api.Reply{Client: r.Client, Seq: r.Seq, Err: api.ErrWire}, false
	}
	if changes && spans(append(m.log, r)...) > m.half {
		return api.Reply{Client: r.Client, Seq: r.Seq, Err: api.ErrFull}, false
	}
	if !really {
		return m.v.Ask(r), changes
	}
	if changes {
		m.log = append(m.log, r)
	}
	return m.v.Do(r), changes
}

// compact is the error of a compaction with power; it is done, unless it is only asked.
func (m *model) compact(really bool) api.Errno {
	all := slices.Collect(m.v.Rebuild())
	if spans(all...) > m.half {
		return api.ErrFull
	}
	if really {
		m.log, m.gen = all, m.gen+1
	}
	return api.OK
}

// restart forgets what isn't in the log.
func (m *model) restart() {
	m.v = stateOf(m.s, m.log...)
}

// run is a host that is held step by step against a model, which has a suite of its own to which the same is drawn.
type run struct {
	*dice
	t            *testing.T
	h            *Host
	d            *disk.Disk
	s            *suite.Suite
	m            *model
	draws, alike *tape.Tape
	known        []api.Id
	seqs         map[uint32]uint64
	// met counts what came, so that nothing is left out unseen.
	met map[string]int
}

func begin(t *testing.T, seed, sectors, mode int, draws []byte, met map[string]int) *run {
	t.Helper()
	x := &run{dice: &dice{uint64(seed)}, t: t, draws: tape.New(draws), alike: tape.New(draws), seqs: map[uint32]uint64{}, met: met}
	var crashes []api.Crash
	for range 40 {
		crashes = append(crashes, api.Crash{After: x.roll(60), Keep: pick(x.dice, -1, 0, 1, 4, 5, 54, 55, 58, 59, 60, 62, 63, 64, 70, x.roll(64))})
	}
	x.d = created(t, sectors, crashes...)
	x.s = suite.New(mode, x.draws)
	x.m = &model{s: suite.New(mode, x.alike), gen: 1, half: (sectors - 2) / 2}
	x.m.restart()
	x.h = mustOpen(t, x.s, x.d)
	return x
}

// body is an envelope that links to what is known, or that doesn't, or none.
func (x *run) body() []byte {
	if x.roll(15) == 0 {
		return pick(x.dice, nil, []byte("no envelope"))
	}
	var links []api.Id
	if len(x.known) > 0 {
		for range pick(x.dice, 0, 0, 1, 2) {
			links = append(links, pick(x.dice, x.known...))
		}
	}
	return envelope(pick(x.dice, api.KindBlob, api.KindDir), strings.Repeat(fmt.Sprint(x.roll(40)), pick(x.dice, 1, 1, 10, 60)), links...)
}

// request draws one, of which most fit what the host has.
func (x *run) request() api.Request {
	put, cas := api.ReqPut, api.ReqCas
	r := api.Request{
		Kind: pick(x.dice, put, put, put, put, put, put, cas, cas, cas, cas, api.ReqGet, api.ReqHas, api.ReqRef, api.ReqList,
			api.ReqTenant, api.ReqTenant, api.ReqGc, api.ReqDone, pick(x.dice, api.ReqDrop, 0, 11)),
		Tenant: pick[uint32](x.dice, 1, 1, 1, 1, 1, 2, 3),
		Name:   pick(x.dice, "main", "a", "b", "", "a/b"),
		N:      pick[uint64](x.dice, 0, 100, 1<<30, 1<<40),
		Client: pick[uint32](x.dice, 0, 0, 5, 6, 7),
		Body:   x.body(),
	}
	if len(x.known) > 0 && x.roll(8) > 0 {
		r.Id = pick(x.dice, x.known...)
	}
	if x.roll(5) > 0 {
		r.Old = x.h.State().Ask(api.Request{Kind: api.ReqRef, Tenant: r.Tenant, Name: r.Name}).Id
	}
	if r.Kind == api.ReqDone {
		r.Body = doneOf(api.Reply{Client: pick[uint32](x.dice, 0, 5, 6), Seq: uint64(x.roll(50)), Body: r.Body})
	}
	if x.roll(25) == 0 {
		r.Name = strings.Repeat("x", pick(x.dice, 64, 65))
	}
	last := x.seqs[r.Client]
	r.Seq = pick(x.dice, last+1, last+1, last+1, last+3, last, last-min(last, 1))
	x.seqs[r.Client] = max(last, r.Seq)
	return r
}

// ask does one drawn request; it fails unless the answer is the model's, or the power went where the model writes something.
func (x *run) ask() {
	x.t.Helper()
	r := x.request()
	writes := x.d.Writes()
	a := x.h.Do(r)
	crashed := x.d.Dead()
	want, wrote := x.m.do(r, !crashed)
	switch {
	case crashed && (!wrote || !x.h.Dead()):
		x.t.Fatalf("%+v: a crash where nothing is written, or a host that isn't Dead", r)
	case crashed:
		want = api.Reply{Client: r.Client, Seq: r.Seq, Err: api.ErrCrash}
	case wrote != (x.d.Writes() > writes):
		x.t.Fatalf("%+v: %d writes", r, x.d.Writes()-writes)
	}
	if !wire.SameReply(a, want) {
		x.t.Fatalf("%+v: %+v, not %+v", r, a, want)
	}
	x.met[fmt.Sprintf("%d:%d", r.Kind, a.Err)]++
	if a.Err == api.OK && r.Kind == api.ReqPut {
		x.known = append(x.known, a.Id)
	}
	if crashed {
		x.restart()
		// It may be there though it changes nothing that is seen, such as a ReqGc that clears nothing away.
		if len(logged(x.t, x.d, x.m.gen)) > len(x.m.log) {
			x.met["the one that was being made"]++
			x.m.do(r, true)
			x.m.restart()
		}
	}
}

// compact does a compaction; it fails unless the error is the model's, or the power went.
func (x *run) compact() {
	x.t.Helper()
	e := x.h.Compact()
	crashed := x.d.Dead()
	want := x.m.compact(!crashed)
	if crashed != (e == api.ErrCrash) || !crashed && e != want {
		x.t.Fatalf("Compact: error %d, not %d", e, want)
	}
	x.met[fmt.Sprintf("Compact:%d", e)]++
	if crashed {
		all := slices.Collect(x.m.v.Rebuild())
		x.restart()
		if x.h.Gen() == x.m.gen+1 {
			x.met["the compaction that was being made"]++
			x.m.log, x.m.gen = all, x.m.gen+1
			x.m.restart()
		}
	}
}

// restart brings the power back and opens the host anew; it fails unless the tenants are what they were, as long as no two texts had one digest.
func (x *run) restart() {
	x.t.Helper()
	x.d.Start()
	x.h = mustOpen(x.t, x.s, x.d)
	was := pictureOfTenants(x.m.v)
	x.m.restart()
	if _, _, is := x.s.Clash(); !is && pictureOfTenants(x.m.v) != was {
		x.t.Fatalf("a restart made\n%s\nof\n%s", pictureOfTenants(x.m.v), was)
	}
}

// same fails unless the host, its half and its draws are as the model's.
func (x *run) same() {
	x.t.Helper()
	if is, want := picture(x.h.State()), picture(x.m.v); is != want {
		x.t.Fatalf("%s\nnot\n%s", is, want)
	}
	if x.h.Gen() != x.m.gen || x.h.Dead() {
		x.t.Fatalf("Gen %d, not %d; Dead %t", x.h.Gen(), x.m.gen, x.h.Dead())
	}
	wantLogged(x.t, x.d, x.m.gen, x.m.log...)
	if x.draws.Left() != x.alike.Left() {
		x.t.Fatalf("%d bytes are left to draw, not %d", x.draws.Left(), x.alike.Left())
	}
}

func (x *run) steps(n int) {
	x.t.Helper()
	for range n {
		switch y := x.roll(100); {
		case y < 90:
			x.ask()
		case y < 97:
			x.compact()
		default:
			x.restart()
		}
		x.same()
	}
}

// P18.1 to P18.5: drawn lives with many crashes, of real suites and of ideal ones, among them such as come to the end of their draws or have alike digests.
func TestDrawnLives(t *testing.T) {
	met := map[string]int{}
	for seed := range 80 {
		r := &dice{uint64(1000 + seed)}
		var apart, alike []byte
		for range 200 * 32 {
			apart = append(apart, byte(r.roll(256)))
		}
		for range 200 {
			alike = append(append(alike, byte(r.roll(80))), make([]byte, 31)...)
		}
		begin(t, seed, 20+r.roll(400), api.Real, nil, met).steps(80)
		begin(t, 100+seed, 20+r.roll(400), api.Ideal, apart, met).steps(80)
		begin(t, 200+seed, 20+r.roll(400), api.Ideal, apart[:32*8], met).steps(80)
		begin(t, 300+seed, 20+r.roll(400), api.Ideal, alike, met).steps(80)
	}
	want := strings.Fields("1:0 1:131 1:141 1:150 1:180 2:0 2:3 2:60 2:71 2:90 2:131 2:141 2:150 2:151 2:180 2:200 6:0 6:3 6:100 6:131 6:141 6:152" +
		" 8:0 8:131 8:141 8:180 9:0 10:0 10:1 10:131 10:141 11:1 Compact:0 Compact:131 Compact:141")
	for _, w := range append(want, "the one that was being made", "the compaction that was being made") {
		if met[w] == 0 {
			t.Errorf("%s never came: %v", w, slices.Sorted(maps.Keys(met)))
		}
	}
}
