package vault

import (
	"bytes"
	"fmt"
	"maps"
	"math"
	"slices"
	"strings"
	"testing"

	"tabularium/api"
	"tabularium/envel"
	"tabularium/suite"
	"tabularium/tape"
	"tabularium/wire"
)

// plainHost is a host as the document tells it, worked out otherwise: lists that are gone through, and a new host for each request.
type plainHost struct {
	s       *suite.Suite
	tenants []plainTenant
	last    []api.Reply
}

type plainTenant struct {
	number uint32
	quota  uint64
	texts  []plainText
	refs   []api.Ref
}

type plainText struct {
	id   api.Id
	text string
}

// copied is p in memory of its own, but for the suite.
func (p plainHost) copied() plainHost {
	p.tenants, p.last = slices.Clone(p.tenants), slices.Clone(p.last)
	for i := range p.tenants {
		p.tenants[i].texts, p.tenants[i].refs = slices.Clone(p.tenants[i].texts), slices.Clone(p.tenants[i].refs)
	}
	return p
}

func (t plainTenant) find(id api.Id) (string, bool) {
	for _, x := range t.texts {
		if x.id == id {
			return x.text, true
		}
	}
	return "", false
}

func (t plainTenant) at(name string) api.Id {
	for _, ref := range t.refs {
		if ref.Name == name {
			return ref.Id
		}
	}
	return api.Id{}
}

func (t plainTenant) used() uint64 {
	n := 0
	for _, x := range t.texts {
		n += len(x.text)
	}
	return uint64(n)
}

// links is those of a text that is an envelope.
func links(text string) []api.Id {
	e, _ := envel.Of([]byte(text))
	return e.Links
}

// reached is the texts to which a ref or another such text leads.
func (t plainTenant) reached() []plainText {
	kept := map[api.Id]bool{}
	for _, ref := range t.refs {
		kept[ref.Id] = true
	}
	for n := -1; n < len(kept); {
		n = len(kept)
		for _, x := range t.texts {
			if kept[x.id] {
				for _, link := range links(x.text) {
					kept[link] = true
				}
			}
		}
	}
	return slices.DeleteFunc(slices.Clone(t.texts), func(x plainText) bool { return !kept[x.id] })
}

// do is the reply to r, the host behind it, and whether it counts as a change.
func (p plainHost) do(r api.Request) (api.Reply, plainHost, bool) {
	for _, a := range p.last {
		if r.Client != 0 && a.Client == r.Client && a.Seq == r.Seq {
			return a, p, false
		}
		if r.Client != 0 && a.Client == r.Client && a.Seq > r.Seq {
			return api.Reply{Client: r.Client, Seq: r.Seq, Err: api.ErrSession}, p, false
		}
	}
	next := p.copied()
	a, changes := next.byKind(r)
	if a.Err != api.OK {
		a, changes = api.Reply{Err: a.Err}, false
	}
	if !changes {
		next = p.copied()
	}
	a.Client, a.Seq = r.Client, r.Seq
	if r.Client != 0 && r.Kind != api.ReqDone {
		next.answered(a)
	}
	return a, next, changes
}

func (p *plainHost) answered(a api.Reply) {
	p.last = slices.DeleteFunc(p.last, func(x api.Reply) bool { return x.Client == a.Client })
	p.last = append(p.last, a)
}

// byKind works on p, of which nothing counts if there is an error.
func (p *plainHost) byKind(r api.Request) (a api.Reply, changes bool) {
	i := slices.IndexFunc(p.tenants, func(t plainTenant) bool { return t.number == r.Tenant })
	if r.Kind == api.ReqDone {
		last, e := wire.OfReply(r.Body)
		if e != api.OK || last.Client == 0 {
			return api.Reply{Err: api.ErrRange}, false
		}
		p.answered(last)
		return api.Reply{}, true
	}
	if r.Kind == api.ReqTenant {
		if i >= 0 {
			return api.Reply{Err: api.ErrTenant}, false
		}
		p.tenants = append(p.tenants, plainTenant{number: r.Tenant, quota: r.N})
		return api.Reply{}, true
	}
	if i < 0 {
		return api.Reply{Err: api.ErrTenant}, false
	}
	t := &p.tenants[i]
	_, has := t.find(r.Id)
	switch r.Kind {
	case api.ReqDrop:
		p.tenants = slices.Delete(p.tenants, i, i+1)
		return api.Reply{}, true
	case api.ReqPut:
		return t.put(p.s, r.Body)
	case api.ReqHas:
		if has {
			a.N = 1
		}
		return a, false
	case api.ReqGet:
		text, _ := t.find(r.Id)
		if !has {
			a.Err = api.ErrNone
		}
		return api.Reply{Err: a.Err, Id: r.Id, Body: []byte(text)}, false
	case api.ReqRef:
		if a.Id = t.at(r.Name); a.Id == (api.Id{}) {
			a.Err = api.ErrNone
		}
		return a, false
	case api.ReqCas:
		return t.cas(r), true
	case api.ReqList:
		for _, ref := range t.refs {
			a.Names = append(a.Names, ref.Name)
		}
		a.N = uint64(len(a.Names))
		slices.Sort(a.Names)
		return a, false
	case api.ReqGc:
		a.N = uint64(len(t.texts) - len(t.reached()))
		t.texts = t.reached()
		return a, true
	}
	return api.Reply{Err: api.ErrRange}, false
}

func (t *plainTenant) put(s *suite.Suite, b []byte) (api.Reply, bool) {
	e, bad := envel.Of(b)
	if bad != api.OK {
		return api.Reply{Err: api.ErrEnvelope}, false
	}
	for _, link := range e.Links {
		if _, is := t.find(link); !is {
			return api.Reply{Err: api.ErrNone}, false
		}
	}
	id, bad := s.Digest(b)
	if bad != api.OK {
		return api.Reply{Err: bad}, false
	}
	if _, is := t.find(id); is {
		return api.Reply{Id: id}, false
	}
	if t.used()+uint64(len(b)) > t.quota {
		return api.Reply{Err: api.ErrQuota}, false
	}
	t.texts = append(t.texts, plainText{id, string(b)})
	return api.Reply{Id: id}, true
}

func (t *plainTenant) cas(r api.Request) api.Reply {
	_, has := t.find(r.Id)
	switch {
	case r.Name == "" || r.Name == ".." || len(r.Name) > 64 || strings.ContainsAny(r.Name, "/\x00"):
		return api.Reply{Err: api.ErrName}
	case t.at(r.Name) != r.Old:
		return api.Reply{Err: api.ErrStale}
	case r.Id != api.Id{} && !has:
		return api.Reply{Err: api.ErrNone}
	}
	t.refs = slices.DeleteFunc(t.refs, func(ref api.Ref) bool { return ref.Name == r.Name })
	if r.Id != (api.Id{}) {
		t.refs = append(t.refs, api.Ref{Name: r.Name, Id: r.Id})
	}
	return api.Reply{Id: r.Id}
}

// sorted is the tenant with its texts by their ids and its refs by their names.
func (t plainTenant) sorted() plainTenant {
	t.texts, t.refs = slices.Clone(t.texts), slices.Clone(t.refs)
	slices.SortFunc(t.texts, func(a, b plainText) int { return bytes.Compare(a.id[:], b.id[:]) })
	slices.SortFunc(t.refs, func(a, b api.Ref) int { return strings.Compare(a.Name, b.Name) })
	return t
}

// inOrder is the texts of a sorted tenant, always the first one of which all links are there already.
func (t plainTenant) inOrder() []plainText {
	left := slices.Clone(t.texts)
	var out []plainText
	for len(left) > 0 {
		i := slices.IndexFunc(left, func(x plainText) bool {
			return !slices.ContainsFunc(links(x.text), func(id api.Id) bool {
				return slices.ContainsFunc(left, func(y plainText) bool { return y.id == id })
			})
		})
		if i < 0 {
			return nil
		}
		out = append(out, left[i])
		left = slices.Delete(left, i, i+1)
	}
	return out
}

// rebuild is the requests that Rebuild has to tell.
func (p plainHost) rebuild() []api.Request {
	p = p.copied()
	slices.SortFunc(p.tenants, func(a, b plainTenant) int { return int(int64(a.number) - int64(b.number)) })
	slices.SortFunc(p.last, func(a, b api.Reply) int { return int(int64(a.Client) - int64(b.Client)) })
	var out []api.Request
	for _, t := range p.tenants {
		t = t.sorted()
		out = append(out, api.Request{Kind: api.ReqTenant, Tenant: t.number, N: t.quota})
		for _, x := range t.inOrder() {
			out = append(out, api.Request{Kind: api.ReqPut, Tenant: t.number, Body: []byte(x.text)})
		}
		for _, ref := range t.refs {
			out = append(out, api.Request{Kind: api.ReqCas, Tenant: t.number, Name: ref.Name, Id: ref.Id})
		}
	}
	for _, a := range p.last {
		b, _ := wire.PutReply(a)
		out = append(out, api.Request{Kind: api.ReqDone, Body: b})
	}
	return out
}

// picture is p as the function picture shows a host.
func (p plainHost) picture() string {
	var out bytes.Buffer
	for _, n := range someTenants() {
		i := slices.IndexFunc(p.tenants, func(t plainTenant) bool { return t.number == n })
		if i < 0 {
			fmt.Fprintf(&out, "tenant %d: 0 0 false\n", n)
			continue
		}
		t := p.tenants[i].sorted()
		fmt.Fprintf(&out, "tenant %d: %d %d true\n", n, t.used(), t.quota)
		for _, x := range t.texts {
			fmt.Fprintf(&out, "%x %x %d: %x, error 0\n", x.id, links(x.text), len(x.text), x.text)
		}
		for _, ref := range t.refs {
			fmt.Fprintf(&out, "%q %x\n", ref.Name, ref.Id)
		}
	}
	for _, n := range someClients() {
		i := slices.IndexFunc(p.last, func(a api.Reply) bool { return a.Client == n })
		if i < 0 {
			fmt.Fprintf(&out, "client %d: %+v false\n", n, api.Reply{})
		} else {
			fmt.Fprintf(&out, "client %d: %+v true\n", n, p.last[i])
		}
	}
	return out.String()
}

// rolls is draws for tests, always the same ones.
type rolls uint64

// below is the next draw, from 0 to n - 1.
func (r *rolls) below(n int) int {
	*r = *r*6364136223846793005 + 1442695040888963407
	return int(uint64(*r) >> 33 % uint64(n))
}

// one is one of these, drawn.
func one[T any](r *rolls, l ...T) T {
	return l[r.below(len(l))]
}

// drawnRequests draws requests, among them such as fit what a host has.
type drawnRequests struct {
	*rolls
	known []api.Id
	texts [][]byte
	seqs  map[uint32]uint64
}

func (d *drawnRequests) id() api.Id {
	switch n := d.below(10); {
	case n < 7 && len(d.known) > 0:
		return one(d.rolls, d.known...)
	case n < 9:
		return api.Id{}
	default:
		return api.Id{byte(d.below(256)), 1}
	}
}

// text is an envelope's bytes, or such as aren't.
func (d *drawnRequests) text() []byte {
	if d.below(12) == 0 {
		return one(d.rolls, nil, []byte{}, []byte{1, 0, 0, 0}, []byte{4, 0, 0, 0, 0}, []byte("no envelope"))
	}
	if d.below(3) == 0 && len(d.texts) > 0 {
		return one(d.rolls, d.texts...)
	}
	var links []api.Id
	for range one(d.rolls, 0, 0, 0, 1, 1, 2, 3) {
		if len(d.known) > 0 && d.below(20) > 0 {
			links = append(links, one(d.rolls, d.known...))
		} else {
			links = append(links, d.id())
		}
	}
	return envelope(one(d.rolls, api.KindBlob, api.KindDir, api.KindCommit), fmt.Sprint(d.below(1000)), links...)
}

func (d *drawnRequests) done() []byte {
	b, _ := wire.PutReply(api.Reply{
		Client: one(d.rolls, someClients()...), Seq: uint64(d.below(30)), Err: one(d.rolls, api.OK, api.ErrNone, 77),
		Id: d.id(), N: uint64(d.below(3)), Body: d.text(), Names: one(d.rolls, nil, []string{"a"}, []string{"b", "", "a"}),
	})
	return b[:len(b)-one(d.rolls, 0, 0, 0, 1)]
}

func (d *drawnRequests) kind() int {
	return one(d.rolls, api.ReqPut, api.ReqPut, api.ReqPut, api.ReqPut, api.ReqPut, api.ReqPut, api.ReqPut, api.ReqPut,
		api.ReqCas, api.ReqCas, api.ReqCas, api.ReqCas, api.ReqCas, api.ReqCas,
		api.ReqGet, api.ReqHas, api.ReqRef, api.ReqRef, api.ReqList, api.ReqTenant, api.ReqTenant,
		one(d.rolls, api.ReqGc, api.ReqDone, api.ReqDone, one(d.rolls, api.ReqDrop, 0, 11, -1)))
}

// request draws one for v, of which it asks where refs stand.
func (d *drawnRequests) request(v *State) api.Request {
	r := api.Request{Kind: d.kind(), Name: one(d.rolls, "main", "a", "b", "ä", "main", "a/b", "", "..", strings.Repeat("x", 65))}
	r.Tenant = one[uint32](d.rolls, 1, 1, 1, 1, 1, 2, 2, 3, 0, math.MaxUint32)
	r.N = one[uint64](d.rolls, 0, 40, 300, 2000, 2000, math.MaxUint64)
	r.Id, r.Old = d.id(), d.id()
	if d.below(4) > 0 {
		r.Old = v.Ask(api.Request{Kind: api.ReqRef, Tenant: r.Tenant, Name: r.Name}).Id
	}
	if r.Body = d.text(); r.Kind == api.ReqDone {
		r.Body = d.done()
	}
	if d.below(2) == 0 {
		r.Client = one(d.rolls, someClients()...)
	}
	last := d.seqs[r.Client]
	r.Seq = one(d.rolls, last+1, last+1, last+1, last+1, last+5, last, last, last-min(last, 1), 0)
	d.seqs[r.Client] = max(last, r.Seq)
	return r
}

// learn takes in what was answered, so that later requests can name it.
func (d *drawnRequests) learn(r api.Request, a api.Reply) {
	if r.Kind == api.ReqPut && a.Err == api.OK {
		d.known, d.texts = append(d.known, a.Id), append(d.texts, r.Body)
	}
	if len(d.known) > 30 {
		d.known, d.texts = d.known[1:], d.texts[1:]
	}
}

// wantClosed fails unless the tenants have all that their objects link to and their refs stand at.
func wantClosed(t *testing.T, v *State) {
	t.Helper()
	for _, n := range someTenants() {
		has := map[api.Id]bool{}
		for _, o := range v.Objects(n) {
			has[o.Id] = true
		}
		for _, o := range v.Objects(n) {
			for _, link := range o.Links {
				if !has[link] {
					t.Fatalf("tenant %d lacks %x, to which %x links", n, link, o.Id)
				}
			}
		}
		for ref := range v.Refs(n) {
			if !has[ref.Id] {
				t.Fatalf("tenant %d lacks %x, at which %q stands", n, ref.Id, ref.Name)
			}
		}
	}
}

// play is a run of drawn requests, done by a host and by a plain one with a suite of its own, to which the same is drawn.
type play struct {
	t            *testing.T
	d            *drawnRequests
	v            *State
	plain        plainHost
	draws, alike *tape.Tape
	// met counts the kinds with the errors with which they were answered.
	met map[string]int
}

func begin(t *testing.T, seed, mode int, draws []byte, met map[string]int) *play {
	r := rolls(seed)
	p := &play{t: t, d: &drawnRequests{rolls: &r, seqs: map[uint32]uint64{}}, draws: tape.New(draws), alike: tape.New(draws), met: met}
	p.v = New(suite.New(mode, p.draws))
	p.plain = plainHost{s: suite.New(mode, p.alike)}
	return p
}

// step does one request and holds all that there is to see against the plain host.
func (p *play) step() {
	p.t.Helper()
	r := p.d.request(p.v)
	want, next, changes := p.plain.do(r)
	was := p.plain.picture()
	if got := p.v.Ask(r); !wire.SameReply(got, want) {
		p.t.Fatalf("Ask of %+v: %+v, not %+v", r, got, want)
	}
	if got := p.v.Changes(r); got != changes {
		p.t.Fatalf("Changes of %+v: %t", r, got)
	}
	if got := picture(p.v); got != was {
		p.t.Fatalf("asking %+v made\n%s\nof\n%s", r, got, was)
	}
	if got := p.v.Do(r); !wire.SameReply(got, want) {
		p.t.Fatalf("Do of %+v: %+v, not %+v", r, got, want)
	}
	if got := picture(p.v); got != next.picture() {
		p.t.Fatalf("%+v made\n%s\nnot\n%s", r, got, next.picture())
	}
	if p.draws.Left() != p.alike.Left() {
		p.t.Fatalf("%+v: %d bytes are left to draw, not %d", r, p.draws.Left(), p.alike.Left())
	}
	wantClosed(p.t, p.v)
	p.plain = next
	p.d.learn(r, want)
	p.met[fmt.Sprintf("%d:%d", r.Kind, want.Err)]++
}

// again holds Rebuild against the plain host's, and goes on with what it makes, if no two texts had one digest.
func (p *play) again() {
	p.t.Helper()
	if got, want := slices.Collect(p.v.Rebuild()), p.plain.rebuild(); !slices.EqualFunc(got, want, sameRequest) {
		p.t.Fatalf("%+v\nnot\n%+v", got, want)
	}
	if _, _, is := p.v.digests.Clash(); !is {
		p.v = rebuilt(p.t, p.v)
		if got := picture(p.v); got != p.plain.picture() {
			p.t.Fatalf("%s\nis built again of\n%s", got, p.plain.picture())
		}
	}
}

func (p *play) run(steps int) {
	p.t.Helper()
	for i := range steps {
		p.step()
		if i%25 == 24 {
			p.again()
		}
	}
}

// P17.1 to P17.6: drawn requests, of real suites and of ideal ones, among them such as come to the end of their draws or have alike digests.
func TestDrawn(t *testing.T) {
	met := map[string]int{}
	clashed := 0
	for seed := range 40 {
		begin(t, seed, api.Real, nil, met).run(150)
		r := rolls(1000 + seed)
		var apart, alike []byte
		for range 200 {
			apart = append(apart, byte(r.below(256)))
			for range 31 {
				apart = append(apart, byte(r.below(256)))
			}
			alike = append(alike, ids(byte(r.below(60)))...)
		}
		begin(t, 100+seed, api.Ideal, apart, met).run(150)
		begin(t, 200+seed, api.Ideal, apart[:32*8], met).run(100)
		p := begin(t, 300+seed, api.Ideal, alike, met)
		p.run(150)
		if _, _, is := p.v.digests.Clash(); is {
			clashed++
		}
	}
	if clashed == 0 {
		t.Error("no two texts had one digest")
	}
	want := strings.Fields("1:0 1:150 1:200 2:0 2:3 2:60 2:71 2:90 2:150 2:151 2:200 3:0 3:3 3:150 3:200 4:0 4:150 4:200 5:0 5:3 5:150 5:200" +
		" 6:0 6:3 6:100 6:150 6:152 6:200 7:0 7:150 7:200 8:0 8:150 9:0 9:150 10:0 10:1 10:200 0:1 0:150 11:1 -1:1")
	for _, w := range want {
		if met[w] == 0 {
			t.Errorf("kind and error %s never came: %v", w, slices.Sorted(maps.Keys(met)))
		}
	}
}
