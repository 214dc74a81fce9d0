package vault

import (
	"bytes"
	"slices"
	"testing"
	"unsafe"

	"tabularium/api"
	"tabularium/wire"
)

// spoil changes all bytes, ids and names that a reply has, and what lies behind them.
func spoil(a api.Reply) {
	for i := range a.Body[:cap(a.Body)] {
		a.Body[:cap(a.Body)][i] ^= 0xff
	}
	for i := range a.Names[:cap(a.Names)] {
		a.Names[:cap(a.Names)][i] = "spoilt"
	}
}

// P2: what is told may be changed, and what was given may be; the host stays as it is.
func TestMemoryOfReplies(t *testing.T) {
	v, a := ordinary(t)
	get := api.Request{Client: 5, Seq: 1, Kind: api.ReqGet, Tenant: 1, Id: a}
	list := api.Request{Client: 9, Seq: 1, Kind: api.ReqList, Tenant: 1}
	wantGet := api.Reply{Client: 5, Seq: 1, Id: a, Body: blob("a")}
	wantList := api.Reply{Client: 9, Seq: 1, N: 1, Names: []string{"main"}}
	for range 3 {
		for _, answer := range []func(api.Request) api.Reply{v.Ask, v.Do, v.Do, v.Ask} {
			x, y := answer(get), answer(list)
			if !wire.SameReply(x, wantGet) || !wire.SameReply(y, wantList) {
				t.Fatalf("%v, %v", x, y)
			}
			spoil(x)
			spoil(y)
		}
		x, _ := v.Last(5)
		y, _ := v.Last(9)
		if !wire.SameReply(x, wantGet) || !wire.SameReply(y, wantList) {
			t.Fatalf("%v, %v", x, y)
		}
		spoil(x)
		spoil(y)
	}
}

// P2: a body that was put, and a reply that was taken for given, are kept in memory of their own.
func TestMemoryOfRequests(t *testing.T) {
	v := host(t)
	room := append(blob("a"), "behind it"...)
	n := len(blob("a"))
	id := put(t, v, room[:n])
	done, _ := wire.PutReply(api.Reply{Client: 5, Seq: 1, Body: []byte("body"), Names: []string{"name"}})
	wantOK(t, v, api.Request{Kind: api.ReqDone, Body: done})
	if string(room[n:]) != "behind it" || !bytes.Equal(room[:n], blob("a")) {
		t.Fatalf("%q", room)
	}
	clear(room)
	clear(done)
	wantAnswer(t, v, api.Request{Kind: api.ReqGet, Tenant: 1, Id: id}, api.Reply{Id: id, Body: blob("a")}, false)
	wantLast(t, v, 5, api.Reply{Client: 5, Seq: 1, Body: []byte("body"), Names: []string{"name"}})
}

// P2: a ref's name is kept in memory of its own, and told in such.
func TestMemoryOfNames(t *testing.T) {
	v := host(t)
	id := put(t, v, blob("a"))
	given := []byte("a long name, of which a part is cut")
	name := unsafe.String(&given[0], 11)
	set(t, v, name, id)
	list := api.Request{Client: 5, Seq: 1, Kind: api.ReqList, Tenant: 1}
	v.Do(list)
	for i := range given {
		given[i] = 'x'
	}
	told := []string{v.Do(list).Names[0], v.Do(list).Names[0], slices.Collect(v.Refs(1))[0].Name, slices.Collect(v.Refs(1))[0].Name}
	last, _ := v.Last(5)
	told = append(told, last.Names[0])
	for r := range v.Rebuild() {
		if r.Kind == api.ReqCas {
			told = append(told, r.Name)
		}
	}
	for i, s := range told {
		if s != "a long name" {
			t.Errorf("%d: %q", i, s)
		}
		for _, other := range told[:i] {
			if unsafe.StringData(s) == unsafe.StringData(other) {
				t.Errorf("%d shares its memory", i)
			}
		}
	}
}

// P2: the lists of Objects and the bodies of Rebuild are each time new, without room behind them.
func TestMemoryOfLists(t *testing.T) {
	v, want := several(t)
	was := picture(v)
	objects := v.Objects(1)
	for i := range objects {
		for j := range objects[i].Links[:cap(objects[i].Links)] {
			objects[i].Links[:cap(objects[i].Links)][j] = api.Id{0xee}
		}
		objects[i] = api.Object{}
	}
	all := v.Rebuild()
	for range 2 {
		for r := range all {
			if cap(r.Body) != len(r.Body) {
				t.Errorf("%d bytes of room behind a body", cap(r.Body)-len(r.Body))
			}
			clear(r.Body)
		}
	}
	if got := slices.Collect(all); !slices.EqualFunc(got, want, sameRequest) {
		t.Fatalf("%+v\nnot\n%+v", got, want)
	}
	if is := picture(v); is != was {
		t.Fatalf("%s\nwas made of\n%s", is, was)
	}
}

// P3: a nil body and an empty one are the same.
func TestNilAndEmpty(t *testing.T) {
	for _, kind := range []int{api.ReqPut, api.ReqDone, api.ReqGc, api.ReqList} {
		v, w := host(t), host(t)
		a := v.Do(api.Request{Kind: kind, Tenant: 1})
		b := w.Do(api.Request{Kind: kind, Tenant: 1, Body: []byte{}})
		if !wire.SameReply(a, b) || picture(v) != picture(w) {
			t.Errorf("kind %d: %v and %v", kind, a, b)
		}
	}
}
