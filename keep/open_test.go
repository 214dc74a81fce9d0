package keep

import (
	"slices"
	"testing"

	"tabularium/api"
	"tabularium/disk"
	"tabularium/slog"
	"tabularium/suite"
	"tabularium/tape"
	"tabularium/wire"
)

// P18.2: what Create writes, one sector behind the other, and nothing else.
func TestCreateWrites(t *testing.T) {
	for _, size := range []int{6, 7, 8, 60, 61, 200} {
		was := sectorsOf(dirty(size))
		_, n := Half(dirty(size), 1)
		order := []int{0, 1, 2 + n, 1}
		texts := [][64]byte{{}, {}, {}, Super(1)}
		for after := range 5 {
			d := dirty(size, api.Crash{After: after, Keep: 0})
			e := Create(suite.New(api.Real, nil), d)
			if after < 4 && e != api.ErrCrash || after == 4 && (e != api.OK || d.Writes() != 4) {
				t.Fatalf("%d sectors, a crash behind %d writes: error %d", size, after, e)
			}
			want := slices.Clone(was)
			for i := range after {
				want[order[i]] = texts[i]
			}
			if !slices.Equal(sectorsOf(d), want) {
				t.Fatalf("%d sectors: not as they should be behind %d writes", size, after)
			}
		}
	}
}

// P18.2: a disk that was made a host's has a host of nothing, whatever stood there ahead.
func TestCreateOpen(t *testing.T) {
	for _, size := range []int{6, 7, 61, 65536} {
		for _, d := range []*disk.Disk{disk.New(size), dirty(size), created(t, size)} {
			if e := Create(suite.New(api.Real, nil), d); e != api.OK {
				t.Fatalf("%d sectors: error %d", size, e)
			}
			h := mustOpen(t, suite.New(api.Real, nil), d)
			if picture(h.State()) != "" || h.Gen() != 1 || h.Dead() {
				t.Fatalf("%d sectors: Gen %d, Dead %t, and %s", size, h.Gen(), h.Dead(), picture(h.State()))
			}
		}
	}
}

// P18.2: what a host had that was there ahead is gone.
func TestCreateAnew(t *testing.T) {
	for compactions := range 4 {
		h, d := host(t, 100)
		for range compactions {
			wantCompacted(t, h)
		}
		if e := Create(nil, d); e != api.OK {
			t.Fatalf("error %d", e)
		}
		if h := mustOpen(t, nil, d); picture(h.State()) != "" || h.Gen() != 1 {
			t.Fatalf("Gen %d, and %s", h.Gen(), picture(h.State()))
		}
	}
}

// P18.2, P18's example: disks whose halves have no sectors; that there is no power comes behind it.
func TestTooFewSectors(t *testing.T) {
	disks := []*disk.Disk{nil, {}, disk.New(-1)}
	for size := range 6 {
		dead := disk.New(size, api.Crash{})
		dead.Write(0, [64]byte{})
		disks = append(disks, disk.New(size), dead, dirty(size))
	}
	for i, d := range disks {
		for _, s := range []*suite.Suite{nil, {}, suite.New(api.Real, nil)} {
			was := sectorsOf(d)
			if e := Create(s, d); e != api.ErrRange {
				t.Errorf("disk %d: Create: error %d", i, e)
			}
			if h, e := Open(s, d); e != api.ErrRange || h != nil {
				t.Errorf("disk %d: Open: error %d", i, e)
			}
			if !slices.Equal(sectorsOf(d), was) {
				t.Errorf("disk %d was written", i)
			}
		}
	}
}

// P18.2: the disk's errors.
func TestOpenWithoutPower(t *testing.T) {
	for _, d := range []*disk.Disk{disk.New(20, api.Crash{}), dirty(20, api.Crash{}), created(t, 20, api.Crash{})} {
		d.Write(5, [64]byte{})
		if h, e := Open(suite.New(api.Real, nil), d); e != api.ErrCrash || h != nil {
			t.Errorf("Open: error %d", e)
		}
		if e := Create(suite.New(api.Real, nil), d); e != api.ErrCrash {
			t.Errorf("Create: error %d", e)
		}
	}
}

// P18.2: without a head there is no host; nothing is written to look for one.
func TestOpenNothing(t *testing.T) {
	for _, d := range []*disk.Disk{disk.New(6), disk.New(60), withHeads(mark(1, 0), mark(2, 0)), withHeads(Super(0), Super(0))} {
		was, writes := sectorsOf(d), d.Writes()
		if h, e := Open(suite.New(api.Real, nil), d); e != api.ErrLog || h != nil {
			t.Errorf("error %d", e)
		}
		if d.Writes() != writes || !slices.Equal(sectorsOf(d), was) {
			t.Error("something was written")
		}
	}
}

// onDisk is a disk with a head of gen, and these records in its half.
func onDisk(t *testing.T, gen uint32, records ...[]byte) *disk.Disk {
	t.Helper()
	d := dirty(400)
	d.Write(int(1-gen%2), [64]byte{})
	d.Write(int(gen%2), Super(gen))
	from := 2 + 199*int(gen%2)
	slog.Format(d, from, 199, gen)
	l, e := slog.Open(d, from, 199, gen)
	for _, b := range records {
		if e = max(e, l.Append(b)); e != api.OK {
			t.Fatalf("error %d", e)
		}
	}
	return d
}

func asRecord(r api.Request) []byte {
	b, e := wire.PutRequest(r)
	if e != api.OK {
		panic(e)
	}
	return b
}

// several is requests of all kinds that change something, some of them refused where they stand.
func several() []api.Request {
	a, b := blob("a"), blob("b")
	dir := envelope(api.KindDir, "d", idOf(a), idOf(b))
	return []api.Request{
		{Client: 5, Seq: 1, Kind: api.ReqTenant, Tenant: 1, N: 1000},
		{Kind: api.ReqTenant, Tenant: 2},
		{Kind: api.ReqPut, Tenant: 1, Body: a},
		{Client: 5, Seq: 4, Kind: api.ReqPut, Tenant: 1, Body: b},
		{Client: 9, Seq: 1, Kind: api.ReqPut, Tenant: 1, Body: dir},
		{Client: 9, Seq: 2, Kind: api.ReqPut, Tenant: 2, Body: dir},
		{Kind: api.ReqCas, Tenant: 1, Name: "main", Id: idOf(dir)},
		{Kind: api.ReqPut, Tenant: 1, Body: blob("loose")},
		{Client: 5, Seq: 7, Kind: api.ReqGc, Tenant: 1},
		{Kind: api.ReqDone, Body: doneOf(api.Reply{Client: 9, Seq: 1, N: 77, Names: []string{"x"}})},
		{Client: 7, Seq: 3, Kind: api.ReqDrop, Tenant: 2},
		{Client: 8, Seq: 3, Kind: api.ReqList, Tenant: 1},
	}
}

// P18.2: a host has what the records tell that stand in the half of the greater head, done one behind the other.
func TestOpenRecords(t *testing.T) {
	for _, gen := range []uint32{1, 2, 3, 4, 255, 256, 1<<32 - 1} {
		var records [][]byte
		for n, r := range several() {
			d := onDisk(t, gen, records...)
			was := sectorsOf(d)
			h := mustOpen(t, suite.New(api.Real, nil), d)
			wantState(t, h, several()[:n]...)
			if h.Gen() != gen || h.Dead() || !slices.Equal(sectorsOf(d), was) {
				t.Fatalf("Gen %d, Dead %t", h.Gen(), h.Dead())
			}
			records = append(records, asRecord(r))
		}
	}
}

// P18.2: records of another gen, or of the other half, aren't told.
func TestOpenOtherRecords(t *testing.T) {
	d := onDisk(t, 4, asRecord(several()[0]))
	d.Write(0, Super(6))
	if h := mustOpen(t, nil, d); picture(h.State()) != "" || h.Gen() != 6 {
		t.Errorf("gen 6 tells what is gen 4's")
	}
	d.Write(1, Super(7))
	if h := mustOpen(t, nil, d); picture(h.State()) != "" || h.Gen() != 7 {
		t.Errorf("gen 7 tells what is gen 4's")
	}
	d.Write(0, Super(4))
	d.Write(1, Super(3))
	h := mustOpen(t, nil, d)
	wantState(t, h, several()[0])
}

// P18.2: a record that is no request, wherever it stands; what was drawn ahead of it stays drawn, and nothing is drawn behind it.
func TestOpenNoRequest(t *testing.T) {
	good := [][]byte{
		asRecord(api.Request{Kind: api.ReqTenant, Tenant: 1, N: 1000}),
		asRecord(api.Request{Kind: api.ReqPut, Tenant: 1, Body: blob("a")}),
		asRecord(api.Request{Kind: api.ReqPut, Tenant: 1, Body: blob("b")}),
	}
	for what, b := range map[string][]byte{
		"nothing":     nil,
		"a reply":     doneOf(api.Reply{Client: 5}),
		"cut":         good[1][:len(good[1])-1],
		"a byte more": append(slices.Clone(good[1]), 0),
		"kind 0":      {1, 0, 0, 0},
	} {
		for at := range len(good) + 1 {
			draws := tape.New(make([]byte, 320))
			d := onDisk(t, 1, slices.Insert(slices.Clone(good), at, b)...)
			if h, e := Open(suite.New(api.Ideal, draws), d); e != api.ErrLog || h != nil {
				t.Errorf("%s at %d: error %d", what, at, e)
			}
			if want := 320 - 32*max(at-1, 0); draws.Left() != want {
				t.Errorf("%s at %d: %d bytes are left to draw, not %d", what, at, draws.Left(), want)
			}
		}
	}
}

// P18.2: the digests are those of the suite that is given; what is refused behind it is passed over.
func TestOpenSuites(t *testing.T) {
	var records [][]byte
	for _, r := range several() {
		records = append(records, asRecord(r))
	}
	for _, s := range []func() *suite.Suite{
		func() *suite.Suite { return nil },
		func() *suite.Suite { return &suite.Suite{} },
		func() *suite.Suite { return suite.New(api.Ideal, nil) },
		func() *suite.Suite { return suite.New(api.Ideal, tape.New([]byte("32 bytes that are a single draw."))) },
		func() *suite.Suite { return suite.New(api.Real, nil) },
	} {
		h := mustOpen(t, s(), onDisk(t, 1, records...))
		if is, want := picture(h.State()), picture(stateOf(s(), several()...)); is != want {
			t.Errorf("%s\nnot\n%s", is, want)
		}
	}
}

// P18.2: two hosts that were opened of disks alike go on by themselves.
func TestOpenApart(t *testing.T) {
	h, d := host(t, 60)
	g := mustOpen(t, suite.New(api.Real, nil), d.Clone())
	wantOK(t, h, api.Request{Kind: api.ReqTenant, Tenant: 2})
	wantOK(t, g, api.Request{Kind: api.ReqTenant, Tenant: 2})
	wantOK(t, g, api.Request{Kind: api.ReqDrop, Tenant: 1})
	wantState(t, h, api.Request{Kind: api.ReqTenant, Tenant: 1, N: 1 << 40}, api.Request{Kind: api.ReqTenant, Tenant: 2})
	wantState(t, g, api.Request{Kind: api.ReqTenant, Tenant: 2})
}
