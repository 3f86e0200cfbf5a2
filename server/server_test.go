package server

import (
	"bytes"
	"math"
	"slices"
	"strconv"
	"testing"

	"backwater/alike"
	"backwater/api"
	"backwater/disk"
	"backwater/journal"
	"backwater/record"
	"backwater/tree"
)

// rec is a record.
func rec(o api.Op, seen uint64) api.Record { return api.Record{Op: o, Seen: seen} }

// The records that most tests need.
func create(f api.Fid, at api.Fid, name string) api.Record {
	return rec(api.Op{Kind: api.Create, Fid: f, At: at, Name: name, Mode: 6}, 0)
}

func mkdir(f api.Fid, name string) api.Record {
	return rec(api.Op{Kind: api.Mkdir, Fid: f, At: api.Root, Name: name}, 0)
}

func unlink(name string) api.Record {
	return rec(api.Op{Kind: api.Unlink, At: api.Root, Name: name}, 0)
}

func store(f api.Fid, data string, seen uint64) api.Record {
	return rec(api.Op{Kind: api.Store, Fid: f, Data: data}, seen)
}

func chmod(f api.Fid, mode uint16, seen uint64) api.Record {
	return rec(api.Op{Kind: api.Chmod, Fid: f, Mode: mode}, seen)
}

// records are as many right ones as asked for, all of which are refused.
func records(n int) []api.Record {
	var l []api.Record
	for i := range n {
		l = append(l, unlink("no"+strconv.Itoa(i)))
	}
	return l
}

// opened is a server on a new disk.
func opened(t *testing.T) *Server {
	t.Helper()
	s := Open(disk.New(api.MaxSectors))
	if s == nil {
		t.Fatal("Open is nil")
	}
	return s
}

// wantErr asks for an error.
func wantErr(t *testing.T, got, want api.Errno) {
	t.Helper()
	if got != want {
		t.Errorf("error %d, want %d", got, want)
	}
}

// wantShip ships records, and asks what becomes of each.
func wantShip(t *testing.T, s *Server, client uint8, first uint32, l []api.Record, want ...api.Errno) {
	t.Helper()
	if errs, err := s.Ship(client, first, l); !slices.Equal(errs, want) || err != api.OK {
		t.Errorf("Ship(%d, %d) answers %v, error %d, want %v", client, first, errs, err, want)
	}
}

// wantNoShip asks that records are not shipped, and that nothing changes.
func wantNoShip(t *testing.T, s *Server, client uint8, first uint32, l []api.Record, want api.Errno) {
	t.Helper()
	ahead := s.Fork()
	if errs, err := s.Ship(client, first, l); len(errs) > 0 || err != want {
		t.Errorf("Ship(%d, %d) answers %v, error %d, want %d", client, first, errs, err, want)
	}
	wantSame(t, s, ahead)
}

// same tells whether two servers are in the same state, as far as their calls tell it.
func same(a, b *Server) bool {
	return a.Serve(1, "F") == b.Serve(1, "F") && a.Applied(2) == b.Applied(2) && a.Applied(3) == b.Applied(3) &&
		slices.Equal(a.Rejected(), b.Rejected()) && slices.EqualFunc(groupOf(a), groupOf(b), bytes.Equal)
}

// groupOf is what a server would keep now: its state with the VERSION, which no call shows.
func groupOf(s *Server) [][]byte {
	if s == nil {
		return nil
	}
	return s.group()
}

// wantSame asks that two servers are in the same state.
func wantSame(t *testing.T, got, want *Server) {
	t.Helper()
	if !same(got, want) {
		t.Errorf("the server has %v, %d, %v, want %v, %d, %v",
			got.Snapshot(), got.Applied(1), got.Rejected(), want.Snapshot(), want.Applied(1), want.Rejected())
	}
}

// wantVersions asks for the versions of all objects.
func wantVersions(t *testing.T, s *Server, want ...api.Stamp) {
	t.Helper()
	if got := s.Snapshot().Versions; !slices.Equal(got, want) {
		t.Errorf("the versions are %v, want %v", got, want)
	}
}

// wantRejected asks for the verdicts.
func wantRejected(t *testing.T, s *Server, want ...api.Verdict) {
	t.Helper()
	if got := s.Rejected(); !slices.Equal(got, want) {
		t.Errorf("rejected are %v, want %v", got, want)
	}
}

func stamp(f api.Fid, version uint64, writer uint8) api.Stamp {
	return api.Stamp{Fid: f, Version: version, Writer: writer}
}

func TestOpen(t *testing.T) { // P12.1
	if Open(nil) != nil {
		t.Error("Open of nil is a server")
	}
	for n := 1; n < 8; n++ {
		if Open(disk.New(n)) != nil {
			t.Errorf("Open of a disk of %d sectors is a server", n)
		}
	}
	for _, n := range []int{8, 9, 100, api.MaxSectors} {
		s := Open(disk.New(n))
		if got := s.Snapshot(); !tree.Same(got.Tree, tree.New()) {
			t.Errorf("at first there is %v", got.Tree)
		}
		wantVersions(t, s, stamp(api.Root, 1, 0))
		wantRejected(t, s)
		for client := range 256 {
			if s.Applied(uint8(client)) != 0 {
				t.Errorf("Applied(%d) is not 0 at first", client)
			}
		}
		if s.Disk().Size() != n || len(s.Disk().Loose()) > 0 {
			t.Errorf("the disk is another one")
		}
	}
}

func TestOpenIsOverAFork(t *testing.T) { // P12.1
	d := disk.New(200)
	s := Open(d)
	wantShip(t, s, 1, 1, []api.Record{mkdir(9, "d")}, api.OK)
	wantSame(t, Open(d), Open(disk.New(200))) // d has nothing of it
	d = s.Disk()
	other := Open(d)
	wantSame(t, other, s)
	for i := range d.Size() {
		d.Write(i, disk.Sector{0xff})
	}
	d.Flush()
	wantSame(t, Open(other.Disk()), s)
	s.Disk().Crash(nil)
	s.Disk().Write(0, disk.Sector{})
	wantSame(t, Open(s.Disk()), s)
}

func TestNil(t *testing.T) { // P1, P12.2 to P12.4
	var s *Server
	for _, client := range []uint8{0, 1, 4} {
		if errs, err := s.Ship(client, 0, make([]api.Record, 7)); errs != nil || err != api.ErrNil {
			t.Errorf("Ship of nil answers %v, error %d", errs, err)
		}
		wantErr(t, s.Torn(client, 0, nil, 5, nil), api.ErrNil)
		if s.Applied(client) != 0 || s.Serve(client, "F") != "" || s.Serve(client, "Q") != "" {
			t.Error("nil has something to tell")
		}
	}
	if got := s.Snapshot(); got.Tree != nil || got.Versions != nil {
		t.Errorf("Snapshot of nil is %v", got)
	}
	if s.Rejected() != nil || s.Disk() != nil || s.Fork() != nil {
		t.Error("nil has something inside")
	}
}

func TestShipOfTheWrong(t *testing.T) { // P12.2, P2
	s := opened(t)
	wantShip(t, s, 2, 1, []api.Record{mkdir(9, "d"), unlink("x")}, api.OK, api.ErrNoent)
	wrong := []api.Record{mkdir(10, "e"), {}}
	for client := range 256 {
		if client < 1 || client > api.MaxClients {
			wantNoShip(t, s, uint8(client), 1, records(1), api.ErrRange)
			wantNoShip(t, s, uint8(client), 1, wrong, api.ErrRange) // named ahead of ErrForm
		}
	}
	wantNoShip(t, s, 2, 0, records(1), api.ErrRange)
	wantNoShip(t, s, 2, 0, wrong, api.ErrRange)
	wantNoShip(t, s, 2, 0, nil, api.ErrRange)
	for _, first := range []uint32{1, 3, 4, math.MaxUint32} {
		wantNoShip(t, s, 2, first, wrong, api.ErrForm) // named ahead of the other ErrRange
		wantNoShip(t, s, 2, first, records(api.MaxChunk+1), api.ErrForm)
		wantNoShip(t, s, 2, first, make([]api.Record, 1), api.ErrForm)
	}
	for _, first := range []uint32{4, 5, math.MaxUint32 - 1, math.MaxUint32} {
		wantNoShip(t, s, 2, first, records(1), api.ErrRange)
		wantNoShip(t, s, 2, first, nil, api.ErrRange)
	}
	wantNoShip(t, s, 1, 2, records(1), api.ErrRange) // each client has numbers of its own
	wantShip(t, s, 2, 3, nil)
	wantShip(t, s, 2, 3, records(api.MaxChunk), slices.Repeat([]api.Errno{api.ErrNoent}, api.MaxChunk)...)
}

func TestWrongOperations(t *testing.T) { // P12.2, E7
	s := opened(t)
	for _, o := range []api.Op{
		{Kind: 10, Fid: 2, At: 1, Name: "a"},
		{Kind: api.Create, Fid: api.Root, At: 1, Name: "a"},
		{Kind: api.Create, Fid: 2, At: 1, Name: ".."},
		{Kind: api.Unlink, Fid: 2, At: 1, Name: "a"},
		{Kind: api.Store, Data: "x"},
		{Kind: api.Store, Fid: 2, Data: string(make([]byte, api.MaxData+1))},
	} {
		wantNoShip(t, s, 1, 1, []api.Record{mkdir(9, "d"), rec(o, 0)}, api.ErrForm)
	}
}

func TestShip(t *testing.T) { // P12.2
	s := opened(t)
	wantShip(t, s, 1, 1, []api.Record{mkdir(9, "d"), create(12, 9, "f"), rec(api.Op{Kind: api.Symlink, Fid: 10, At: 9, Name: "l", Mode: 1, Data: "/d/f"}, 0)}, api.OK, api.OK, api.OK)
	wantVersions(t, s, stamp(1, 1, 0), stamp(9, 2, 1), stamp(10, 4, 1), stamp(12, 3, 1))
	wantShip(t, s, 3, 1, []api.Record{store(12, "data", 3), chmod(9, 7, 2), chmod(1, 5, 1)}, api.OK, api.OK, api.OK)
	wantVersions(t, s, stamp(1, 7, 3), stamp(9, 6, 3), stamp(10, 4, 1), stamp(12, 5, 3))
	want := []api.Node{
		{Fid: 1, Kind: api.Dir, Mode: 5, Kids: []api.Kid{{Name: "d", Fid: 9}}},
		{Fid: 9, Kind: api.Dir, Mode: 7, Links: 1, Kids: []api.Kid{{Name: "f", Fid: 12}, {Name: "l", Fid: 10}}},
		{Fid: 10, Kind: api.Link, Mode: 1, Links: 1, Data: []byte("/d/f")},
		{Fid: 12, Kind: api.File, Mode: 6, Links: 1, Data: []byte("data")},
	}
	if got := s.Snapshot().Tree; !tree.Same(got, want) {
		t.Errorf("the tree is %v, want %v", got, want)
	}
	if s.Applied(1) != 3 || s.Applied(2) != 0 || s.Applied(3) != 3 || s.Applied(0) != 0 || s.Applied(4) != 0 || s.Applied(255) != 0 {
		t.Error("other numbers of records were done")
	}
}

func TestWhatGivesNoVersion(t *testing.T) { // P12.2
	s := opened(t)
	wantShip(t, s, 1, 1, []api.Record{mkdir(9, "d"), mkdir(8, "e"), create(12, 9, "f")}, api.OK, api.OK, api.OK)
	wantShip(t, s, 2, 1, []api.Record{
		rec(api.Op{Kind: api.Hard, Fid: 12, At: 1, Name: "g"}, 99),
		rec(api.Op{Kind: api.Rename, At: 9, Name: "f", To: 1, Name2: "h"}, 99),
		rec(api.Op{Kind: api.Unlink, At: 1, Name: "g"}, 99),
		rec(api.Op{Kind: api.Rmdir, At: 1, Name: "e"}, 99),
	}, api.OK, api.OK, api.OK, api.OK)
	wantVersions(t, s, stamp(1, 1, 0), stamp(9, 2, 1), stamp(12, 4, 1)) // that of 8 is gone with it
	wantShip(t, s, 2, 5, []api.Record{store(12, "x", 4), unlink("h"), create(12, 9, "f")}, api.OK, api.OK, api.OK)
	wantVersions(t, s, stamp(1, 1, 0), stamp(9, 2, 1), stamp(12, 6, 2)) // 5 was given to what is gone
}

func TestRefusedRecordsGiveNoVersion(t *testing.T) { // P12.2, E7
	s := opened(t)
	wantShip(t, s, 1, 1, []api.Record{create(9, 1, "f"), create(9, 1, "g"), create(10, 1, "f"), create(10, 7, "g"), create(10, 9, "g"), mkdir(11, "h")},
		api.OK, api.ErrExist, api.ErrExist, api.ErrNoent, api.ErrNotdir, api.OK)
	wantVersions(t, s, stamp(1, 1, 0), stamp(9, 2, 1), stamp(11, 3, 1))
	if s.Applied(1) != 6 {
		t.Errorf("%d were done: those that were refused count", s.Applied(1))
	}
	wantRejected(t, s,
		api.Verdict{Client: 1, Number: 2, Err: api.ErrExist, Record: create(9, 1, "g")},
		api.Verdict{Client: 1, Number: 3, Err: api.ErrExist, Record: create(10, 1, "f")},
		api.Verdict{Client: 1, Number: 4, Err: api.ErrNoent, Record: create(10, 7, "g")},
		api.Verdict{Client: 1, Number: 5, Err: api.ErrNotdir, Record: create(10, 9, "g")})
}

func TestStale(t *testing.T) { // P12.2
	link := rec(api.Op{Kind: api.Symlink, Fid: 10, At: 1, Name: "l"}, 0)
	for _, c := range []struct {
		name   string
		client uint8
		r      api.Record
		want   api.Errno
	}{
		{"seen by another one", 2, store(9, "x", 2), api.OK},
		{"not seen by another one", 2, store(9, "x", 1), api.ErrStale},
		{"a version that was not given yet", 2, store(9, "x", math.MaxUint64), api.ErrStale},
		{"chmod, not seen", 3, chmod(9, 1, 3), api.ErrStale},
		{"chmod, seen", 3, chmod(9, 1, 2), api.OK},
		{"nothing was seen", 2, store(9, "x", 0), api.OK},
		{"chmod, nothing was seen", 2, chmod(9, 1, 0), api.OK},
		{"by its writer", 1, store(9, "x", 1), api.OK},
		{"chmod by its writer", 1, chmod(9, 1, 7), api.OK},
		{"not there", 2, store(8, "x", 1), api.ErrNoent},
		{"chmod, not there", 2, chmod(8, 1, 1), api.ErrNoent},
		{"a directory, not seen", 2, store(1, "x", 2), api.ErrStale}, // named ahead of the tree's errors
		{"a directory, seen", 2, store(1, "x", 1), api.ErrIsdir},
		{"a link, not seen", 2, store(10, "x", 2), api.ErrStale},
		{"a link, seen", 2, store(10, "x", 3), api.ErrForm},
		{"the root by nobody", 1, chmod(1, 1, 9), api.ErrStale},
		{"of another kind", 2, rec(api.Op{Kind: api.Hard, Fid: 9, At: 1, Name: "h"}, 1), api.OK},
		{"a maker", 2, rec(api.Op{Kind: api.Create, Fid: 9, At: 1, Name: "h"}, 1), api.ErrExist},
	} {
		s := opened(t)
		wantShip(t, s, 1, 1, []api.Record{create(9, 1, "f"), link}, api.OK, api.OK)
		t.Log(c.name)
		number := s.Applied(c.client) + 1
		ahead := s.Snapshot()
		wantShip(t, s, c.client, number, []api.Record{c.r}, c.want)
		if c.want == api.OK {
			wantRejected(t, s)
			continue
		}
		wantRejected(t, s, api.Verdict{Client: c.client, Number: number, Err: c.want, Record: c.r})
		if behind := s.Snapshot(); !tree.Same(behind.Tree, ahead.Tree) || !slices.Equal(behind.Versions, ahead.Versions) {
			t.Error("what was refused has changed something")
		}
	}
}

func TestTheFirstOneIsHeard(t *testing.T) { // E, example 2: two clients write one file without a link
	s := opened(t)
	wantShip(t, s, 1, 1, []api.Record{create(9, 1, "f")}, api.OK)
	wantShip(t, s, 2, 1, []api.Record{store(9, "two", 2), chmod(9, 2, 2)}, api.OK, api.OK) // the second one of its own is not stale
	wantShip(t, s, 3, 1, []api.Record{store(9, "three", 2), chmod(9, 3, 2)}, api.ErrStale, api.ErrStale)
	n, _ := tree.Get(s.Snapshot().Tree, 9)
	if string(n.Data) != "two" || n.Mode != 2 {
		t.Errorf("the file is %v", n)
	}
	wantVersions(t, s, stamp(1, 1, 0), stamp(9, 4, 2))
}

func TestDoneOnce(t *testing.T) { // P12.2, P12.5, example 1
	s := opened(t)
	l := []api.Record{create(9, 1, "f"), create(10, 1, "f"), store(9, "a", 0), unlink("no")}
	errs := []api.Errno{api.OK, api.ErrExist, api.OK, api.ErrNoent}
	wantShip(t, s, 1, 1, l[:2], errs[:2]...)
	once := s.Fork()
	wantShip(t, s, 1, 1, l[:2], errs[:2]...)
	wantShip(t, s, 1, 2, l[1:2], errs[1])
	wantShip(t, s, 1, 1, []api.Record{unlink("f"), unlink("f")}, errs[:2]...) // whatever else has the number
	wantSame(t, s, once)
	wantShip(t, s, 1, 1, l, errs...) // two of them are new
	if s.Applied(1) != 4 {
		t.Errorf("%d were done", s.Applied(1))
	}
	wantShip(t, s, 1, 3, l[2:], errs[2:]...)
	wantShip(t, s, 2, 1, l[1:2], api.ErrExist) // another client's is another one
	wantVersions(t, s, stamp(1, 1, 0), stamp(9, 3, 1))
}

func TestNothingIsKeptWithoutARecord(t *testing.T) { // P12.2
	s := opened(t)
	wantShip(t, s, 1, 1, nil)
	if j := journal.Open(s.Disk()); len(j.Groups()) != 0 {
		t.Error("something was kept though nothing was done")
	}
	wantShip(t, s, 1, 1, records(2), api.ErrNoent, api.ErrNoent)
	turn, _ := s.Disk().Read(1)
	wantShip(t, s, 1, 2, records(1), api.ErrNoent)
	wantShip(t, s, 1, 3, nil)
	if head, _ := s.Disk().Read(0); head != (disk.Sector{}) {
		t.Error("it was kept once more")
	}
	if head, _ := s.Disk().Read(1); head != turn {
		t.Error("it was kept once more")
	}
}

func TestLastVerdicts(t *testing.T) { // P12.2, P12.3
	s := opened(t)
	var want []api.Verdict
	for i := range uint32(30) {
		client, number := uint8(1+i%3), 3*(i/3)+1
		l := records(3)
		wantShip(t, s, client, number, l, api.ErrNoent, api.ErrNoent, api.ErrNoent)
		for k, r := range l {
			want = append(want, api.Verdict{Client: client, Number: number + uint32(k), Err: api.ErrNoent, Record: r})
		}
		want = want[max(0, len(want)-64):]
		wantRejected(t, s, want...)
	}
	wantSame(t, Open(s.Disk()), s)
	// Of 90 the first 26 are forgotten: of client 1 nine, of client 2 nine, of client 3 eight.
	for client, forgotten := range map[uint8]uint32{1: 9, 2: 9, 3: 8} {
		for number := uint32(1); number <= 30; number++ {
			err := api.ErrNoent
			if number <= forgotten {
				err = api.OK
			}
			wantShip(t, s, client, number, records(1), err)
		}
	}
}

func TestNoRoom(t *testing.T) { // P12.2, P2, E6
	s := Open(disk.New(8))
	wantNoShip(t, s, 1, 1, records(1), api.ErrSpace)
	wantNoShip(t, s, 1, 1, records(api.MaxChunk), api.ErrSpace)
	wantNoShip(t, s, 1, 1, make([]api.Record, 1), api.ErrForm) // named ahead
	wantShip(t, s, 1, 1, nil)
	if a := s.Serve(1, "S\x00\x00\x00\x01"+bytesOf(t, records(1))); a != "e\x04" {
		t.Errorf("Serve answers %q", a)
	}
	s = Open(disk.New(40)) // areas of 19 sectors
	number := uint32(1)
	for {
		if _, err := s.Ship(1, number, records(1)); err != api.OK {
			wantErr(t, err, api.ErrSpace)
			break
		}
		number++
	}
	if number < 3 || s.Applied(1) != number-1 || len(s.Rejected()) != int(number-1) {
		t.Errorf("ahead of %d there was room", number)
	}
	wantNoShip(t, s, 1, number, records(1), api.ErrSpace)
	wantNoShip(t, s, 1, number-2, records(3), api.ErrSpace)                 // nor behind those that were done
	wantShip(t, s, 1, number-2, records(2), api.ErrNoent, api.ErrNoent)     // nothing is to be kept
	wantNoShip(t, s, 2, 1, []api.Record{create(9, 1, "f")}, api.ErrSpace)   // nor has another client
	wantErr(t, s.Torn(1, number, records(1), 0, []int{0, 1}), api.ErrSpace) // nor is there anything torn
	wantSame(t, Open(s.Disk()), s)
}

func TestNoTurn(t *testing.T) { // P12.2: the journal has written all the times that it can
	d := disk.New(100)
	head := disk.Sector{'H', 0xff, 0xff, 0xff, 0xff}
	sum := uint32(2166136261)
	for _, b := range head[:5] {
		sum = (sum ^ uint32(b)) * 16777619
	}
	copy(head[5:], []byte{byte(sum), byte(sum >> 8), byte(sum >> 16), byte(sum >> 24)})
	d.Write(0, head)
	d.Flush()
	s := Open(d)
	wantSame(t, s, Open(disk.New(100)))
	wantNoShip(t, s, 1, 1, records(1), api.ErrSpace)
}

func TestLists(t *testing.T) { // P3
	s := opened(t)
	room := append([]api.Record{create(9, 1, "f"), store(9, "abc", 0), unlink("no")}, unlink("spare"))
	given := slices.Clone(room)
	l := room[:3]
	errs, _ := s.Ship(1, 1, l)
	if !slices.Equal(room, given) {
		t.Error("what was handed in has changed")
	}
	ahead := s.Fork()
	clear(room)
	clear(errs[:cap(errs)])
	wantSame(t, s, ahead)
	for range 2 {
		got := s.Snapshot()
		for i := range got.Tree {
			clear(got.Tree[i].Data[:cap(got.Tree[i].Data)])
			clear(got.Tree[i].Kids[:cap(got.Tree[i].Kids)])
		}
		clear(got.Tree[:cap(got.Tree)])
		clear(got.Versions[:cap(got.Versions)])
		v := s.Rejected()
		clear(v[:cap(v)])
		wantSame(t, s, ahead)
	}
	keep := append([]int{5, 0, 1, 5, -3, 9999}, 77)
	s.Torn(1, 4, []api.Record{unlink("f")}, 1, keep[:6])
	if !slices.Equal(keep, []int{5, 0, 1, 5, -3, 9999, 77}) {
		t.Error("what was handed in has changed")
	}
	one, two := s.Snapshot(), s.Snapshot()
	clear(one.Versions)
	if two.Versions[0] != stamp(1, 1, 0) {
		t.Error("two answers share a list")
	}
}

func TestFork(t *testing.T) { // P12.3, P4
	for name, change := range map[string]func(s *Server){
		"ship":   func(s *Server) { s.Ship(1, 4, []api.Record{store(9, "x", 0), unlink("no"), unlink("f")}) },
		"refuse": func(s *Server) { s.Ship(2, 1, records(6)) },
		"torn":   func(s *Server) { s.Torn(3, 1, records(6), 1, []int{0, 1}) },
		"serve":  func(s *Server) { s.Serve(3, "S\x00\x00\x00\x01"+bytesOf(t, []api.Record{mkdir(20, "z")})) },
	} {
		for _, mine := range []bool{false, true} {
			t.Log(name)
			s := opened(t)
			wantShip(t, s, 1, 1, []api.Record{create(9, 1, "f"), store(9, "abc", 0), unlink("no")}, api.OK, api.OK, api.ErrNoent)
			f, ahead := s.Fork(), Open(s.Disk())
			wantSame(t, f, ahead)
			if mine {
				s, f = f, s
			}
			change(s)
			wantSame(t, f, ahead)
			wantSame(t, Open(f.Disk()), ahead)
			if same(s, ahead) {
				t.Error("nothing has changed at all")
			}
		}
	}
}

// full is a server on a disk, with as many verdicts as it holds.
func full(t *testing.T, d *disk.Disk) *Server {
	t.Helper()
	s := Open(d)
	for s.Applied(1) < alike.MostVerdicts {
		wantShip(t, s, 1, s.Applied(1)+1, records(1), api.ErrNoent)
	}
	return s
}

func TestForkWithAllVerdicts(t *testing.T) { // P4: the eldest one that goes from the one stays in the other
	for _, mine := range []bool{false, true} {
		s := full(t, disk.New(api.MaxSectors))
		f, want := s.Fork(), s.Rejected()
		if mine {
			s, f = f, s
		}
		wantShip(t, s, 2, 1, records(6), slices.Repeat([]api.Errno{api.ErrNoent}, 6)...)
		wantRejected(t, f, want...)
		wantErr(t, s.Torn(3, 1, records(6), 0, nil), api.OK)
		wantRejected(t, f, want...)
	}
}

func TestNoRoomWithAllVerdicts(t *testing.T) { // P12.2: nothing was done, so the eldest one stays
	size := 2 + 2*journal.Need(full(t, disk.New(api.MaxSectors)).group()) // no sector is left
	s := full(t, disk.New(size))
	var long []api.Record
	for range api.MaxChunk {
		long = append(long, store(77, string(make([]byte, api.MaxData)), 0))
	}
	wantNoShip(t, s, 2, 1, long, api.ErrSpace)
	wantRejected(t, s, Open(s.Disk()).Rejected()...)
	wantErr(t, s.Torn(2, 1, long, 1, []int{0, 1}), api.ErrSpace)
	wantRejected(t, s, Open(s.Disk()).Rejected()...)
}

// bytesOf are the bytes of records.
func bytesOf(t *testing.T, l []api.Record) string {
	t.Helper()
	b, err := record.Records(l)
	wantErr(t, err, api.OK)
	return string(b)
}
