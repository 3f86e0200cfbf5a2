package client

import (
	"bytes"
	"fmt"
	"reflect"
	"slices"
	"strconv"
	"testing"

	"backwater/api"
	"backwater/disk"
	"backwater/server"
	"backwater/tree"
)

// opened is client 2 on a new disk; it is linked.
func opened(t *testing.T) *Client {
	t.Helper()
	c := Open(2, disk.New(api.MaxSectors))
	wantErr(t, c.Link(true), api.OK)
	return c
}

// The tree that most tests begin with: client 1 made it at the server, so that nothing of it is client 2's own.
//
//	/a (20)       a Dir
//	/a/b (21)     a Dir
//	/a/f (22)     a File, with "old" (mode 6)
//	/g (23)       a File
//	/l (24)       a Link to /a/f
//	/a/h (23)     another entry of /g
const (
	fidA api.Fid = 20 + iota
	fidB
	fidF
	fidG
	fidL
)

// served is a server with that tree.
func served(t *testing.T) *server.Server {
	t.Helper()
	s := server.Open(disk.New(api.MaxSectors))
	wantShip(t, s, 1,
		api.Op{Kind: api.Mkdir, Fid: fidA, At: 1, Name: "a"},
		api.Op{Kind: api.Mkdir, Fid: fidB, At: fidA, Name: "b"},
		api.Op{Kind: api.Create, Fid: fidF, At: fidA, Name: "f", Mode: 6},
		api.Op{Kind: api.Create, Fid: fidG, At: 1, Name: "g"},
		api.Op{Kind: api.Symlink, Fid: fidL, At: 1, Name: "l", Data: "/a/f"},
		api.Op{Kind: api.Hard, Fid: fidG, At: fidA, Name: "h"},
		api.Op{Kind: api.Store, Fid: fidF, Data: "old"},
	)
	return s
}

// wantShip ships operations of a client to a server, one by one, each of which can be done.
func wantShip(t *testing.T, s *server.Server, client uint8, ops ...api.Op) {
	t.Helper()
	for _, o := range ops {
		errs, err := s.Ship(client, s.Applied(client)+1, []api.Record{{Op: o}})
		if err != api.OK || len(errs) != 1 || errs[0] != api.OK {
			t.Fatalf("Ship of %v answers %v, error %d", o, errs, err)
		}
	}
}

// based is client 2, linked, with what the server has; it has nothing at hand.
func based(t *testing.T, s *server.Server) *Client {
	t.Helper()
	c := opened(t)
	wantErr(t, c.Take(s.Serve(2, "F")), api.OK)
	return c
}

// sample is client 2, linked, with the tree above.
func sample(t *testing.T) *Client {
	t.Helper()
	return based(t, served(t))
}

// wantErr asks for an error.
func wantErr(t *testing.T, got, want api.Errno) {
	t.Helper()
	if got != want {
		t.Errorf("error %d, want %d", got, want)
	}
}

// wantDo does an operation at a path, with data, and asks for its error.
func wantDo(t *testing.T, c *Client, k api.OpKind, path, data string, want api.Errno) {
	t.Helper()
	if err := c.Do(k, path, "", 0, data); err != want {
		t.Errorf("operation %d at %s: error %d, want %d", k, path, err, want)
	}
}

// wantLog asks for the log.
func wantLog(t *testing.T, c *Client, want ...api.Record) {
	t.Helper()
	if got := c.Log(); !slices.Equal(got, want) {
		t.Errorf("the log is %v, want %v", got, want)
	}
}

// mine is the fid of client 2's number.
func mine(number api.Fid) api.Fid { return 2<<24 + number }

// rec is a record.
func rec(o api.Op, seen uint64) api.Record { return api.Record{Op: o, Seen: seen} }

// handOf tells what a client has at hand: for each object whether it is dirty and how dear it is, those that are dear
// but not at hand, in which order all of it would go, and whether the client is linked.
func handOf(c *Client) string {
	h, text := c.cache.Fork(), "linked "+strconv.FormatBool(c.linked)
	for _, f := range h.List() {
		text += fmt.Sprint("; ", f, " dirty ", h.Dirty(f), " dear ", h.Dear(f))
		h.Mark(f, false)
	}
	text += fmt.Sprint("; walk ", h.Walk())
	for _, f := range h.List() {
		h.Hoard(f, 0)
	}
	for f, ok := h.Next(); ok; f, ok = h.Next() {
		text += fmt.Sprint("; ", f)
		h.Drop(f)
	}
	return text
}

// wantHand asks which objects are at hand, the one that was used longest ago first.
func wantHand(t *testing.T, c *Client, want ...api.Fid) {
	t.Helper()
	h := c.cache.Fork()
	for _, f := range h.List() {
		h.Mark(f, false)
		h.Hoard(f, 0)
	}
	var got []api.Fid
	for f, ok := h.Next(); ok; f, ok = h.Next() {
		got = append(got, f)
		h.Drop(f)
	}
	if !slices.Equal(got, want) {
		t.Errorf("at hand are %v, want %v", got, want)
	}
}

// wantDirty asks which objects are dirty.
func wantDirty(t *testing.T, c *Client, want ...api.Fid) {
	t.Helper()
	got := slices.DeleteFunc(c.cache.List(), func(f api.Fid) bool { return !c.cache.Dirty(f) })
	if !slices.Equal(got, want) {
		t.Errorf("dirty are %v, want %v", got, want)
	}
}

// sameKept tells whether two clients would keep the same.
func sameKept(a, b *Client) bool {
	return a.number == b.number && slices.EqualFunc(a.group(), b.group(), bytes.Equal)
}

// same tells whether two clients are the same, what they have at hand too.
func same(a, b *Client) bool {
	return sameKept(a, b) && handOf(a) == handOf(b)
}

// wantSame asks that two clients are the same.
func wantSame(t *testing.T, got, want *Client) {
	t.Helper()
	if !same(got, want) {
		t.Errorf("the client is %v, %s, want %v, %s", got.state, handOf(got), want.state, handOf(want))
	}
}

// wantFirst asks that a client is as at first.
func wantFirst(t *testing.T, c *Client) {
	t.Helper()
	if !tree.Same(c.View(), tree.New()) || len(c.Log()) > 0 || c.Frozen() != 0 || c.Done() != 0 || len(c.Refused()) > 0 || c.Linked() || c.next != 1 ||
		!slices.Equal(c.base.Versions, []api.Stamp{{Fid: 1, Version: 1}}) || len(c.cache.List()) > 0 {
		t.Errorf("at first the client is %v, %s", c.state, handOf(c))
	}
}

func TestOpen(t *testing.T) { // P13.1
	for number := range 256 {
		c := Open(uint8(number), disk.New(100))
		if (c != nil) != (number >= 1 && number <= 3) {
			t.Errorf("Open of client %d", number)
		}
		if Open(uint8(number), nil) != nil {
			t.Errorf("Open of client %d without a disk", number)
		}
		if c != nil {
			wantFirst(t, c)
		}
	}
	for n := 1; n < 8; n++ {
		if Open(1, disk.New(n)) != nil {
			t.Errorf("Open on %d sectors", n)
		}
	}
	for _, n := range []int{8, 9, api.MaxSectors} {
		wantFirst(t, Open(3, disk.New(n)))
	}
}

func TestOpenIsOverAFork(t *testing.T) { // P13.1, P3
	d := disk.New(100)
	c := Open(1, d)
	c.Link(true)
	wantDo(t, c, api.Mkdir, "/a", "", api.OK)
	for i := range d.Size() {
		if s, _ := d.Read(i); s != (disk.Sector{}) {
			t.Fatalf("sector %d was written", i)
		}
		wantErr(t, d.Write(i, disk.Sector{1}), api.OK)
	}
	wantErr(t, c.Disk().Write(0, disk.Sector{7}), api.OK)
	wantErr(t, c.Disk().Write(1, disk.Sector{7}), api.OK)
	if o := Open(1, c.Disk()); !sameKept(o, c) {
		t.Error("another's disk is the client's")
	}
}

func TestExample(t *testing.T) { // chapter 13, example 1
	c := Open(1, disk.New(100))
	wantDo(t, c, api.Mkdir, "/a", "", api.ErrTimeout)
	wantFirst(t, c)
	wantErr(t, c.Link(true), api.OK)
	wantDo(t, c, api.Mkdir, "/a", "", api.OK)
}

func TestRead(t *testing.T) { // P13.3
	c := sample(t)
	for _, s := range []string{"/a/f", "/l", "//a/../a/./f"} {
		if got, err := c.Read(s); got != "old" || err != api.OK {
			t.Errorf("%s has %q, error %d", s, got, err)
		}
	}
	if got, err := c.Read("/g"); got != "" || err != api.OK {
		t.Errorf("/g has %q, error %d", got, err)
	}
	for s, want := range map[string]api.Errno{"/": api.ErrIsdir, "/a": api.ErrIsdir, "/x": api.ErrNoent, "/g/x": api.ErrNotdir, "": api.ErrForm, "a": api.ErrForm, "/A": api.ErrForm} {
		if got, err := c.Read(s); got != "" || err != want {
			t.Errorf("%s has %q, error %d, want %d", s, got, err, want)
		}
	}
	wantDo(t, c, api.Store, "/l", "\xff new", api.OK)
	if got, err := c.Read("/a/f"); got != "\xff new" || err != api.OK { // it is the VIEW's
		t.Errorf("/a/f has %q, error %d", got, err)
	}
}

func TestList(t *testing.T) { // P13.3
	c := sample(t)
	wantDo(t, c, api.Mkdir, "/a/b/zz", "", api.OK)
	for s, want := range map[string][]string{"/": {"a", "g", "l"}, "/a": {"b", "f", "h"}, "/a/b/": {"zz"}, "/a/b/zz": nil} {
		if got, err := c.List(s); !slices.Equal(got, want) || err != api.OK {
			t.Errorf("%s has %v, error %d", s, got, err)
		}
	}
	for s, want := range map[string]api.Errno{"/g": api.ErrNotdir, "/l": api.ErrNotdir, "/x": api.ErrNoent, "/g/x": api.ErrNotdir, "": api.ErrForm, "/a/B": api.ErrForm} {
		if got, err := c.List(s); len(got) > 0 || err != want {
			t.Errorf("%s has %v, error %d, want %d", s, got, err, want)
		}
	}
}

func TestStat(t *testing.T) { // P13.3
	c := sample(t)
	for s, want := range map[string]api.Node{
		"/a/f": {Fid: fidF, Kind: api.File, Mode: 6, Links: 1, Data: []byte("old")},
		"/l":   {Fid: fidF, Kind: api.File, Mode: 6, Links: 1, Data: []byte("old")},
		"/g":   {Fid: fidG, Kind: api.File, Links: 2},
		"/a":   {Fid: fidA, Kind: api.Dir, Links: 1, Kids: []api.Kid{{Name: "b", Fid: fidB}, {Name: "f", Fid: fidF}, {Name: "h", Fid: fidG}}},
	} {
		got, err := c.Stat(s)
		if !tree.Same([]api.Node{got}, []api.Node{want}) || err != api.OK {
			t.Errorf("%s is %v, error %d", s, got, err)
		}
		clear(got.Data) // P3: the answer is the caller's
		clear(got.Kids)
		if got, _ := c.Stat(s); !tree.Same([]api.Node{got}, []api.Node{want}) {
			t.Errorf("%s is %v now", s, got)
		}
	}
	for s, want := range map[string]api.Errno{"/x": api.ErrNoent, "/g/x": api.ErrNotdir, "x": api.ErrForm} {
		if got, err := c.Stat(s); !reflect.DeepEqual(got, api.Node{}) || err != want {
			t.Errorf("%s is %v, error %d, want %d", s, got, err, want)
		}
	}
}

func TestWhatIsReadIsAtHand(t *testing.T) { // P13.3, P13.7, the words 'AT HAND'
	c := sample(t)
	wantHand(t, c)
	c.Read("/a/f")
	c.List("/a")
	c.Stat("/g")
	wantHand(t, c, fidF, fidA, fidG) // and not what the paths go through
	c.Read("/l")
	wantHand(t, c, fidA, fidG, fidF)
	c.Read("/a") // which is a Dir
	c.List("/g") // which is none: at hand they are all the same
	wantHand(t, c, fidF, fidA, fidG)
	c.Read("/x")
	wantHand(t, c, fidF, fidA, fidG)
	wantDirty(t, c)
	c.Link(false)
	c.Read("/a/f")
	wantHand(t, c, fidA, fidG, fidF)
	for _, s := range []string{"/", "/a/b"} {
		ahead := c.Fork()
		if got, err := c.List(s); len(got) > 0 || err != api.ErrTimeout {
			t.Errorf("%s has %v, error %d", s, got, err)
		}
		if got, err := c.Read(s); got != "" || err != api.ErrTimeout { // ahead of ErrIsdir
			t.Errorf("%s has %q, error %d", s, got, err)
		}
		if got, err := c.Stat(s); !reflect.DeepEqual(got, api.Node{}) || err != api.ErrTimeout {
			t.Errorf("%s is %v, error %d", s, got, err)
		}
		wantSame(t, c, ahead)
	}
	if _, err := c.List("/x"); err != api.ErrNoent { // ahead of ErrTimeout
		t.Errorf("/x: error %d", err)
	}
}

func TestTwelveAreAtHand(t *testing.T) { // the words 'a cache of 12 objects'
	s := served(t)
	for i := range api.Fid(8) {
		wantShip(t, s, 3, api.Op{Kind: api.Mkdir, Fid: 30 + i, At: 21, Name: strconv.Itoa(int(i))})
	}
	c := based(t, s)
	paths := []string{"/", "/a", "/a/b", "/a/f", "/g"}
	for i := range 7 {
		paths = append(paths, "/a/b/"+strconv.Itoa(i))
	}
	for _, s := range paths {
		c.Stat(s)
	}
	wantHand(t, c, 1, fidA, fidB, fidF, fidG, 30, 31, 32, 33, 34, 35, 36)
	c.Stat("/")
	c.Stat("/a/b/7")
	wantHand(t, c, fidB, fidF, fidG, 30, 31, 32, 33, 34, 35, 36, 1, 37) // /a went
	for i := range 8 {
		wantDo(t, c, api.Chmod, "/a/b/"+strconv.Itoa(i), "", api.OK)
	}
	for _, s := range []string{"/g", "/", "/a/f", "/a/b"} {
		wantDo(t, c, api.Chmod, s, "", api.OK)
	}
	wantDirty(t, c, 1, fidB, fidF, fidG, 30, 31, 32, 33, 34, 35, 36, 37)
	ahead := c.Fork()
	if _, err := c.List("/a"); err != api.ErrSpace { // nothing can go
		t.Errorf("error %d", err)
	}
	wantDo(t, c, api.Chmod, "/a", "", api.ErrSpace)
	wantSame(t, c, ahead)
	wantDo(t, c, api.Chmod, "/g", "", api.OK)
}

func TestWhatTheBaseHasNotIsAtHand(t *testing.T) { // the words 'AT HAND'
	c := sample(t)
	wantDo(t, c, api.Mkdir, "/new", "", api.OK)
	wantDo(t, c, api.Create, "/new/f", "", api.OK)
	wantHand(t, c, 1)
	c.Link(false)
	if got, err := c.List("/new"); len(got) != 1 || err != api.OK {
		t.Errorf("/new has %v, error %d", got, err)
	}
	wantDo(t, c, api.Store, "/new/f", "x", api.OK)
	wantDo(t, c, api.Symlink, "/new/l", "/new/f", api.OK)
	if got, err := c.Read("/new/l"); got != "x" || err != api.OK {
		t.Errorf("/new/l has %q, error %d", got, err)
	}
	wantErr(t, c.Do(api.Rename, "/new/f", "/new/g", 0, ""), api.OK)
	wantHand(t, c, 1)
	wantDirty(t, c, 1)
}

func TestLink(t *testing.T) { // P13.4
	c := Open(1, disk.New(100))
	for _, on := range []bool{true, true, false, false, true} {
		wantErr(t, c.Link(on), api.OK)
		if c.Linked() != on {
			t.Errorf("it is linked: %v", !on)
		}
	}
}

func TestHoard(t *testing.T) { // P13.4
	c := sample(t)
	wantErr(t, c.Hoard("/a/f", 5), api.OK)
	wantErr(t, c.Hoard("/l", 6), api.OK) // where a path leads is what is dear
	wantErr(t, c.Hoard("/a", 100), api.OK)
	wantHand(t, c, fidF, fidA)
	if c.cache.Dear(fidF) != 6 || c.cache.Dear(fidA) != 100 || c.cache.Dear(fidL) != 0 {
		t.Error(handOf(c))
	}
	wantErr(t, c.Hoard("/a/f", 0), api.OK)
	wantHand(t, c, fidF, fidA)
	if c.cache.Dear(fidF) != 0 {
		t.Error("what is not dear any more is dear")
	}
	wantDirty(t, c)
}

func TestHoardErrors(t *testing.T) { // P13.4
	c := sample(t)
	c.Stat("/g")
	ahead := c.Fork()
	for s, want := range map[string]api.Errno{"/x": api.ErrNoent, "": api.ErrForm, "/g/x": api.ErrNotdir} {
		wantErr(t, c.Hoard(s, 1), want)
		wantErr(t, c.Hoard(s, 101), want)
	}
	wantErr(t, c.Hoard("/a", -1), api.ErrRange)
	wantErr(t, c.Hoard("/a", 101), api.ErrRange)
	wantSame(t, c, ahead)
	for i := range api.MaxHoard {
		s := "/" + strconv.Itoa(i)
		wantDo(t, c, api.Mkdir, s, "", api.OK)
		wantErr(t, c.Hoard(s, 1), api.OK)
	}
	ahead = c.Fork()
	wantErr(t, c.Hoard("/a", 1), api.ErrSpace)
	wantSame(t, c, ahead)
	wantErr(t, c.Hoard("/a", 0), api.OK)
	wantErr(t, c.Hoard("/0", 9), api.OK)
	wantErr(t, c.Hoard("/0", 0), api.OK)
	wantErr(t, c.Hoard("/a", 1), api.OK)
}

func TestHoardWithoutALink(t *testing.T) { // P13.4
	c := sample(t)
	c.Link(false)
	wantErr(t, c.Hoard("/a/f", 5), api.OK)
	wantErr(t, c.Hoard("/g", 5), api.OK)
	wantErr(t, c.Hoard("/a", 7), api.OK)
	wantHand(t, c)
	c.Link(true)
	wantHand(t, c) // a link alone brings nothing
	wantErr(t, c.Hoard("/l", 0), api.OK)
	wantHand(t, c, fidA, fidG) // the dearest first; what is not dear does not come
	c.Link(false)
	if _, err := c.Read("/g"); err != api.OK {
		t.Errorf("error %d", err)
	}
}

func TestHoardAsLongAsThereIsRoom(t *testing.T) { // P13.4
	s := served(t)
	for i := range api.Fid(12) {
		wantShip(t, s, 3, api.Op{Kind: api.Mkdir, Fid: 30 + i, At: 21, Name: string(rune('a' + i))})
	}
	c := based(t, s)
	for i := range 11 {
		wantDo(t, c, api.Chmod, "/a/b/"+string(rune('a'+i)), "", api.OK)
	}
	c.Link(false)
	wantErr(t, c.Hoard("/a", 3), api.OK)
	wantErr(t, c.Hoard("/a/f", 4), api.OK)
	c.Link(true)
	wantErr(t, c.Hoard("/g", 2), api.OK)
	if got := c.cache.Walk(); !slices.Equal(got, []api.Fid{fidF, fidA}) { // each took the place of the one ahead of it
		t.Errorf("not at hand are %v", got)
	}
	wantDo(t, c, api.Chmod, "/g", "", api.OK)
	ahead := c.Fork()
	wantErr(t, c.Hoard("/g", 2), api.OK) // nothing can go: that is no error
	wantSame(t, c, ahead)
}

func TestMethods(t *testing.T) { // chapter 13's list: what is inside hands none of its calls on
	want := []string{"Disk", "Do", "Done", "Fork", "Frozen", "Hoard", "Link", "Linked", "List", "Log", "Read", "Refused", "Request", "Stat", "Take", "Torn", "View"}
	var got []string
	for i := range reflect.TypeFor[*Client]().NumMethod() {
		got = append(got, reflect.TypeFor[*Client]().Method(i).Name)
	}
	if !slices.Equal(got, want) {
		t.Errorf("a client has %v", got)
	}
}

func TestNil(t *testing.T) { // P1
	var c *Client
	wantErr(t, c.Do(api.Mkdir, "/a", "", 0, ""), api.ErrNil)
	wantErr(t, c.Torn(api.Mkdir, "/a", "", 0, "", 9, nil), api.ErrNil)
	wantErr(t, c.Link(true), api.ErrNil)
	wantErr(t, c.Hoard("", 1), api.ErrNil)
	wantErr(t, c.Take(""), api.ErrNil)
	if s, err := c.Read("/"); s != "" || err != api.ErrNil {
		t.Error("Read of nil")
	}
	if l, err := c.List("/"); l != nil || err != api.ErrNil {
		t.Error("List of nil")
	}
	if n, err := c.Stat("/"); !reflect.DeepEqual(n, api.Node{}) || err != api.ErrNil {
		t.Error("Stat of nil")
	}
	if s, err := c.Request(); s != "" || err != api.ErrNil {
		t.Error("Request of nil")
	}
	if c.View() != nil || c.Log() != nil || c.Frozen() != 0 || c.Done() != 0 || c.Refused() != nil || c.Linked() || c.Disk() != nil || c.Fork() != nil {
		t.Error("nil has something")
	}
}

// worn is client 2 with something of all: at hand, in its log, frozen, refused.
func worn(t *testing.T) *Client {
	t.Helper()
	s := served(t)
	c := based(t, s)
	wantErr(t, c.Do(api.Store, "/a/f", "", 0, "mine"), api.OK)
	wantErr(t, c.Do(api.Mkdir, "/d", "", 5, ""), api.OK)
	wantShip(t, s, 1, api.Op{Kind: api.Store, Fid: fidF, Data: "theirs"})
	body, _ := c.Request()
	wantErr(t, c.Take(s.Serve(2, body)), api.OK)
	wantDo(t, c, api.Create, "/d/e", "", api.OK)
	wantDo(t, c, api.Store, "/d/e", "data", api.OK)
	c.Request()
	wantErr(t, c.Do(api.Rename, "/g", "/d/g", 0, ""), api.OK)
	c.Stat("/l")
	wantErr(t, c.Hoard("/a/b", 3), api.OK)
	if c.Frozen() != 2 || len(c.Log()) != 3 || len(c.Refused()) != 1 || c.Done() != 2 {
		t.Fatalf("the client is %v", c.state)
	}
	return c
}

func TestFork(t *testing.T) { // P13.6, P4
	c := worn(t)
	f := c.Fork()
	wantSame(t, f, c)
	if !sameDisk(f.Disk(), c.Disk()) {
		t.Error("the disk is another one")
	}
	serve := server.Open(disk.New(api.MaxSectors))
	for what, change := range map[string]func(c *Client){
		"do":      func(c *Client) { c.Do(api.Mkdir, "/new", "", 0, "") },
		"store":   func(c *Client) { c.Do(api.Store, "/d/e", "", 0, "xxxx") },
		"torn":    func(c *Client) { c.Torn(api.Mkdir, "/new", "", 0, "", 1, []int{0, 1}) },
		"link":    func(c *Client) { c.Link(false) },
		"hoard":   func(c *Client) { c.Hoard("/a/f", 9) },
		"read":    func(c *Client) { c.Read("/a/f") },
		"take":    func(c *Client) { c.Take("s\x02\x05\x05\x00\x00\x00\x04" + serve.Serve(2, "F")[5:]) },
		"request": func(c *Client) { c.Take("s\x02\x00\x00\x00\x00\x00\x04" + serve.Serve(2, "F")[5:]); c.Request() },
	} {
		for _, own := range []bool{true, false} {
			c, like := worn(t), worn(t)
			changed, other := c, c.Fork()
			if !own {
				changed, other = other, changed
			}
			change(changed)
			if same(changed, like) {
				t.Errorf("%s changes nothing", what)
			}
			wantSame(t, other, like)
			if !sameDisk(other.Disk(), like.Disk()) {
				t.Errorf("%s has changed the other one's disk", what)
			}
		}
	}
}

func TestForksGoTheirWays(t *testing.T) { // P4
	for size := range 9 { // so that there is room behind the log, or not
		c, like := opened(t), opened(t)
		for i := range size {
			wantDo(t, c, api.Mkdir, "/"+strconv.Itoa(i), "", api.OK)
			wantDo(t, like, api.Mkdir, "/"+strconv.Itoa(i), "", api.OK)
		}
		f := c.Fork()
		wantDo(t, c, api.Mkdir, "/mine", "", api.OK)
		wantDo(t, like, api.Mkdir, "/mine", "", api.OK)
		wantDo(t, f, api.Mkdir, "/theirs", "", api.OK)
		wantSame(t, c, like)
		if got := f.Log()[size].Op.Name; got != "theirs" {
			t.Errorf("the other one made %s", got)
		}
	}
}

// sameDisk tells whether two disks hold the same.
func sameDisk(a, b *disk.Disk) bool {
	if a.Size() != b.Size() || !slices.Equal(a.Loose(), b.Loose()) {
		return false
	}
	for i := range a.Size() {
		x, _ := a.Read(i)
		if y, _ := b.Read(i); x != y {
			return false
		}
	}
	return true
}

func TestAnswersAreTheCallers(t *testing.T) { // P3
	c := worn(t)
	ahead := c.Fork()
	for _, n := range c.View() {
		clear(n.Data)
		clear(n.Kids)
	}
	clear(c.View())
	clear(c.Log())
	clear(c.Refused())
	l, _ := c.List("/")
	clear(l)
	c.Disk().Write(0, disk.Sector{9})
	c.Disk().Flush()
	wantHandless(t, c, ahead)
	keep := []int{5, 1, 0, 5}
	wantErr(t, c.Torn(api.Mkdir, "/z", "", 0, "", 1, keep), api.OK)
	if !slices.Equal(keep, []int{5, 1, 0, 5}) {
		t.Error("what is kept was changed")
	}
}

// wantHandless asks that two clients are the same, but for what they have at hand.
func wantHandless(t *testing.T, got, want *Client) {
	t.Helper()
	if !sameKept(got, want) || !sameDisk(got.Disk(), want.Disk()) {
		t.Errorf("the client is %v, want %v", got.state, want.state)
	}
}
