package client

import (
	"bytes"
	"math/rand/v2"
	"slices"
	"strings"
	"testing"

	"backwater/alike"
	"backwater/api"
	"backwater/disk"
	"backwater/journal"
	"backwater/record"
	"backwater/server"
)

// holdingOn is a disk of a size whose journal has groups.
func holdingOn(t *testing.T, size int, groups ...[][]byte) *disk.Disk {
	t.Helper()
	j := journal.Open(disk.New(size))
	for _, g := range groups {
		wantErr(t, j.Append(g), api.OK)
	}
	return j.Disk()
}

// holding is a disk whose journal has groups.
func holding(t *testing.T, groups ...[][]byte) *disk.Disk {
	t.Helper()
	return holdingOn(t, api.MaxSectors, groups...)
}

// kept is a group, with the snapshot at first.
func kept(t *testing.T, frozen byte, done, next uint32, log, verdicts string) [][]byte {
	t.Helper()
	base, err := record.Snapshot(alike.FirstSnapshot())
	wantErr(t, err, api.OK)
	b := []byte{frozen, byte(done >> 24), byte(done >> 16), byte(done >> 8), byte(done), byte(next >> 24), byte(next >> 16), byte(next >> 8), byte(next)}
	return [][]byte{base, slices.Concat(b, []byte(log), []byte(verdicts))}
}

// A record's bytes (a Chmod of 9), and those of a verdict of client 2 on record 7.
const (
	oneRecord  = "\x00\x00\x00\x00\x00\x00\x00\x05" + "\x09\x00\x00\x00\x09" + "\x00\x00\x00\x00\x00\x00\x00\x00\x00\x00\x01\x02\x00"
	oneVerdict = "\x02\x00\x00\x00\x07\x06\x01" + oneRecord
)

func TestWhatIsKept(t *testing.T) { // the words 'to keep it'
	s := serverOf(t)
	wantShip(t, s, 1, api.Op{Kind: api.Create, Fid: 0x01020304, At: 1, Name: "f"})
	c := based(t, s)
	wantDo(t, c, api.Store, "/f", "xyz", api.OK)
	wantShip(t, s, 1, api.Op{Kind: api.Store, Fid: 0x01020304, Data: "theirs"})
	body, _ := c.Request()
	wantErr(t, c.Take(s.Serve(2, body)), api.OK)
	wantErr(t, c.Do(api.Mkdir, "/d", "", 0x0506, ""), api.OK)
	c.Request()
	wantErr(t, c.Do(api.Rename, "/f", "/d/gg", 0, ""), api.OK)
	groups := journal.Open(c.Disk()).Groups()
	if len(groups) != 1 || len(groups[0]) != 2 {
		t.Fatalf("kept are %v", groups)
	}
	if want, _ := record.Snapshot(s.Snapshot()); !bytes.Equal(groups[0][0], want) {
		t.Errorf("the snapshot is kept as %q, want %q", groups[0][0], want)
	}
	want := "\x01" + "\x00\x00\x00\x01" + "\x00\x00\x00\x02" +
		"\x02" + "\x00\x00\x00\x00\x00\x00\x00\x00" +
		"\x02" + "\x02\x00\x00\x01" + "\x00\x00\x00\x01" + "\x01d" + "\x00\x00\x00\x00" + "\x00" + "\x05\x06" + "\x00" +
		"\x00\x00\x00\x00\x00\x00\x00\x00" +
		"\x07" + "\x00\x00\x00\x00" + "\x00\x00\x00\x01" + "\x01f" + "\x02\x00\x00\x01" + "\x02gg" + "\x00\x00" + "\x00" +
		"\x01" + "\x02" + "\x00\x00\x00\x01" + "\x0c" + "\x01" + "\x00\x00\x00\x00\x00\x00\x00\x02" +
		"\x08" + "\x01\x02\x03\x04" + "\x00\x00\x00\x00" + "\x00" + "\x00\x00\x00\x00" + "\x00" + "\x00\x00" + "\x03xyz"
	if got := string(groups[0][1]); got != want {
		t.Errorf("the rest is kept as %q, want %q", got, want)
	}
	if len(c.Disk().Loose()) > 0 {
		t.Error("not all of it is on the disk")
	}
}

func TestOpenOfWhatWasKept(t *testing.T) { // P13.1
	c := Open(2, holding(t, kept(t, 2, 0x01020304, 0x00abcdef, "\x03"+strings.Repeat(oneRecord, 3), "\x01"+oneVerdict)))
	r := rec(api.Op{Kind: api.Chmod, Fid: 9, Mode: 0x0102}, 5)
	if c.Frozen() != 2 || c.Done() != 0x01020304 || c.next != 0x00abcdef || c.Linked() {
		t.Errorf("the client is %v", c.state)
	}
	wantLog(t, c, r, r, r)
	if got := c.Refused(); !slices.Equal(got, []api.Verdict{{Client: 2, Number: 7, Err: api.ErrExist, Record: r}}) {
		t.Errorf("refused are %v", got)
	}
	c.Link(true)
	wantDo(t, c, api.Mkdir, "/d", "", api.OK)
	if c.View()[1].Fid != mine(0x00abcdef) {
		t.Errorf("the client sees %v", c.View())
	}
	if !sameKept(Open(2, c.Disk()), c) {
		t.Error("kept is something else")
	}
}

func TestOpenForgetsWhatIsAtHand(t *testing.T) { // the words 'as long as it is not Opened anew'
	c := worn(t)
	o := Open(2, c.Disk())
	wantHandless(t, o, c)
	if o.Linked() || len(o.cache.List()) > 0 || len(o.cache.Walk()) > 0 {
		t.Error(handOf(o))
	}
}

func TestTheLastGroupCounts(t *testing.T) { // P13.1
	group := func(done uint32) [][]byte { return kept(t, 0, done, 1, "\x00", "\x00") }
	if c := Open(1, holding(t, group(5), group(7), group(6))); c.Done() != 6 {
		t.Errorf("%d were done", c.Done())
	}
	c := Open(1, holding(t, group(5), [][]byte{[]byte("no state")}))
	wantFirst(t, c)
	c.Link(true)
	wantDo(t, c, api.Mkdir, "/d", "", api.OK) // it goes on from there
	if n := len(journal.Open(c.Disk()).Groups()); n != 1 || !sameKept(Open(1, c.Disk()), c) {
		t.Errorf("%d groups are kept", n)
	}
}

func TestOpenOfTheWrong(t *testing.T) { // P13.1
	g := worn(t).group()
	if c := Open(2, holding(t, g)); c.Done() != 2 || c.Frozen() != 2 || len(c.Log()) != 3 || len(c.Refused()) != 1 {
		t.Fatal("what is right is refused")
	}
	for why, g := range map[string][][]byte{
		"one part": {g[0]}, "the other part": {g[1]}, "three parts": {g[0], g[1], nil}, "turned": {g[1], g[0]}, "no snapshot": {nil, g[1]},
		"a cut snapshot": {g[0][:len(g[0])-1], g[1]}, "more behind the snapshot": {append(slices.Clone(g[0]), 0), g[1]},
		"nothing behind": {g[0], nil}, "more behind": {g[0], append(slices.Clone(g[1]), 0)},
		"too many frozen":         kept(t, 3, 0, 1, "\x02"+strings.Repeat(oneRecord, 2), "\x00"),
		"frozen of nothing":       kept(t, 1, 0, 1, "\x00", "\x00"),
		"more frozen than a body": kept(t, 7, 0, 1, "\x08"+strings.Repeat(oneRecord, 8), "\x00"),
		"frozen beyond numbers":   kept(t, 1, 1<<32-1, 1, "\x01"+oneRecord, "\x00"),
		"the number 0":            kept(t, 0, 0, 0, "\x00", "\x00"),
		"a number too great":      kept(t, 0, 0, 1<<24+1, "\x00", "\x00"),
		"a much greater one":      kept(t, 0, 0, 1<<32-1, "\x00", "\x00"),
		"a log too long":          kept(t, 0, 0, 1, "\x19"+strings.Repeat(oneRecord, 25), "\x00"),
		"a wrong operation":       kept(t, 0, 0, 1, "\x01"+oneRecord[:8]+"\x0a"+oneRecord[9:], "\x00"),
		"another's verdict":       kept(t, 0, 9, 1, "\x00", "\x01\x01"+oneVerdict[1:]),
		"a verdict not done":      kept(t, 0, 6, 1, "\x00", "\x01"+oneVerdict),
		"a verdict on record 0":   kept(t, 0, 9, 1, "\x00", "\x01\x02\x00\x00\x00\x00"+oneVerdict[5:]),
		"a verdict of OK":         kept(t, 0, 9, 1, "\x00", "\x01"+oneVerdict[:5]+"\x00"+oneVerdict[6:]),
		"a verdict of no error":   kept(t, 0, 9, 1, "\x00", "\x01"+oneVerdict[:5]+"\x0f"+oneVerdict[6:]),
		"too many verdicts":       kept(t, 0, 9, 1, "\x00", "\x41"+strings.Repeat(oneVerdict, 65)),
	} {
		if c := Open(2, holding(t, g)); !sameKept(c, Open(2, disk.New(8))) {
			t.Errorf("%s: the client is %v", why, c.state)
		}
	}
	for size := range len(g[1]) {
		wantFirst(t, Open(2, holding(t, [][]byte{g[0], g[1][:size]})))
	}
}

func TestOpenAtTheEdges(t *testing.T) { // P13.1
	for why, g := range map[string][][]byte{
		"all of the log frozen": kept(t, 6, 0, 1, "\x06"+strings.Repeat(oneRecord, 6), "\x00"),
		"a long log":            kept(t, 6, 0, 1, "\x18"+strings.Repeat(oneRecord, 24), "\x00"),
		"no fids left":          kept(t, 0, 0, 1<<24, "\x00", "\x00"),
		"all is done":           kept(t, 0, 1<<32-1, 1, "\x01"+oneRecord, "\x00"),
		"the last is frozen":    kept(t, 1, 1<<32-2, 1, "\x01"+oneRecord, "\x00"),
		"64 verdicts":           kept(t, 0, 7, 2, "\x00", "\x40"+strings.Repeat(oneVerdict, 64)),
	} {
		c := Open(2, holding(t, g))
		if !slices.EqualFunc(c.group(), g, bytes.Equal) {
			t.Errorf("%s: the client is %v", why, c.state)
		}
		if len(g[1]) > 20 && len(c.Refused()) > 0 { // with verdicts it is none of client 1
			wantFirst(t, Open(1, holding(t, g)))
		}
	}
}

func TestOpenOfAnyBytes(t *testing.T) { // P1, P13.1
	chance := rand.New(rand.NewPCG(13, 1))
	g := worn(t).group()
	s := served(t)
	read := 0
	for range 3000 {
		first, second := slices.Clone(g[0]), slices.Clone(g[1])
		for range chance.IntN(3) {
			second[chance.IntN(len(second))] = byte(chance.IntN(256))
		}
		if chance.IntN(4) == 0 {
			first[chance.IntN(len(first))]++
		}
		c := Open(2, holding(t, [][]byte{first, second}))
		if kept := c.group(); bytes.Equal(kept[0], first) && bytes.Equal(kept[1], second) {
			read++
		} else if !sameKept(c, Open(2, disk.New(8))) {
			t.Fatalf("of %q, %q the client is %v", first, second, c.state)
		}
		c.Link(true)
		c.Do(api.Mkdir, "/z", "", 0, "")
		body, _ := c.Request()
		c.Take(s.Serve(2, body))
		if !sameKept(Open(2, c.Disk()), c) {
			t.Fatalf("of %q, %q: kept is something else than %v", first, second, c.state)
		}
	}
	if read == 0 {
		t.Error("nothing could be read")
	}
}

// serverOf is a server that has done nothing.
func serverOf(t *testing.T) *server.Server {
	t.Helper()
	return server.Open(disk.New(api.MaxSectors))
}
