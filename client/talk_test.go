package client

import (
	"math"
	"math/rand/v2"
	"slices"
	"strconv"
	"strings"
	"testing"

	"backwater/api"
	"backwater/disk"
	"backwater/journal"
	"backwater/record"
	"backwater/server"
	"backwater/tree"
)

// settle lets a client that is linked ask a server until its log is empty.
func settle(t *testing.T, c *Client, s *server.Server) {
	t.Helper()
	for range 2 + api.MaxLog {
		body := wantRequest(t, c)
		wantErr(t, c.Take(s.Serve(c.number, body)), api.OK)
		if body == "F" {
			return
		}
	}
	t.Error("the log is not empty")
}

// wantRequest asks for what a client asks for, without an error.
func wantRequest(t *testing.T, c *Client) string {
	t.Helper()
	body, err := c.Request()
	wantErr(t, err, api.OK)
	return body
}

// shipment is the body of records, from the number of the first one on.
func shipment(t *testing.T, first uint32, l []api.Record) string {
	t.Helper()
	b, err := record.Records(l)
	wantErr(t, err, api.OK)
	return "S" + string([]byte{byte(first >> 24), byte(first >> 16), byte(first >> 8), byte(first)}) + string(b)
}

func TestRequestOfNothing(t *testing.T) { // P13.4
	c := sample(t)
	ahead := c.Fork()
	if body := wantRequest(t, c); body != "F" {
		t.Errorf("it asks %q", body)
	}
	wantSame(t, c, ahead)
	if !sameDisk(c.Disk(), ahead.Disk()) {
		t.Error("something was kept")
	}
	c.Link(false)
	if body, err := c.Request(); body != "" || err != api.ErrTimeout {
		t.Errorf("without a link it asks %q, error %d", body, err)
	}
}

func TestRequest(t *testing.T) { // P13.4
	c := opened(t)
	for i := range 8 {
		wantDo(t, c, api.Mkdir, "/"+strconv.Itoa(i), "", api.OK)
	}
	l := c.Log()
	c.Link(false)
	if body, err := c.Request(); body != "" || err != api.ErrTimeout || c.Frozen() != 0 {
		t.Errorf("without a link it asks %q, error %d", body, err)
	}
	c.Link(true)
	want := shipment(t, 1, l[:6])
	if body := wantRequest(t, c); body != want || c.Frozen() != 6 {
		t.Errorf("it asks %q, %d are frozen", body, c.Frozen())
	}
	wantLog(t, c, l...)
	if !sameKept(Open(2, c.Disk()), c) {
		t.Error("it is not kept")
	}
	wantDo(t, c, api.Rmdir, "/7", "", api.OK)
	wantDo(t, c, api.Rmdir, "/0", "", api.OK) // what is frozen stays as it is
	l = c.Log()
	d := c.Disk()
	for range 3 {
		if body := wantRequest(t, c); body != want || c.Frozen() != 6 {
			t.Errorf("once more it asks %q, %d are frozen", body, c.Frozen())
		}
	}
	wantLog(t, c, l...)
	if !sameDisk(c.Disk(), d) {
		t.Error("something was kept once more")
	}
	s := serverOf(t)
	wantErr(t, c.Take(s.Serve(2, want)), api.OK)
	wantLog(t, c, l[6:]...)
	if body := wantRequest(t, c); body != shipment(t, 7, []api.Record{l[6], l[9]}) || c.Frozen() != 2 { // /7 came and went
		t.Errorf("then it asks %q, %d are frozen", body, c.Frozen())
	}
}

func TestRequestOfALogThatIsNotNeeded(t *testing.T) { // P13.4: if the log is empty now, F
	c := sample(t)
	wantDo(t, c, api.Create, "/n", "", api.OK)
	wantDo(t, c, api.Store, "/n", "x", api.OK)
	wantDo(t, c, api.Unlink, "/n", "", api.OK)
	wantDirty(t, c, 1)
	if body := wantRequest(t, c); body != "F" || c.Frozen() != 0 || len(c.Log()) > 0 {
		t.Errorf("it asks %q", body)
	}
	wantDirty(t, c, 1) // until there is an answer
	if o := Open(2, c.Disk()); len(o.Log()) > 0 || o.next != 2 {
		t.Errorf("kept is %v", o.state)
	}
	wantErr(t, c.Take(served(t).Serve(2, "F")), api.OK)
	wantDirty(t, c)
}

func TestShorterIsTheSame(t *testing.T) { // E3
	c := sample(t)
	for _, w := range [][3]string{{"m", "/d"}, {"c", "/d/f"}, {"s", "/d/f", "1"}, {"s", "/d/f", "2"}, {"c", "/d/g"}, {"u", "/d/g"}, {"s", "/g", "3"}, {"s", "/g", "4"}} {
		wantDo(t, c, map[string]api.OpKind{"m": api.Mkdir, "c": api.Create, "s": api.Store, "u": api.Unlink}[w[0]], w[1], w[2], api.OK)
	}
	view := c.View()
	wantRequest(t, c)
	if len(c.Log()) != 4 || !tree.Same(c.View(), view) {
		t.Errorf("the log is %v", c.Log())
	}
}

func TestRequestWithoutRoom(t *testing.T) { // P13.4: its error; then nothing was done
	c := opened(t)
	wantDo(t, c, api.Mkdir, "/a", "", api.OK)
	wantDo(t, c, api.Chmod, "/a", "", api.OK)
	wantDo(t, c, api.Chmod, "/a", "", api.OK)
	c = Open(2, worndown(t, c.group()))
	c.Link(true)
	ahead := c.Fork()
	if body, err := c.Request(); body != "" || err != api.ErrSpace {
		t.Errorf("it asks %q, error %d", body, err)
	}
	wantSame(t, c, ahead)
	if len(c.Log()) != 3 || c.Frozen() != 0 {
		t.Errorf("the log is %v", c.Log())
	}
	s := serverOf(t)
	c = Open(2, worndown(t, frozenOf(t, c)))
	c.Link(true)
	ahead = c.Fork()
	wantErr(t, c.Take(s.Serve(2, wantRequest(t, c))), api.ErrSpace)
	wantSame(t, c, ahead)
}

// frozenOf is what a client would keep behind a Request.
func frozenOf(t *testing.T, c *Client) [][]byte {
	t.Helper()
	o := Open(c.number, holding(t, c.group()))
	o.Link(true)
	wantRequest(t, o)
	return o.group()
}

// worndown is a disk whose journal has a group, and can't be Reset any more: its turn is the last one.
func worndown(t *testing.T, g [][]byte) *disk.Disk {
	t.Helper()
	d := holding(t, g)
	for i := range d.Size() {
		s, _ := d.Read(i)
		if s[0] == 'G' || s[0] == 'C' {
			copy(s[1:5], "\xff\xff\xff\xff")
			sum(&s, map[byte]int{'G': 14, 'C': 9}[s[0]])
			d.Write(i, s)
		}
	}
	head := disk.Sector{'H', 0xff, 0xff, 0xff, 0xff}
	sum(&head, 5)
	d.Write(0, head)
	d.Flush()
	if j := journal.Open(d); len(j.Groups()) != 1 || j.Reset(g) != api.ErrSpace {
		t.Fatal("the journal is not worn down")
	}
	return d
}

// sum writes the check sum of a sector's first bytes behind them.
func sum(s *disk.Sector, size int) {
	h := uint32(2166136261)
	for _, b := range s[:size] {
		h = (h ^ uint32(b)) * 16777619
	}
	copy(s[size:], []byte{byte(h), byte(h >> 8), byte(h >> 16), byte(h >> 24)})
}

func TestTakeOfASnapshot(t *testing.T) { // P13.5
	c, s := sample(t), served(t)
	c.Stat("/")
	c.Stat("/g")
	wantShip(t, s, 1, api.Op{Kind: api.Unlink, At: 1, Name: "g"}, api.Op{Kind: api.Store, Fid: fidF, Data: "newer"})
	c.Link(false) // that is of no matter
	wantErr(t, c.Take(s.Serve(2, "F")), api.OK)
	if !tree.Same(c.View(), s.Snapshot().Tree) || !slices.Equal(c.base.Versions, s.Snapshot().Versions) || c.Done() != 0 {
		t.Errorf("the client is %v", c.state)
	}
	if !sameKept(Open(2, c.Disk()), c) {
		t.Error("it is not kept")
	}
	wantHand(t, c, 1, fidG) // what is gone is at hand still
	if got, err := c.List("/"); !slices.Equal(got, []string{"a", "l"}) || err != api.OK {
		t.Errorf("/ has %v, error %d", got, err)
	}
}

func TestTakeOfRecords(t *testing.T) { // P13.5
	c, s := sample(t), served(t)
	wantDo(t, c, api.Store, "/a/f", "mine", api.OK)
	wantDo(t, c, api.Create, "/n", "", api.OK)
	wantDo(t, c, api.Unlink, "/g", "", api.OK)
	wantShip(t, s, 1, api.Op{Kind: api.Store, Fid: fidF, Data: "theirs"}, api.Op{Kind: api.Unlink, At: 1, Name: "g"})
	l := c.Log()
	body := wantRequest(t, c)
	wantDo(t, c, api.Store, "/a/f", "late", api.OK)
	wantDirty(t, c, 1, fidF)
	late := c.Log()[3]
	answer := s.Serve(2, body)
	if answer[:5] != "s\x03\x0c\x00\x05" {
		t.Fatalf("the answer is %q", answer)
	}
	wantErr(t, c.Take(answer), api.OK)
	wantDirty(t, c, fidF)
	if c.Done() != 3 || c.Frozen() != 0 || !slices.Equal(c.base.Versions, s.Snapshot().Versions) {
		t.Errorf("the client is %v", c.state)
	}
	wantLog(t, c, late)
	want := []api.Verdict{{Client: 2, Number: 1, Err: api.ErrStale, Record: l[0]}, {Client: 2, Number: 3, Err: api.ErrNoent, Record: l[2]}}
	if got := c.Refused(); !slices.Equal(got, want) {
		t.Errorf("refused are %v, want %v", got, want)
	}
	if got, err := c.Read("/a/f"); got != "late" || err != api.OK { // the VIEW is the BASE with what is left
		t.Errorf("/a/f has %q, error %d", got, err)
	}
	if !sameKept(Open(2, c.Disk()), c) {
		t.Error("it is not kept")
	}
	settle(t, c, s)
	want = append(want, api.Verdict{Client: 2, Number: 4, Err: api.ErrStale, Record: late}) // it has seen the elder version
	if got := c.Refused(); !slices.Equal(got, want) || c.Done() != 4 {
		t.Errorf("refused are %v, want %v", got, want)
	}
	wantDirty(t, c)
	if got, err := c.Read("/a/f"); got != "theirs" || err != api.OK {
		t.Errorf("/a/f has %q, error %d", got, err)
	}
}

func TestTheSameAnswerTwice(t *testing.T) { // P13.5
	c, s := sample(t), served(t)
	wantDo(t, c, api.Create, "/n", "", api.OK)
	answer := s.Serve(2, wantRequest(t, c))
	wantErr(t, c.Take(answer), api.OK)
	ahead := c.Fork()
	wantErr(t, c.Take(answer), api.ErrForm)
	wantSame(t, c, ahead)
}

func TestTakeOfTheWrong(t *testing.T) { // P13.5
	s := served(t)
	fetched := s.Serve(2, "F")
	snapshot := fetched[5:]
	idle, writing, asking := sample(t), sample(t), sample(t)
	wantDo(t, writing, api.Create, "/n", "", api.OK)
	wantDo(t, asking, api.Create, "/n", "", api.OK)
	wantDo(t, asking, api.Create, "/o", "", api.OK)
	wantRequest(t, asking)
	shipped := func(errs string) string { return "s" + string(rune(len(errs))) + errs + "\x00\x00\x00\x02" + snapshot }
	wantNoTake := func(c *Client, body string) {
		t.Helper()
		ahead := c.Fork()
		if err := c.Take(body); err != api.ErrForm {
			t.Errorf("%.20q: error %d", body, err)
		}
		wantSame(t, c, ahead)
		if !sameDisk(c.Disk(), ahead.Disk()) {
			t.Errorf("%.20q: something was kept", body)
		}
	}
	for _, errs := range []string{"", "\x00", "\x00\x00", "\x05\x00", "\x00\x00\x00"} {
		wantNoTake(idle, shipped(errs))
		wantNoTake(writing, shipped(errs))
		if len(errs) != 2 {
			wantNoTake(asking, shipped(errs))
		}
	}
	for _, c := range []*Client{writing, asking} {
		wantNoTake(c, fetched)
	}
	for _, c := range []*Client{idle, writing, asking} {
		for _, body := range []string{"", "f", "s", "e\x03", "e\x04", "F", "S", "x" + fetched[1:], "F" + fetched[1:], "e" + fetched[1:], "\x00", fetched[1:],
			fetched + "\x00", shipped("\x00\x00") + "\x00", shipped("\x0f\x00"), shipped("\x00\xff"), "S" + shipped("\x00\x00")[1:]} {
			wantNoTake(c, body)
		}
	}
	for size := range len(fetched) {
		wantNoTake(idle, fetched[:size])
	}
	for size := range len(shipped("\x00\x05")) {
		wantNoTake(asking, shipped("\x00\x05")[:size])
	}
	wantErr(t, idle.Take("f\xff\xff\xff\xff"+snapshot), api.OK) // how many were done it counts itself
	wantErr(t, asking.Take("s\x02\x00\x0e\x00\x00\x00\x00"+snapshot), api.OK)
	if asking.Done() != 2 || len(asking.Refused()) != 1 || idle.Done() != 0 {
		t.Errorf("the client is %v", asking.state)
	}
}

func TestTakeOfAnyBytes(t *testing.T) { // P1, E7
	chance := rand.New(rand.NewPCG(13, 5))
	s := served(t)
	c := sample(t)
	wantDo(t, c, api.Create, "/n", "", api.OK)
	wantDo(t, c, api.Store, "/a/f", "x", api.OK)
	good := []byte(s.Serve(2, wantRequest(t, c)))
	taken := 0
	for range 3000 {
		b := slices.Clone(good)
		for range 1 + chance.IntN(2) {
			b[chance.IntN(len(b))] = byte(chance.IntN(256))
		}
		f := c.Fork()
		switch f.Take(string(b)) {
		case api.OK:
			taken++
			if !sameKept(Open(2, f.Disk()), f) || !tree.Right(f.View()) || f.Done() != 2 || len(f.Log()) > 0 {
				t.Fatalf("%q: the client is %v", b, f.state)
			}
		case api.ErrForm:
			wantSame(t, f, c)
		default:
			t.Fatalf("%q: another error", b)
		}
	}
	if taken == 0 {
		t.Error("nothing was taken")
	}
}

func TestSixtyFourVerdicts(t *testing.T) { // the words: its last 64 verdicts
	c, s := sample(t), served(t)
	number := 0
	for round := range 30 {
		var l []api.Op
		for i := range 3 {
			wantDo(t, c, api.Create, "/a/b/"+strconv.Itoa(i), "", api.OK)
			l = append(l, api.Op{Kind: api.Create, Fid: api.Fid(1000*round + 500 + i), At: fidB, Name: strconv.Itoa(i)})
		}
		wantShip(t, s, 1, l...)
		settle(t, c, s)
		for i := range 3 {
			wantShip(t, s, 1, api.Op{Kind: api.Unlink, At: fidB, Name: strconv.Itoa(i)})
		}
		settle(t, c, s)
		number += 3
		got := c.Refused()
		if len(got) != min(number, 64) || got[len(got)-1].Number != uint32(number) || got[0].Number != uint32(max(1, number-63)) {
			t.Fatalf("behind %d there are %d, from %d on", number, len(got), got[0].Number)
		}
		if !sameKept(Open(2, c.Disk()), c) {
			t.Fatal("kept is something else")
		}
	}
}

func TestGreatNumbers(t *testing.T) { // P5
	snapshot := serverOf(t).Serve(2, "F")[5:]
	c := Open(2, holding(t, kept(t, 0, math.MaxUint32-2, 1, "\x00", "\x00")))
	c.Link(true)
	wantDo(t, c, api.Mkdir, "/a", "", api.OK)
	wantDo(t, c, api.Mkdir, "/b", "", api.OK)
	wantDo(t, c, api.Mkdir, "/c", "", api.OK)
	body := wantRequest(t, c)
	if body[:5] != "S\xff\xff\xff\xfe" || c.Frozen() != 3 {
		t.Errorf("it asks %q", body)
	}
	ahead := c.Fork()
	wantErr(t, c.Take("s\x03\x00\x00\x00\x00\x00\x00\x00"+snapshot), api.ErrRange) // more than 4 bytes can hold
	wantSame(t, c, ahead)
	one := strings.Repeat("\x00", 8) + "\x02\x02\x00\x00\x01\x00\x00\x00\x01\x01a\x00\x00\x00\x00\x00\x00\x00\x00"
	c = Open(2, holding(t, kept(t, 1, math.MaxUint32-1, 2, "\x01"+one, "\x00")))
	c.Link(true)
	if body := wantRequest(t, c); body != "S\xff\xff\xff\xff\x01"+one {
		t.Errorf("it asks %q", body)
	}
	wantErr(t, c.Take("s\x01\x05\xff\xff\xff\xff"+snapshot), api.OK)
	if c.Done() != math.MaxUint32 || c.Refused()[0].Number != math.MaxUint32 || !sameKept(Open(2, c.Disk()), c) {
		t.Errorf("the client is %v", c.state)
	}
	if body := wantRequest(t, c); body != "F" {
		t.Errorf("it asks %q", body)
	}
	wantDo(t, c, api.Mkdir, "/d", "", api.OK)
	ahead = c.Fork()
	if body, err := c.Request(); body != "" || err != api.ErrRange {
		t.Errorf("it asks %q, error %d", body, err)
	}
	wantSame(t, c, ahead)
	wantDo(t, c, api.Rmdir, "/d", "", api.OK)
	if body := wantRequest(t, c); body != "F" || len(c.Log()) > 0 {
		t.Errorf("it asks %q", body)
	}
}
