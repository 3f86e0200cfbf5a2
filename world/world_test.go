package world

import (
	"math"
	"reflect"
	"slices"
	"strconv"
	"strings"
	"testing"

	"backwater/alike"
	"backwater/api"
	"backwater/disk"
	"backwater/journal"
	"backwater/record"
	"backwater/tree"
)

// wantErr asks for an error.
func wantErr(t *testing.T, got, want api.Errno) {
	t.Helper()
	if got != want {
		t.Errorf("error %d, want %d", got, want)
	}
}

// made is a world of so many clients, all of them linked.
func made(t *testing.T, clients int) *World {
	t.Helper()
	w := New(clients)
	for i := range clients {
		wantErr(t, w.Link(uint8(i+1), true), api.OK)
	}
	return w
}

// wantDo does an operation at a path of a client, with data, and asks for its error.
func wantDo(t *testing.T, w *World, client uint8, k api.OpKind, path, data string, want api.Errno) {
	t.Helper()
	if err := w.Do(client, k, path, "", 0, data); err != want {
		t.Errorf("client %d, operation %d at %s: error %d, want %d", client, k, path, err, want)
	}
}

// deliverAll delivers all packets, as they were sent.
func deliverAll(t *testing.T, w *World) {
	t.Helper()
	for len(w.Packets()) > 0 {
		wantErr(t, w.Deliver(0), api.OK)
	}
}

// settle lets all that are linked ask, with all packets coming, until there is nothing to be told any more.
func settle(t *testing.T, w *World) {
	t.Helper()
	deliverAll(t, w)
	for range 10 {
		for number := range w.there() {
			w.Tick(number)
		}
		deliverAll(t, w)
	}
}

// wantPackets asks for the kinds, clients and numbers of the packets under way: "?2.1" asks, "!2.1" answers.
func wantPackets(t *testing.T, w *World, want ...string) {
	t.Helper()
	var got []string
	for _, p := range w.Packets() {
		got = append(got, map[api.PacketKind]string{api.Ask: "?", api.Answer: "!"}[p.Kind]+strconv.Itoa(int(p.From+p.To))+"."+strconv.Itoa(int(p.Seq)))
	}
	if !slices.Equal(got, want) {
		t.Errorf("under way are %v, want %v", got, want)
	}
}

// wantNames asks for the names in the root that a client lists.
func wantNames(t *testing.T, w *World, client uint8, want ...string) {
	t.Helper()
	if got, err := w.List(client, "/"); !slices.Equal(got, want) || err != api.OK {
		t.Errorf("client %d lists %v, error %d, want %v", client, got, err, want)
	}
}

// sameNode tells whether the node of a client is the same in two worlds, as far as it keeps something.
func sameNode(a, b *World, client uint8) bool {
	return tree.Same(a.View(client), b.View(client)) && slices.Equal(a.Log(client), b.Log(client)) && a.Done(client) == b.Done(client) &&
		slices.Equal(a.Refused(client), b.Refused(client)) && a.client(client).Frozen() == b.client(client).Frozen()
}

// sameServer tells whether the server is the same in two worlds.
func sameServer(a, b *World) bool {
	if !tree.Same(a.Tree(), b.Tree()) || a.host.Serve(1, "F") != b.host.Serve(1, "F") || !slices.Equal(a.host.Rejected(), b.host.Rejected()) {
		return false
	}
	return a.Applied(1) == b.Applied(1) && a.Applied(2) == b.Applied(2) && a.Applied(3) == b.Applied(3)
}

// same tells whether two worlds are the same, as far as their calls tell it.
func same(a, b *World) bool {
	for number, n := range a.there() {
		o, err := b.find(number)
		if err != api.OK || !sameNode(a, b, number) || n.Linked() != o.Linked() || n.Busy() != o.Busy() || n.Down() != o.Down() || n.epoch != o.epoch || a.net.Off(number) != b.net.Off(number) {
			return false
		}
	}
	return sameServer(a, b) && slices.Equal(a.Packets(), b.Packets()) && a.time == b.time && string(a.host.Bytes()) == string(b.host.Bytes())
}

// wantSame asks that two worlds are the same.
func wantSame(t *testing.T, got, want *World) {
	t.Helper()
	if !same(got, want) {
		t.Error("the world is another one")
	}
}

func TestNew(t *testing.T) { // P14.1
	for _, clients := range []int{math.MinInt, -1, 0, 4, 5, 257, math.MaxInt} {
		if New(clients) != nil {
			t.Errorf("there is a world of %d clients", clients)
		}
	}
	for clients := 1; clients <= 3; clients++ {
		w := New(clients)
		for number := range uint8(8) {
			there := number >= 1 && int(number) <= clients
			if tree.Same(w.View(number), tree.New()) != there || len(w.Log(number)) > 0 || w.Done(number) != 0 || len(w.Refused(number)) > 0 || w.Applied(number) != 0 {
				t.Errorf("of %d clients, client %d", clients, number)
			}
		}
		if !tree.Same(w.Tree(), tree.New()) || len(w.Packets()) > 0 || w.time != 0 {
			t.Error("at first there is something")
		}
		if w.client(1).Disk().Size() != api.MaxSectors || w.host.Disk().Size() != api.MaxSectors || w.client(1).Linked() {
			t.Error("a disk has another size, or a client is linked")
		}
	}
}

func TestWhoIsNotThere(t *testing.T) { // P14.1, P14.2, P14.3
	for clients := 1; clients <= 3; clients++ {
		w := made(t, clients)
		wantDo(t, w, 1, api.Mkdir, "/a", "", api.OK)
		ahead := w.Fork()
		for _, number := range []uint8{0, uint8(clients + 1), 4, 255} {
			wantDo(t, w, number, api.Mkdir, "/a", "", api.ErrRange)
			wantDo(t, w, number, api.NoOp, "", "", api.ErrRange)
			if s, err := w.Read(number, ""); s != "" || err != api.ErrRange {
				t.Errorf("client %d reads %q, error %d", number, s, err)
			}
			if l, err := w.List(number, "/"); len(l) > 0 || err != api.ErrRange {
				t.Errorf("client %d lists %v, error %d", number, l, err)
			}
			wantErr(t, w.Link(number, true), api.ErrRange)
			wantErr(t, w.Hoard(number, "/", 1), api.ErrRange)
			wantErr(t, w.Tick(number), api.ErrRange)
			wantErr(t, w.Part(number, true), api.ErrRange)
			if number > 0 {
				wantErr(t, w.Crash(number), api.ErrRange)
			}
			if w.View(number) != nil || w.Log(number) != nil || w.Done(number) != 0 || w.Refused(number) != nil || w.Applied(number) != 0 {
				t.Errorf("client %d has something", number)
			}
		}
		wantSame(t, w, ahead)
	}
}

func TestNil(t *testing.T) { // P1
	var w *World
	for _, err := range []api.Errno{
		w.Do(1, api.Mkdir, "/a", "", 0, ""), w.Link(9, true), w.Hoard(1, "/", 1), w.Tick(1), w.Deliver(0), w.Drop(0), w.Double(0), w.Part(1, true), w.Crash(0), w.Crash(9),
	} {
		wantErr(t, err, api.ErrNil)
	}
	if s, err := w.Read(1, "/"); s != "" || err != api.ErrNil {
		t.Error("Read of nil")
	}
	if l, err := w.List(1, "/"); l != nil || err != api.ErrNil {
		t.Error("List of nil")
	}
	if w.View(1) != nil || w.Log(1) != nil || w.Done(1) != 0 || w.Refused(1) != nil || w.Tree() != nil || w.Applied(1) != 0 || w.Packets() != nil || w.Fork() != nil {
		t.Error("nil has something")
	}
}

func TestMethods(t *testing.T) { // chapter 14's list: what is inside hands none of its calls on
	want := []string{"Applied", "Crash", "Deliver", "Do", "Done", "Double", "Drop", "Fork", "Hoard", "Link", "List", "Log", "Packets", "Part", "Read", "Refused", "Tick", "Tree", "View"}
	var got []string
	for i := range reflect.TypeFor[*World]().NumMethod() {
		got = append(got, reflect.TypeFor[*World]().Method(i).Name)
	}
	if !slices.Equal(got, want) {
		t.Errorf("a world has %v", got)
	}
}

func TestWhatIsTheClients(t *testing.T) { // P14.1, P14.4
	w := New(2)
	wantDo(t, w, 1, api.Mkdir, "/a", "", api.ErrTimeout)
	wantErr(t, w.Link(1, true), api.OK)
	wantErr(t, w.Do(1, api.Mkdir, "/a", "", 5, ""), api.OK)
	wantErr(t, w.Do(1, api.Symlink, "/l", "", 0, "/a/f"), api.OK)
	wantDo(t, w, 1, api.Create, "/a/f", "", api.OK)
	wantDo(t, w, 1, api.Store, "/l", "data", api.OK)
	wantErr(t, w.Do(1, api.Hard, "/a/f", "/h", 0, ""), api.OK)
	wantErr(t, w.Do(1, api.Rename, "/h", "/i", 0, ""), api.OK)
	if s, err := w.Read(1, "/i"); s != "data" || err != api.OK {
		t.Errorf("it reads %q, error %d", s, err)
	}
	if s, err := w.Read(1, "/a"); s != "" || err != api.ErrIsdir {
		t.Errorf("it reads %q, error %d", s, err)
	}
	wantNames(t, w, 1, "a", "i", "l")
	if n := w.View(1)[1]; n.Fid != 1<<24+1 || n.Mode != 5 {
		t.Errorf("it sees %v", n)
	}
	if len(w.Log(1)) != 6 || len(w.Log(2)) != 0 || len(w.View(2)) != 1 {
		t.Error("the logs are others")
	}
	wantErr(t, w.Hoard(1, "/a", 101), api.ErrRange)
	wantErr(t, w.Hoard(1, "/a", 3), api.OK)
	wantErr(t, w.Hoard(1, "/x", 3), api.ErrNoent)
	if _, err := w.List(2, "/"); err != api.ErrTimeout {
		t.Errorf("client 2: error %d", err)
	}
}

func TestExample(t *testing.T) { // chapter 14, example 1
	w := New(1)
	wantErr(t, w.Link(1, true), api.OK)
	wantDo(t, w, 1, api.Mkdir, "/a", "", api.OK)
	wantErr(t, w.Tick(1), api.OK)
	wantPackets(t, w, "?1.1")
	wantErr(t, w.Deliver(0), api.OK)
	wantPackets(t, w, "!1.1")
	if f, err := tree.Find(w.Tree(), "/a"); f != 1<<24+1 || err != api.OK {
		t.Errorf("the server has %v", w.Tree())
	}
	if w.Applied(1) != 1 || w.Done(1) != 0 || len(w.Log(1)) != 1 {
		t.Error("the client knows it already")
	}
	wantErr(t, w.Deliver(0), api.OK)
	wantPackets(t, w)
	if w.Applied(1) != 1 || w.Done(1) != 1 || len(w.Log(1)) != 0 {
		t.Error("the client does not know it")
	}
}

func TestExampleOfTheWhole1(t *testing.T) { // DOC.md, example 1; E1, E5
	w := made(t, 3)
	settle(t, w)
	wantNames(t, w, 2)
	wantErr(t, w.Link(2, false), api.OK)
	for i := range 4 {
		s := "/f" + strconv.Itoa(i)
		wantDo(t, w, 2, api.Create, s, "", api.OK)
		wantDo(t, w, 2, api.Store, s, "first", api.OK)
		wantDo(t, w, 2, api.Store, s, "data "+s, api.OK)
	}
	wantErr(t, w.Tick(2), api.ErrTimeout)
	if len(w.Log(2)) != 12 {
		t.Errorf("the log is %v", w.Log(2))
	}
	wantErr(t, w.Link(2, true), api.OK)
	pieces := []int{}
	for len(w.Log(2)) > 0 && len(pieces) < 9 {
		ahead := w.Applied(2)
		wantErr(t, w.Tick(2), api.OK)
		deliverAll(t, w)
		pieces = append(pieces, int(w.Applied(2)-ahead))
	}
	if !slices.Equal(pieces, []int{6, 2}) {
		t.Errorf("the log is sent in pieces of %v", pieces)
	}
	settle(t, w)
	for number := range w.there() {
		if s, err := w.Read(number, "/f3"); s != "data /f3" || err != api.OK {
			t.Errorf("client %d reads %q, error %d", number, s, err)
		}
	}
}

func TestExampleOfTheWhole2(t *testing.T) { // DOC.md, example 2; E2
	w := made(t, 2)
	wantDo(t, w, 1, api.Create, "/f", "", api.OK)
	settle(t, w)
	for number := range w.there() {
		w.Read(number, "/f")
		w.Link(number, false)
	}
	wantDo(t, w, 1, api.Store, "/f", "one", api.OK)
	wantDo(t, w, 2, api.Store, "/f", "two", api.OK)
	record := w.Log(1)[0]
	w.Link(2, true)
	settle(t, w)
	w.Link(1, true)
	settle(t, w)
	for number := range w.there() {
		if s, err := w.Read(number, "/f"); s != "two" || err != api.OK {
			t.Errorf("client %d reads %q, error %d", number, s, err)
		}
	}
	if got := w.Refused(1); !slices.Equal(got, []api.Verdict{{Client: 1, Number: 2, Err: api.ErrStale, Record: record}}) || len(w.Refused(2)) > 0 {
		t.Errorf("refused are %v", got)
	}
}

func TestTickWithoutALink(t *testing.T) { // P14.2
	w := New(1)
	for i := range uint64(5) {
		wantErr(t, w.Tick(1), api.ErrTimeout)
		if w.time != i+1 { // it is one more all the same
			t.Errorf("the time is %d", w.time)
		}
	}
	wantErr(t, w.Tick(2), api.ErrRange)
	if w.time != 5 || len(w.Packets()) > 0 {
		t.Errorf("the time is %d", w.time)
	}
}

func TestTickAsksAgain(t *testing.T) { // P14.2
	w := made(t, 2)
	for i := range 21 { // at 1, 5, 9, 13, 17, 21
		wantErr(t, w.Tick(1), api.OK)
		if got := len(w.Packets()); got != i/4+1 {
			t.Errorf("at %d there are %d packets", w.time, got)
		}
	}
	for _, p := range w.Packets() {
		if p != (api.Packet{Kind: api.Ask, From: 1, Epoch: 1, Seq: 1, Body: "F"}) {
			t.Errorf("sent is %v", p)
		}
	}
	// Sent six times, the caller is Down: the next Tick gives it up.
	wantErr(t, w.Tick(1), api.ErrTimeout)
	if w.client(1).Linked() || w.nodes[0].Busy() || len(w.Packets()) != 6 || w.time != 22 {
		t.Error("it was not given up")
	}
	wantErr(t, w.Tick(1), api.ErrTimeout)
	wantErr(t, w.Link(1, true), api.OK)
	wantErr(t, w.Tick(1), api.OK)
	if p := w.Packets()[6]; p.Seq != 2 {
		t.Errorf("sent is %v", p)
	}
	deliverAll(t, w) // whatever of it is late
	if w.nodes[0].Busy() || w.Applied(1) != 0 {
		t.Error("the answer did not come")
	}
}

func TestTickHasTheErrorOfARequest(t *testing.T) { // P14.2
	j := journal.Open(disk.New(api.MaxSectors))
	base, _ := record.Snapshot(alike.FirstSnapshot())
	wantErr(t, j.Reset([][]byte{base, []byte("\x00" + "\xff\xff\xff\xff" + "\x00\x00\x00\x01" + "\x00" + "\x00")}), api.OK)
	w := New(1)
	w.nodes[0] = openNode(1, firstEpoch, j.Disk())
	wantErr(t, w.Link(1, true), api.OK)
	wantDo(t, w, 1, api.Mkdir, "/a", "", api.OK)
	wantErr(t, w.Tick(1), api.ErrRange) // the record has no number
	wantPackets(t, w)
	if w.time != 1 || w.nodes[0].Busy() || !w.nodes[0].Linked() {
		t.Error("something else was done")
	}
}

func TestTheTimeIsOneForAll(t *testing.T) { // P14.2
	w := made(t, 2)
	wantErr(t, w.Tick(1), api.OK)
	for range 3 {
		wantErr(t, w.Tick(2), api.OK)
	}
	wantPackets(t, w, "?1.1", "?2.1")
	wantErr(t, w.Tick(1), api.OK)
	wantPackets(t, w, "?1.1", "?2.1", "?1.1")
}

func TestTickOfABusyCaller(t *testing.T) { // P14.2
	w := made(t, 1)
	wantErr(t, w.Tick(1), api.OK)
	wantDo(t, w, 1, api.Mkdir, "/a", "", api.OK)
	for range 4 {
		wantErr(t, w.Tick(1), api.OK)
	}
	if l := w.Packets(); len(l) != 2 || l[1].Body != "F" || w.client(1).Frozen() != 0 {
		t.Errorf("under way are %v", l)
	}
	deliverAll(t, w) // with a log the answer is of no use: that is no matter
	if len(w.Log(1)) != 1 || w.nodes[0].Busy() {
		t.Error("the call is not over")
	}
	wantErr(t, w.Tick(1), api.OK)
	if l := w.Packets(); len(l) != 1 || l[0].Body[0] != 'S' || l[0].Seq != 2 {
		t.Errorf("under way are %v", l)
	}
	wantErr(t, w.Link(1, false), api.OK)
	deliverAll(t, w) // what comes is taken without a link too
	if w.Done(1) != 1 || len(w.Log(1)) > 0 {
		t.Error("the answer was not taken")
	}
}

func TestAFullNet(t *testing.T) { // P14.2, P14.3: an error of Send is of no matter
	w := made(t, 2)
	wantDo(t, w, 1, api.Mkdir, "/a", "", api.OK)
	wantErr(t, w.Tick(2), api.OK)
	for range api.MaxPackets - 1 {
		wantErr(t, w.Double(0), api.OK)
	}
	wantErr(t, w.Double(0), api.ErrSpace)
	wantErr(t, w.Tick(1), api.OK)
	if len(w.Packets()) != api.MaxPackets || !w.nodes[0].Busy() {
		t.Error("something else is under way")
	}
	for range 4 {
		wantErr(t, w.Tick(1), api.OK)
	}
	wantErr(t, w.Deliver(0), api.OK) // there is room again for the answer
	if len(w.Packets()) != api.MaxPackets {
		t.Error("the answer was not sent")
	}
	for len(w.Packets()) > 10 {
		wantErr(t, w.Drop(0), api.OK)
	}
	settle(t, w)
	if w.Applied(1) != 1 || len(w.Log(1)) > 0 {
		t.Error("it did not come home")
	}
}

func TestDeliver(t *testing.T) { // P14.3
	w := made(t, 2)
	wantDo(t, w, 1, api.Mkdir, "/a", "", api.OK)
	for _, i := range []int{0, -1, 1, math.MinInt, math.MaxInt} {
		wantErr(t, w.Deliver(i), api.ErrRange)
		wantErr(t, w.Drop(i), api.ErrRange)
		wantErr(t, w.Double(i), api.ErrRange)
	}
	wantErr(t, w.Tick(1), api.OK)
	wantErr(t, w.Tick(2), api.OK)
	wantErr(t, w.Double(0), api.OK)
	wantPackets(t, w, "?1.1", "?2.1", "?1.1")
	wantErr(t, w.Deliver(3), api.ErrRange)
	wantErr(t, w.Deliver(2), api.OK)
	wantPackets(t, w, "?1.1", "?2.1", "!1.1")
	wantErr(t, w.Deliver(0), api.OK) // it was answered already: that is sent again
	wantPackets(t, w, "?2.1", "!1.1", "!1.1")
	if l := w.Packets(); l[1] != l[2] || w.Applied(1) != 1 {
		t.Errorf("under way are %v", l)
	}
	wantErr(t, w.Deliver(1), api.OK)
	if w.Done(1) != 1 {
		t.Error("the answer was not taken")
	}
	ahead := w.Fork()
	wantErr(t, w.Deliver(1), api.OK) // nobody waits for it
	wantPackets(t, w, "?2.1")
	if !sameNode(w, ahead, 1) || w.nodes[0].Busy() {
		t.Error("it was taken once more")
	}
	wantErr(t, w.Drop(0), api.OK)
	wantPackets(t, w)
}

func TestElderPackets(t *testing.T) { // P14.3
	w := made(t, 1)
	wantDo(t, w, 1, api.Mkdir, "/a", "", api.OK)
	wantErr(t, w.Tick(1), api.OK)
	wantErr(t, w.Double(0), api.OK)
	wantErr(t, w.Deliver(0), api.OK)
	wantErr(t, w.Deliver(1), api.OK)
	wantDo(t, w, 1, api.Mkdir, "/b", "", api.OK)
	wantErr(t, w.Tick(1), api.OK)
	wantPackets(t, w, "?1.1", "?1.2")
	wantErr(t, w.Deliver(1), api.OK)
	wantErr(t, w.Deliver(0), api.OK) // it is elder than what was taken: nothing is sent
	wantPackets(t, w, "!1.2")
	if w.Applied(1) != 2 {
		t.Errorf("%d were done", w.Applied(1))
	}
}

func TestPart(t *testing.T) { // P14.3
	w := made(t, 2)
	wantDo(t, w, 1, api.Mkdir, "/a", "", api.OK)
	wantErr(t, w.Part(1, true), api.OK)
	wantErr(t, w.Tick(1), api.OK)
	wantErr(t, w.Tick(2), api.OK)
	ahead := w.Fork()
	wantErr(t, w.Deliver(0), api.ErrTimeout)
	wantSame(t, w, ahead)
	wantErr(t, w.Deliver(1), api.OK)
	wantPackets(t, w, "?1.1", "!2.1")
	wantErr(t, w.Deliver(1), api.OK)
	wantErr(t, w.Part(1, false), api.OK)
	wantErr(t, w.Deliver(0), api.OK)
	wantErr(t, w.Part(1, true), api.OK)
	wantErr(t, w.Deliver(0), api.ErrTimeout)
	wantErr(t, w.Part(1, false), api.OK)
	wantErr(t, w.Deliver(0), api.OK)
	if w.Done(1) != 1 {
		t.Error("the answer did not come")
	}
}

func TestCrashOfAClient(t *testing.T) { // P14.3, P14.7
	w := made(t, 2)
	wantDo(t, w, 1, api.Mkdir, "/a", "", api.OK)
	wantDo(t, w, 2, api.Mkdir, "/b", "", api.OK)
	wantErr(t, w.Hoard(1, "/", 5), api.OK)
	wantErr(t, w.Tick(1), api.OK)
	ahead := w.Fork()
	for epoch := uint32(2); epoch < 5; epoch++ {
		wantErr(t, w.Crash(1), api.OK)
		if !sameNode(w, ahead, 1) || !sameNode(w, ahead, 2) || !sameServer(w, ahead) || !slices.Equal(w.Packets()[:1], ahead.Packets()) || w.time < ahead.time {
			t.Error("something is lost")
		}
		n := w.nodes[0]
		if n.Linked() || n.Busy() || !w.nodes[1].Linked() || n.Frozen() != 1 {
			t.Error("the client is linked, or asks")
		}
		wantErr(t, w.Tick(1), api.ErrTimeout)
		wantErr(t, w.Link(1, true), api.OK)
		if _, err := w.List(1, "/"); err != api.OK {
			t.Errorf("error %d", err)
		}
		wantErr(t, w.Link(1, false), api.OK)
		wantErr(t, w.Crash(1), api.OK) // what was at hand is not
		if _, err := w.List(1, "/"); err != api.ErrTimeout {
			t.Errorf("error %d", err)
		}
		wantErr(t, w.Link(1, true), api.OK)
		wantErr(t, w.Tick(1), api.OK)
		p := w.Packets()[len(w.Packets())-1]
		if p.Epoch != 2*epoch-1 || p.Seq != 1 || p.Body != w.Packets()[0].Body {
			t.Errorf("sent is %v", p)
		}
	}
	deliverAll(t, w)
	if w.Applied(1) != 1 || w.Done(1) != 1 {
		t.Error("it was not done once")
	}
}

func TestAnswersToACrashedClient(t *testing.T) { // P14.3
	w := made(t, 1)
	wantDo(t, w, 1, api.Mkdir, "/a", "", api.OK)
	wantErr(t, w.Tick(1), api.OK)
	wantErr(t, w.Deliver(0), api.OK)
	wantErr(t, w.Crash(1), api.OK)
	wantErr(t, w.Link(1, true), api.OK)
	wantErr(t, w.Tick(1), api.OK)
	wantPackets(t, w, "!1.1", "?1.1")
	wantErr(t, w.Deliver(0), api.OK) // it is of the elder epoch
	if w.Done(1) != 0 {
		t.Error("it was taken")
	}
	deliverAll(t, w)
	if w.Done(1) != 1 || w.Applied(1) != 1 || len(w.Refused(1)) > 0 {
		t.Error("it was not done once")
	}
}

func TestCrashOfTheServer(t *testing.T) { // P14.3, P14.5, P14.7
	w := made(t, 2)
	wantDo(t, w, 1, api.Mkdir, "/a", "", api.OK)
	wantErr(t, w.Tick(1), api.OK)
	wantErr(t, w.Double(0), api.OK)
	wantErr(t, w.Deliver(0), api.OK)
	wantErr(t, w.Drop(1), api.OK) // the answer
	ahead := w.Fork()
	wantErr(t, w.Crash(0), api.OK)
	if !sameServer(w, ahead) || !sameNode(w, ahead, 1) || !sameNode(w, ahead, 2) || !slices.Equal(w.Packets(), ahead.Packets()) || !w.nodes[0].Linked() || !w.nodes[0].Busy() {
		t.Error("something is lost")
	}
	if w.host.Bytes()[0] != 0 {
		t.Error("what was taken is known still")
	}
	wantErr(t, w.Deliver(0), api.OK) // so it is taken once more, and not done once more
	wantPackets(t, w, "!1.1")
	if w.Applied(1) != 1 || len(w.Tree()) != 2 {
		t.Errorf("%d were done", w.Applied(1))
	}
	wantErr(t, w.Deliver(0), api.OK)
	if w.Done(1) != 1 || len(w.Refused(1)) > 0 {
		t.Error("the answer did not come")
	}
}

func TestCrashErrors(t *testing.T) { // P14.3
	for clients := 1; clients <= 3; clients++ {
		w := New(clients)
		for node := range 256 {
			want := api.ErrRange
			if node <= clients {
				want = api.OK
			}
			wantErr(t, w.Crash(uint8(node)), want)
		}
	}
}

// busy is a world in the midst of things.
func busy(t *testing.T) *World {
	t.Helper()
	w := made(t, 3)
	wantDo(t, w, 1, api.Mkdir, "/a", "", api.OK)
	wantDo(t, w, 1, api.Create, "/f", "", api.OK)
	settle(t, w)
	w.Read(2, "/f")
	w.Read(3, "/f")
	wantDo(t, w, 3, api.Store, "/f", "three", api.OK)
	wantDo(t, w, 2, api.Store, "/f", "two", api.OK)
	wantErr(t, w.Tick(2), api.OK)
	deliverAll(t, w)
	wantErr(t, w.Tick(3), api.OK)
	deliverAll(t, w)
	wantErr(t, w.Crash(3), api.OK)
	wantErr(t, w.Link(3, true), api.OK)
	wantErr(t, w.Part(3, true), api.OK)
	wantDo(t, w, 2, api.Unlink, "/f", "", api.OK)
	wantErr(t, w.Tick(2), api.OK)
	wantErr(t, w.Tick(1), api.OK)
	wantErr(t, w.Deliver(1), api.OK)
	wantDo(t, w, 2, api.Mkdir, "/b", "", api.OK)
	if len(w.Packets()) != 2 || len(w.Refused(3)) != 1 || len(w.Log(2)) != 2 {
		t.Fatal("the world is not busy")
	}
	return w
}

func TestFork(t *testing.T) { // P14.4, P4
	wantSame(t, busy(t).Fork(), busy(t))
	for what, change := range map[string]func(w *World){
		"do":           func(w *World) { w.Do(2, api.Mkdir, "/new", "", 0, "") },
		"link":         func(w *World) { w.Link(2, false) },
		"tick":         func(w *World) { w.Tick(3) },
		"deliver":      func(w *World) { w.Deliver(0) },
		"answer":       func(w *World) { w.Deliver(1) },
		"drop":         func(w *World) { w.Drop(0) },
		"double":       func(w *World) { w.Double(1) },
		"part":         func(w *World) { w.Part(3, false) },
		"crash":        func(w *World) { w.Crash(2) },
		"crash server": func(w *World) { w.Crash(0) },
	} {
		for _, own := range []bool{true, false} {
			changed, like := busy(t), busy(t)
			other := changed.Fork()
			if !own {
				changed, other = other, changed
			}
			change(changed)
			if same(changed, like) {
				t.Errorf("%s changes nothing", what)
			}
			if !same(other, like) {
				t.Errorf("%s has changed the other one", what)
			}
			change(other) // and then they are alike again
			if !same(changed, other) {
				t.Errorf("%s is not the same in the other one", what)
			}
		}
	}
}

func TestForkOfWhatIsAtHand(t *testing.T) { // P4
	w := made(t, 1)
	f := w.Fork()
	wantNames(t, w, 1)
	for _, x := range []*World{w, f} {
		wantErr(t, x.Link(1, false), api.OK)
	}
	wantNames(t, w, 1)
	if _, err := f.List(1, "/"); err != api.ErrTimeout {
		t.Errorf("error %d", err)
	}
	if _, err := w.Fork().List(1, "/"); err != api.OK {
		t.Errorf("error %d", err)
	}
}

func TestAnswersAreTheCallers(t *testing.T) { // P3
	w := busy(t)
	for _, nodes := range [][]api.Node{w.View(2), w.Tree()} {
		for _, n := range nodes {
			clear(n.Data)
			clear(n.Kids)
		}
		clear(nodes)
	}
	clear(w.Log(2))
	clear(w.Refused(3))
	clear(w.Packets())
	l, _ := w.List(2, "/")
	clear(l)
	wantSame(t, w, busy(t))
}

func TestAnyArguments(t *testing.T) { // P1
	w := busy(t)
	for _, number := range []uint8{0, 1, 2, 3, 4, 255} {
		for _, s := range []string{"", "/", "/f", "\xff", strings.Repeat("/a", 99)} {
			for k := range api.OpKind(12) {
				w.Do(number, k, s, s, math.MaxUint16, s)
			}
			w.Read(number, s)
			w.List(number, s)
			w.Hoard(number, s, math.MinInt)
		}
		w.Tick(number)
		w.Crash(number)
		w.Part(number, true)
	}
}
