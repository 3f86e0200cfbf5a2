package server

import (
	"bytes"
	"math"
	"math/rand/v2"
	"slices"
	"strings"
	"testing"

	"backwater/api"
	"backwater/disk"
	"backwater/journal"
	"backwater/record"
	"backwater/tree"
)

// holding is a disk whose journal has groups.
func holding(t *testing.T, groups ...[][]byte) *disk.Disk {
	t.Helper()
	j := journal.Open(disk.New(api.MaxSectors))
	for _, g := range groups {
		wantErr(t, j.Append(g), api.OK)
	}
	return j.Disk()
}

// snapshotBytes are those of a snapshot.
func snapshotBytes(t *testing.T, s api.Snapshot) []byte {
	t.Helper()
	b, err := record.Snapshot(s)
	wantErr(t, err, api.OK)
	return b
}

// rootBytes are those of the snapshot at first.
func rootBytes(t *testing.T) []byte {
	return snapshotBytes(t, api.Snapshot{Tree: tree.New(), Versions: []api.Stamp{stamp(1, 1, 0)}})
}

// numbers is the head of a group's second part, for numbers of all sizes.
func numbers(version uint64, done ...uint32) string {
	b := make([]byte, 0, 20)
	for i := 7; i >= 0; i-- {
		b = append(b, byte(version>>(8*i)))
	}
	for _, n := range done {
		b = append(b, byte(n>>24), byte(n>>16), byte(n>>8), byte(n))
	}
	return string(b)
}

// wantFirst asks that a disk with a group is opened as if there were nothing.
func wantFirst(t *testing.T, why string, g ...[]byte) {
	t.Helper()
	if s := Open(holding(t, g)); !same(s, Open(disk.New(8))) {
		t.Errorf("%s: the server has %v, %d, %v", why, s.Snapshot(), s.Applied(1), s.Rejected())
	}
}

func TestWhatIsKept(t *testing.T) { // the words 'to keep it', P12.2
	s := opened(t)
	wantShip(t, s, 2, 1, []api.Record{create(0x01020304, 1, "f"), rec(api.Op{Kind: api.Rename, At: 7, Name: "ab", To: 8, Name2: "c"}, 0x1112131415161718)}, api.OK, api.ErrNoent)
	wantShip(t, s, 3, 1, []api.Record{store(0x01020304, "xyz", 9)}, api.ErrStale)
	groups := journal.Open(s.Disk()).Groups()
	if len(groups) != 1 || len(groups[0]) != 2 {
		t.Fatalf("kept are %v", groups)
	}
	if want := snapshotBytes(t, s.Snapshot()); !bytes.Equal(groups[0][0], want) {
		t.Errorf("the snapshot is kept as %q, want %q", groups[0][0], want)
	}
	want := "\x00\x00\x00\x00\x00\x00\x00\x02" + "\x00\x00\x00\x00" + "\x00\x00\x00\x02" + "\x00\x00\x00\x01" + "\x02" +
		"\x02" + "\x00\x00\x00\x02" + "\x05" + "\x01" + "\x11\x12\x13\x14\x15\x16\x17\x18" +
		"\x07" + "\x00\x00\x00\x00" + "\x00\x00\x00\x07" + "\x02ab" + "\x00\x00\x00\x08" + "\x01c" + "\x00\x00" + "\x00" +
		"\x03" + "\x00\x00\x00\x01" + "\x0c" + "\x01" + "\x00\x00\x00\x00\x00\x00\x00\x09" +
		"\x08" + "\x01\x02\x03\x04" + "\x00\x00\x00\x00" + "\x00" + "\x00\x00\x00\x00" + "\x00" + "\x00\x00" + "\x03xyz"
	if got := string(groups[0][1]); got != want {
		t.Errorf("the rest is kept as %q, want %q", got, want)
	}
	if len(s.Disk().Loose()) > 0 {
		t.Error("not all of it is on the disk")
	}
}

func TestOpenOfWhatWasKept(t *testing.T) { // P12.1
	v := "\x02\x00\x00\x00\x07\x06\x01" + "\x00\x00\x00\x00\x00\x00\x00\x05" + "\x09\x00\x00\x00\x09" + "\x00\x00\x00\x00\x00\x00\x00\x00\x00\x00\x01\x02\x00"
	s := Open(holding(t, [][]byte{rootBytes(t), []byte(numbers(0x0102030405060708, 0x01020304, 0xfffffffe, 6) + "\x01" + v)}))
	if s.Applied(1) != 0x01020304 || s.Applied(2) != 0xfffffffe || s.Applied(3) != 6 {
		t.Errorf("done were %d, %d, %d", s.Applied(1), s.Applied(2), s.Applied(3))
	}
	wantRejected(t, s, api.Verdict{Client: 2, Number: 7, Err: api.ErrExist, Record: chmod(9, 0x0102, 5)})
	wantShip(t, s, 2, 6, records(3), api.OK, api.ErrExist, api.OK)
	wantShip(t, s, 3, 7, []api.Record{mkdir(9, "d")}, api.OK)
	wantVersions(t, s, stamp(1, 1, 0), stamp(9, 0x0102030405060709, 3))
	wantSame(t, Open(s.Disk()), s)
}

func TestTheLastGroupCounts(t *testing.T) { // P12.1
	group := func(done uint32) [][]byte { return [][]byte{rootBytes(t), []byte(numbers(1, done, 0, 0) + "\x00")} }
	if s := Open(holding(t, group(5), group(7), group(6))); s.Applied(1) != 6 {
		t.Errorf("%d were done", s.Applied(1))
	}
	s := Open(holding(t, group(5), [][]byte{[]byte("no state")}))
	if s.Applied(1) != 0 {
		t.Errorf("%d were done: the last group says nothing, and the others do not count", s.Applied(1))
	}
	wantShip(t, s, 1, 1, []api.Record{mkdir(9, "d")}, api.OK) // it goes on from there
	wantSame(t, Open(s.Disk()), s)
	if n := len(journal.Open(s.Disk()).Groups()); n != 1 {
		t.Errorf("%d groups are kept", n)
	}
}

// fullState is a state with something of all kinds.
func fullState(t *testing.T) [][]byte {
	t.Helper()
	s := opened(t)
	wantShip(t, s, 1, 1, []api.Record{mkdir(9, "d"), create(10, 9, "f"), unlink("no"), store(10, "abc", 3), store(9, "x", 0)},
		api.OK, api.OK, api.ErrNoent, api.OK, api.ErrIsdir)
	wantShip(t, s, 3, 1, []api.Record{chmod(10, 7, 3)}, api.ErrStale)
	return s.group()
}

func TestOpenOfTheWrong(t *testing.T) { // P12.1
	root, g := rootBytes(t), fullState(t)
	if s := Open(holding(t, g)); s.Applied(1) != 5 || len(s.Rejected()) != 3 {
		t.Fatal("what is right is refused")
	}
	wantFirst(t, "one part", g[0])
	wantFirst(t, "the other part", g[1])
	wantFirst(t, "three parts", g[0], g[1], nil)
	wantFirst(t, "turned", g[1], g[0])
	wantFirst(t, "no snapshot", nil, g[1])
	wantFirst(t, "a cut snapshot", g[0][:len(g[0])-1], g[1])
	wantFirst(t, "a snapshot with more behind", append(slices.Clone(g[0]), 0), g[1])
	wantFirst(t, "nothing behind", g[0], nil)
	wantFirst(t, "more behind", g[0], append(slices.Clone(g[1]), 0))
	for size := range len(g[1]) {
		wantFirst(t, "cut", g[0], g[1][:size])
	}
	record := "\x01" + "\x00\x00\x00\x00\x00\x00\x00\x05" + "\x09\x00\x00\x00\x09" + "\x00\x00\x00\x00\x00\x00\x00\x00\x00\x00\x01\x02\x00"
	head := numbers(1, 70, 70, 70)
	for why, rest := range map[string]string{
		"no count":             "",
		"a verdict too few":    "\x02" + "\x01\x00\x00\x00\x01\x05" + record,
		"a verdict too many":   "\x01" + strings.Repeat("\x01\x00\x00\x00\x01\x05"+record, 2),
		"too many verdicts":    "\x41" + strings.Repeat("\x01\x00\x00\x00\x01\x05"+record, 65),
		"client 0":             "\x01" + "\x00\x00\x00\x00\x01\x05" + record,
		"a client too many":    "\x01" + "\x04\x00\x00\x00\x01\x05" + record,
		"number 0":             "\x01" + "\x01\x00\x00\x00\x00\x05" + record,
		"what was not done":    "\x01" + "\x01\x00\x00\x00\x47\x05" + record,
		"what was not refused": "\x01" + "\x01\x00\x00\x00\x01\x00" + record,
		"no error":             "\x01" + "\x01\x00\x00\x00\x01\x0f" + record,
		"no record":            "\x01" + "\x01\x00\x00\x00\x01\x05\x00",
		"two records":          "\x01" + "\x01\x00\x00\x00\x01\x05\x02" + record[1:] + record[1:],
		"two said, one there":  "\x01" + "\x01\x00\x00\x00\x01\x05\x02" + record[1:],
		"a wrong operation":    "\x01" + "\x01\x00\x00\x00\x01\x05" + record[:9] + "\x0a" + record[10:],
		"a text that is cut":   "\x01" + "\x01\x00\x00\x00\x01\x05" + record[:len(record)-1] + "\x01",
	} {
		wantFirst(t, why, root, []byte(head+rest))
	}
	if s := Open(holding(t, [][]byte{root, []byte(head + "\x40" + strings.Repeat("\x01\x00\x00\x00\x46\x0e"+record, 64))})); len(s.Rejected()) != 64 || s.Applied(3) != 70 {
		t.Error("what stands at the edges is refused")
	}
	newer := api.Snapshot{Tree: tree.New(), Versions: []api.Stamp{stamp(1, 9, 3)}}
	wantFirst(t, "a version that was not given yet", snapshotBytes(t, newer), []byte(numbers(8, 0, 0, 0)+"\x00"))
	if s := Open(holding(t, [][]byte{snapshotBytes(t, newer), []byte(numbers(9, 0, 0, 0) + "\x00")})); s.Snapshot().Versions[0] != stamp(1, 9, 3) {
		t.Error("the version that was given last is refused")
	}
}

func TestOpenOfAnyBytes(t *testing.T) { // P1, P12.1
	chance := rand.New(rand.NewPCG(12, 1))
	g := fullState(t)
	read := 0
	for range 3000 {
		first, second := slices.Clone(g[0]), slices.Clone(g[1])
		for range chance.IntN(3) {
			second[chance.IntN(len(second))] = byte(chance.IntN(256))
		}
		if chance.IntN(4) == 0 {
			first[chance.IntN(len(first))]++
		}
		s := Open(holding(t, [][]byte{first, second}))
		if kept := s.group(); bytes.Equal(kept[0], first) && bytes.Equal(kept[1], second) {
			read++
		} else if !same(s, Open(disk.New(8))) {
			t.Fatalf("of %q, %q the server has %v", first, second, s.Snapshot())
		}
		s.Ship(1, 1, records(6))
		s.Torn(2, 1, records(6), 0, nil)
	}
	if read == 0 {
		t.Error("nothing could be read")
	}
}

func TestGreatNumbers(t *testing.T) { // P12.2, P5
	const most = math.MaxUint32
	s := Open(holding(t, [][]byte{rootBytes(t), []byte(numbers(1, most-3, most-1, most) + "\x00")}))
	wantNoShip(t, s, 1, most-2, records(3), api.ErrRange) // of three the last number would be the greatest one
	wantNoShip(t, s, 1, most-1, nil, api.ErrRange)        // one is passed over
	wantShip(t, s, 1, most-2, records(2), api.ErrNoent, api.ErrNoent)
	wantShip(t, s, 1, most-2, records(2), api.ErrNoent, api.ErrNoent)
	wantNoShip(t, s, 1, most-2, records(3), api.ErrRange)
	if s.Applied(1) != most-1 {
		t.Errorf("%d were done", s.Applied(1))
	}
	for _, client := range []uint8{1, 2, 3} {
		wantShip(t, s, client, most, nil)
		for n := 1; n <= api.MaxChunk; n++ {
			wantNoShip(t, s, client, most, records(n), api.ErrRange)
			wantNoShip(t, s, client, most-uint32(n)+1, records(n), api.ErrRange)
			wantErr(t, s.Torn(client, most, records(n), 7, nil), api.ErrRange)
		}
	}
	wantShip(t, s, 3, most-1, records(1), api.OK)
	wantShip(t, s, 3, most-6, records(6), slices.Repeat([]api.Errno{api.OK}, 6)...)
}

func TestGreatVersions(t *testing.T) { // P5
	s := Open(holding(t, [][]byte{rootBytes(t), []byte(numbers(math.MaxUint64-1, 0, 0, 0) + "\x00")}))
	wantNoShip(t, s, 1, 1, []api.Record{mkdir(9, "d"), mkdir(10, "e")}, api.ErrRange)
	wantShip(t, s, 1, 1, []api.Record{mkdir(9, "d")}, api.OK)
	wantVersions(t, s, stamp(1, 1, 0), stamp(9, math.MaxUint64, 1))
	wantNoShip(t, s, 1, 2, []api.Record{mkdir(10, "e")}, api.ErrRange)
	wantErr(t, s.Torn(1, 2, []api.Record{mkdir(10, "e")}, 0, nil), api.ErrRange)
	wantShip(t, s, 1, 2, []api.Record{unlink("no"), rec(api.Op{Kind: api.Rmdir, At: 1, Name: "d"}, 0)}, api.ErrNoent, api.OK) // these need none
	wantSame(t, Open(s.Disk()), s)
}

func TestTornOfTheWrong(t *testing.T) { // P12.3, P2
	s := opened(t)
	wantShip(t, s, 1, 1, records(2), api.ErrNoent, api.ErrNoent)
	ahead := s.Fork()
	for _, step := range []int{0, 1, 2, -1} {
		wantErr(t, s.Torn(0, 1, records(1), step, nil), api.ErrRange)
		wantErr(t, s.Torn(4, 1, nil, step, nil), api.ErrRange)
		wantErr(t, s.Torn(1, 0, records(1), step, nil), api.ErrRange)
		wantErr(t, s.Torn(1, 1, make([]api.Record, 1), step, nil), api.ErrForm) // named ahead of ErrRange
		wantErr(t, s.Torn(1, 3, records(7), step, nil), api.ErrForm)
		wantErr(t, s.Torn(1, 4, records(1), step, nil), api.ErrRange)
		wantErr(t, Open(disk.New(8)).Torn(1, 1, records(1), step, nil), api.ErrSpace) // it is an error of Ship
	}
	for _, step := range []int{2, -1, math.MaxInt, math.MinInt} {
		wantErr(t, s.Torn(1, 3, records(1), step, []int{0, 1}), api.ErrRange)
		wantErr(t, s.Torn(1, 1, records(1), step, nil), api.ErrRange) // though no record would be done
		wantErr(t, s.Torn(1, 3, nil, step, nil), api.ErrRange)
	}
	wantSame(t, s, ahead)
	wantSame(t, Open(s.Disk()), ahead)
}

func TestTornOfNothing(t *testing.T) { // P12.3
	s := opened(t)
	wantShip(t, s, 1, 1, records(2), api.ErrNoent, api.ErrNoent)
	ahead := s.Fork()
	for _, step := range []int{0, 1} {
		wantErr(t, s.Torn(1, 1, records(2), step, []int{0, 1}), api.OK)
		wantErr(t, s.Torn(1, 3, nil, step, nil), api.OK)
		wantErr(t, s.Torn(2, 1, nil, step, nil), api.OK)
		wantSame(t, s, ahead)
		for i := range 2 {
			got, _ := s.Disk().Read(i)
			if want, _ := ahead.Disk().Read(i); got != want {
				t.Errorf("sector %d was written", i)
			}
		}
	}
}

// allBut are the numbers of all sectors but one.
func allBut(size, one int) []int {
	var l []int
	for i := range size {
		if i != one {
			l = append(l, i)
		}
	}
	return l
}

func TestTorn(t *testing.T) { // P12.3, P12.6, E4
	const size = 120
	s := Open(disk.New(size))
	number := uint32(1)
	for round := range 4 { // so that both areas come in turn
		l := []api.Record{create(api.Fid(20+round), 1, "f"+string(rune('a'+round))), unlink("no")}
		behind := s.Fork()
		wantShip(t, behind, 2, number, l, api.OK, api.ErrNoent)
		for _, step := range []int{0, 1} {
			wantTorn(t, s, number, l, step, nil, s)
			wantTorn(t, s, number, l, step, allBut(size, -1), map[int]*Server{0: s, 1: behind}[step])
			for i := range size {
				wantTorn(t, s, number, l, step, []int{i}, whichOf(i == (round+1)%2 && step == 1, behind, s))
				wantTorn(t, s, number, l, step, allBut(size, i), whichOf(i != (round+1)%2 && step == 1, behind, s))
			}
		}
		s, number = behind, number+2
	}
}

// whichOf is one of two.
func whichOf(first bool, a, b *Server) *Server {
	if first {
		return a
	}
	return b
}

// wantTorn tears records of client 2 off a fork, and asks what it is behind that: the power came back, and the disk tells it.
func wantTorn(t *testing.T, s *Server, number uint32, l []api.Record, step int, keep []int, want *Server) {
	t.Helper()
	f := s.Fork()
	wantErr(t, f.Torn(2, number, l, step, keep), api.OK)
	wantSame(t, f, want)
	wantSame(t, Open(f.Disk()), want)
	if len(f.Disk().Loose()) > 0 {
		t.Error("something stands in the buffer")
	}
	if errs, err := f.Ship(2, number, l); err != api.OK || !slices.Equal(errs, []api.Errno{api.OK, api.ErrNoent}) {
		t.Errorf("behind it they are answered by %v, error %d", errs, err)
	}
	if f.Applied(2) != number+1 {
		t.Errorf("behind it %d were done", f.Applied(2))
	}
}

func TestTornForgetsWhatCanNotBe(t *testing.T) { // P12.3: the server is Open of its disk
	s := Open(holding(t, [][]byte{[]byte("no state")}))
	wantErr(t, s.Torn(1, 1, records(1), 1, nil), api.OK)
	wantSame(t, s, Open(disk.New(8)))
	wantErr(t, s.Torn(1, 1, records(1), 1, []int{0, 1}), api.OK)
	if s.Applied(1) != 1 {
		t.Error("what came onto the disk is not there")
	}
}
