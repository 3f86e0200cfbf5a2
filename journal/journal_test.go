package journal

import (
	"bytes"
	"encoding/binary"
	"hash/fnv"
	"math"
	"math/rand/v2"
	"slices"
	"strings"
	"testing"

	"backwater/api"
	"backwater/disk"
)

// group is one of parts that are texts.
func group(parts ...string) [][]byte {
	var g [][]byte
	for _, p := range parts {
		g = append(g, []byte(p))
	}
	return g
}

// sameGroups tells whether groups are the same; nil is like empty.
func sameGroups(a, b [][][]byte) bool {
	return slices.EqualFunc(a, b, func(g, h [][]byte) bool { return slices.EqualFunc(g, h, bytes.Equal) })
}

// opened is a journal on a new disk of n sectors.
func opened(t *testing.T, n int) *Journal {
	t.Helper()
	j := Open(disk.New(n))
	if j == nil {
		t.Fatalf("Open of %d sectors is nil", n)
	}
	return j
}

func wantOK(t *testing.T, err api.Errno) {
	t.Helper()
	if err != api.OK {
		t.Fatalf("error %d", err)
	}
}

func wantErr(t *testing.T, err, want api.Errno) {
	t.Helper()
	if err != want {
		t.Errorf("error %d, want %d", err, want)
	}
}

func wantGroups(t *testing.T, j *Journal, want ...[][]byte) {
	t.Helper()
	if got := j.Groups(); !sameGroups(got, want) {
		t.Errorf("groups are %q, want %q", got, want)
	}
}

// The sectors by the document's words, reckoned apart from the program.

func summed(b []byte) disk.Sector {
	h := fnv.New32a()
	h.Write(b)
	var s disk.Sector
	copy(s[:], binary.LittleEndian.AppendUint32(slices.Clone(b), h.Sum32()))
	return s
}

func reckonHead(turn uint32) disk.Sector {
	return summed(binary.LittleEndian.AppendUint32([]byte{'H'}, turn))
}

func reckonFirst(turn, number uint32, parts byte, length uint32) disk.Sector {
	b := binary.LittleEndian.AppendUint32([]byte{'G'}, turn)
	b = append(binary.LittleEndian.AppendUint32(b, number), parts)
	return summed(binary.LittleEndian.AppendUint32(b, length))
}

func reckonLast(turn, number uint32) disk.Sector {
	b := binary.LittleEndian.AppendUint32([]byte{'C'}, turn)
	return summed(binary.LittleEndian.AppendUint32(b, number))
}

func reckonLoad(load []byte) []disk.Sector {
	var list []disk.Sector
	for len(load) > 0 {
		s := disk.Sector{'D'}
		n := copy(s[1:], load)
		list, load = append(list, s), load[n:]
	}
	return list
}

func reckonBytes(g [][]byte) []byte {
	var load []byte
	for _, p := range g {
		load = append(binary.LittleEndian.AppendUint32(load, uint32(len(p))), p...)
	}
	return load
}

func reckonGroup(turn, number uint32, g [][]byte) []disk.Sector {
	load := reckonBytes(g)
	list := []disk.Sector{reckonFirst(turn, number, byte(len(g)), uint32(len(load)))}
	return append(append(list, reckonLoad(load)...), reckonLast(turn, number))
}

// written is a disk of n sectors on which sectors stand from places on.
func written(n int, at map[int][]disk.Sector) *disk.Disk {
	d := disk.New(n)
	for i, list := range at {
		for k, s := range list {
			d.Write(i+k, s)
		}
	}
	d.Flush()
	return d
}

func sectorsOfDisk(d *disk.Disk) []disk.Sector {
	var list []disk.Sector
	for i := range d.Size() {
		s, _ := d.Read(i)
		list = append(list, s)
	}
	return list
}

// wantDisk asks for what all sectors hold, and that none is loose.
func wantDisk(t *testing.T, j *Journal, n int, at map[int][]disk.Sector) {
	t.Helper()
	d := j.Disk()
	got, want := sectorsOfDisk(d), sectorsOfDisk(written(n, at))
	if len(got) != len(want) {
		t.Fatalf("%d sectors, want %d", len(got), len(want))
	}
	for i := range got {
		if got[i] != want[i] {
			t.Errorf("sector %d holds\n%v, want\n%v", i, got[i], want[i])
		}
	}
	if len(d.Loose()) != 0 {
		t.Errorf("loose are %v", d.Loose())
	}
}

func TestOpen(t *testing.T) { // P5.1
	if Open(nil) != nil {
		t.Error("Open(nil) is not nil")
	}
	for n := 1; n < 8; n++ {
		if Open(disk.New(n)) != nil {
			t.Errorf("Open of %d sectors is not nil", n)
		}
	}
	for n, free := range map[int]int{8: 3, 9: 3, 10: 4, 11: 4, 30: 14, 31: 14, api.MaxSectors - 1: 1022, api.MaxSectors: 1023} {
		j := opened(t, n)
		wantGroups(t, j)
		if j.Free() != free || j.Disk().Size() != n {
			t.Errorf("%d sectors: %d free, want %d", n, j.Free(), free)
		}
	}
}

func TestOpenIsOverAFork(t *testing.T) { // P5.1, P4
	d := disk.New(20)
	j := Open(d)
	wantOK(t, j.Append(group("a")))
	if s, _ := d.Read(2); s != (disk.Sector{}) {
		t.Error("the journal writes to the disk that was handed in")
	}
	for i := range 20 {
		d.Write(i, disk.Sector{9})
	}
	d.Flush()
	wantGroups(t, j, group("a"))
}

func TestOpenWithLooseSectors(t *testing.T) { // P5.1: a Fork has its buffer too
	d := disk.New(20)
	for i, s := range reckonGroup(0, 1, group("loose")) {
		d.Write(2+i, s)
	}
	j := Open(d)
	wantGroups(t, j, group("loose"))
	if got := j.Disk().Loose(); !slices.Equal(got, []int{2, 3, 4}) {
		t.Errorf("loose are %v", got)
	}
	f := j.Fork()
	wantOK(t, f.Append(group("b")))
	wantGroups(t, f, group("loose"), group("b"))
	wantOK(t, j.Torn(group("b"), false, 0, nil))
	wantGroups(t, j)
}

func TestNeed(t *testing.T) { // P5.1, example 1
	part := func(n int) []byte { return make([]byte, n) }
	for _, c := range []struct {
		g    [][]byte
		want int
	}{
		{nil, 0},
		{[][]byte{}, 0},
		{[][]byte{nil}, 3},
		{[][]byte{{}}, 3},
		{[][]byte{part(27)}, 3},
		{[][]byte{part(28)}, 4},
		{[][]byte{part(58)}, 4},
		{[][]byte{part(59)}, 5},
		{[][]byte{part(23), nil}, 3},
		{[][]byte{part(23), part(1)}, 4},
		{make([][]byte, 7), 3},
		{make([][]byte, api.MaxGroup), 4},
		{make([][]byte, api.MaxGroup+1), 0},
		{make([][]byte, 256), 0},
		{make([][]byte, 257), 0},
		{[][]byte{part(api.MaxPart)}, 2 + 529},
		{[][]byte{part(api.MaxPart + 1)}, 0},
		{[][]byte{nil, part(api.MaxPart + 1)}, 0},
		{slices.Repeat([][]byte{part(api.MaxPart)}, api.MaxGroup), 2 + 4230},
		{slices.Repeat([][]byte{part(api.MaxPart)}, api.MaxGroup+1), 0},
	} {
		if got := Need(c.g); got != c.want {
			t.Errorf("Need of %d parts = %d, want %d", len(c.g), got, c.want)
		}
	}
}

func TestAppendWrites(t *testing.T) { // P5.2, P5.4
	for _, n := range []int{40, 41} {
		j := opened(t, n)
		one, two := group("one"), group("two", "", strings.Repeat("x", 40))
		wantOK(t, j.Append(one))
		wantDisk(t, j, n, map[int][]disk.Sector{2: reckonGroup(0, 1, one)})
		wantGroups(t, j, one)
		wantOK(t, j.Append(two))
		wantDisk(t, j, n, map[int][]disk.Sector{2: reckonGroup(0, 1, one), 5: reckonGroup(0, 2, two)})
		wantGroups(t, j, one, two)
		if j.Free() != 19-3-4 {
			t.Errorf("%d free", j.Free())
		}
	}
}

func TestResetWrites(t *testing.T) { // P5.2, P5.4
	for _, n := range []int{40, 41} {
		j := opened(t, n)
		a, b, c, d, e := group("a"), group("b", "bb"), group("c"), group(strings.Repeat("d", 28)), group("e")
		wantOK(t, j.Append(a))
		wantOK(t, j.Reset(b))
		at := map[int][]disk.Sector{1: {reckonHead(1)}, 2: reckonGroup(0, 1, a), 21: reckonGroup(1, 1, b)}
		wantDisk(t, j, n, at)
		wantGroups(t, j, b)
		if j.Free() != 16 {
			t.Errorf("%d free", j.Free())
		}
		wantOK(t, j.Append(c))
		at[24] = reckonGroup(1, 2, c)
		wantDisk(t, j, n, at)
		wantGroups(t, j, b, c)
		wantOK(t, j.Reset(d))
		at[0], at[2] = []disk.Sector{reckonHead(2)}, reckonGroup(2, 1, d)
		wantDisk(t, j, n, at)
		wantGroups(t, j, d)
		wantOK(t, j.Reset(e))
		at[1], at[21] = []disk.Sector{reckonHead(3)}, reckonGroup(3, 1, e)
		wantDisk(t, j, n, at)
		wantGroups(t, j, e) // c of the first turn there is no group any more
		if j.Free() != 16 {
			t.Errorf("%d free", j.Free())
		}
	}
}

func TestErrors(t *testing.T) { // P5.2, P5.3, P2
	j := opened(t, 20) // areas of 9 sectors
	wantOK(t, j.Append(group("one")))
	before := sectorsOfDisk(j.Disk())
	tooMany, tooLong := make([][]byte, api.MaxGroup+1), [][]byte{make([]byte, api.MaxPart+1)}
	for _, g := range [][][]byte{nil, {}, tooMany, tooLong} {
		wantErr(t, j.Append(g), api.ErrRange)
		wantErr(t, j.Reset(g), api.ErrRange)
		for step := range 2 {
			wantErr(t, j.Torn(g, false, step, []int{2}), api.ErrRange)
			wantErr(t, j.Torn(g, true, step, []int{2}), api.ErrRange)
		}
	}
	seven, ten := [][]byte{make([]byte, 5*31-4)}, [][]byte{make([]byte, 8*31-4)}
	wantErr(t, j.Append(seven), api.ErrSpace)
	wantErr(t, j.Reset(ten), api.ErrSpace)
	for step := range 2 {
		wantErr(t, j.Torn(seven, false, step, []int{2}), api.ErrSpace)
		wantErr(t, j.Torn(ten, true, step, []int{2}), api.ErrSpace)
	}
	for _, step := range []int{-1, 2, 3, math.MinInt, math.MaxInt} {
		wantErr(t, j.Torn(group("x"), false, step, []int{2}), api.ErrRange)
		wantErr(t, j.Torn(group("x"), true, step, []int{2}), api.ErrRange)
		wantErr(t, j.Torn(ten, true, step, nil), api.ErrRange) // ahead of ErrSpace
	}
	if !slices.Equal(sectorsOfDisk(j.Disk()), before) {
		t.Error("an error has changed the disk")
	}
	wantOK(t, j.Fork().Reset(seven))
	wantGroups(t, j, group("one"))
}

func TestRoom(t *testing.T) { // P5.2: up to the last sector, and no further
	j := opened(t, 20)
	nine := [][]byte{make([]byte, 7*31-4)}
	f := j.Fork()
	wantOK(t, f.Append(nine))
	wantGroups(t, f, nine)
	if f.Free() != 0 {
		t.Errorf("%d free", f.Free())
	}
	wantErr(t, f.Append(group("")), api.ErrSpace)
	wantOK(t, f.Reset(nine))
	wantGroups(t, f, nine)
	wantOK(t, f.Reset(nine))
	wantGroups(t, f, nine)
	for i := range 3 {
		wantOK(t, j.Append(group("x")))
		if j.Free() != 9-3*(i+1) {
			t.Errorf("%d free", j.Free())
		}
	}
	wantErr(t, j.Append(group("")), api.ErrSpace)
	wantGroups(t, j, group("x"), group("x"), group("x"))
	k := opened(t, 8)
	wantOK(t, k.Append(group("")))
	wantOK(t, k.Reset(group("y")))
	wantErr(t, k.Reset([][]byte{make([]byte, 28)}), api.ErrSpace)
	wantGroups(t, k, group("y"))
}

func TestGreatGroups(t *testing.T) { // P5.2: parts up to MaxPart, groups up to MaxGroup
	j := opened(t, api.MaxSectors)
	long := [][]byte{bytes.Repeat([]byte("abc"), api.MaxPart)[:api.MaxPart], []byte("behind")}
	wantOK(t, j.Append(long))
	wide := group("1", "", "3", "", "", "6", "7", "8")
	wantOK(t, j.Append(wide))
	wantGroups(t, j, long, wide)
	wantErr(t, j.Append(long), api.ErrSpace)
	wantErr(t, j.Reset([][]byte{long[0], long[0]}), api.ErrSpace)
	wantOK(t, j.Reset(long))
	wantGroups(t, j, long)
}

func TestLastTurn(t *testing.T) { // P5.2, P5
	j := Open(written(20, map[int][]disk.Sector{1: {reckonHead(math.MaxUint32 - 1)}}))
	wantOK(t, j.Append(group("a")))
	wantOK(t, j.Reset(group("b")))
	if s, _ := j.Disk().Read(0); s != reckonHead(math.MaxUint32) {
		t.Error("the last turn is not there")
	}
	wantErr(t, j.Reset(group("c")), api.ErrSpace)
	wantErr(t, j.Torn(group("c"), true, 1, []int{1}), api.ErrSpace)
	wantErr(t, j.Reset(nil), api.ErrRange)
	wantGroups(t, j, group("b"))
	wantOK(t, j.Append(group("c")))
	wantGroups(t, j, group("b"), group("c"))
}

func TestAreaThatCounts(t *testing.T) { // P5.1
	a, b := group("area 0"), group("area 1")
	notZero := reckonHead(7)
	notZero[31] = 1
	other := reckonHead(7)
	other[0] = 'h'
	wrongSum := reckonHead(7)
	wrongSum[5]++
	otherMark := summed([]byte{'G', 7, 0, 0, 0})
	for i, c := range []struct {
		heads  [2]disk.Sector
		turns  [2]uint32
		wanted [][]byte
		free   int
	}{
		{[2]disk.Sector{}, [2]uint32{0, 0}, a, 6},
		{[2]disk.Sector{reckonHead(1)}, [2]uint32{1, 0}, a, 6},
		{[2]disk.Sector{{}, reckonHead(1)}, [2]uint32{0, 1}, b, 6},
		{[2]disk.Sector{reckonHead(2), reckonHead(1)}, [2]uint32{2, 1}, a, 6},
		{[2]disk.Sector{reckonHead(1), reckonHead(2)}, [2]uint32{1, 2}, b, 6},
		{[2]disk.Sector{reckonHead(5), reckonHead(5)}, [2]uint32{5, 5}, a, 6},
		{[2]disk.Sector{reckonHead(255), reckonHead(256)}, [2]uint32{255, 256}, b, 6},
		{[2]disk.Sector{reckonHead(math.MaxUint32), reckonHead(1)}, [2]uint32{math.MaxUint32, 1}, a, 6},
		{[2]disk.Sector{reckonHead(math.MaxUint32), reckonHead(1)}, [2]uint32{2, 1}, nil, 9},
		{[2]disk.Sector{reckonHead(0), reckonHead(0)}, [2]uint32{0, 0}, a, 6},
		{[2]disk.Sector{{}, reckonHead(0)}, [2]uint32{0, 0}, a, 6},
		{[2]disk.Sector{reckonHead(3), notZero}, [2]uint32{3, 7}, a, 6},
		{[2]disk.Sector{reckonHead(3), other}, [2]uint32{3, 7}, a, 6},
		{[2]disk.Sector{reckonHead(3), wrongSum}, [2]uint32{3, 7}, a, 6},
		{[2]disk.Sector{reckonHead(3), otherMark}, [2]uint32{3, 7}, a, 6},
		{[2]disk.Sector{notZero, reckonHead(3)}, [2]uint32{7, 3}, b, 6},
		{[2]disk.Sector{notZero, wrongSum}, [2]uint32{0, 7}, a, 6},
	} {
		j := Open(written(20, map[int][]disk.Sector{0: c.heads[:], 2: reckonGroup(c.turns[0], 1, a), 11: reckonGroup(c.turns[1], 1, b)}))
		var want [][][]byte
		if c.wanted != nil {
			want = append(want, c.wanted)
		}
		if got := j.Groups(); !sameGroups(got, want) || j.Free() != c.free {
			t.Errorf("heads %d: groups are %q, %d free", i, got, j.Free())
		}
	}
}

func TestResetOfHeadsThatAreAlike(t *testing.T) { // P5.2, P6: area 0 counts, so area 1 is the other one
	j := Open(written(20, map[int][]disk.Sector{0: {reckonHead(5), reckonHead(5)}, 2: reckonGroup(5, 1, group("a"))}))
	wantOK(t, j.Reset(group("b")))
	wantGroups(t, j, group("b"))
	if s, _ := j.Disk().Read(1); s != reckonHead(6) {
		t.Error("head 1 is not of the next turn")
	}
}

// wantCount asks that of three groups, the second one of which lies there as sectors, so many count.
func wantCount(t *testing.T, what string, second []disk.Sector, want int) {
	t.Helper()
	one, three := group("one"), group("three")
	j := Open(written(60, map[int][]disk.Sector{1: {reckonHead(4)}, 31: reckonGroup(4, 1, one), 34: second, 34 + len(second): reckonGroup(4, 3, three)}))
	if got := j.Groups(); len(got) != want || !sameGroups(got[:1], [][][]byte{one}) {
		t.Errorf("%s: groups are %q, want %d", what, got, want)
	}
	used := 3
	if want == 3 {
		used = 3 + len(second) + 3
	}
	if j.Free() != 29-used {
		t.Errorf("%s: %d free, want %d", what, j.Free(), 29-used)
	}
}

func TestGroupsThatAreNotRight(t *testing.T) { // P5.1
	two := group("two", strings.Repeat("t", 30))
	right := reckonGroup(4, 2, two)
	wantCount(t, "right", right, 3)
	for i := range right {
		for k := range api.SectorSize * 8 {
			at := k / 8
			if i == 1 && (at >= 5 && at <= 7 || at >= 12) || i == 2 && at >= 1 && at <= 10 {
				continue // a byte of a part: no sum stands over it
			}
			bad := slices.Clone(right)
			bad[i][at] ^= 1 << (k % 8)
			wantCount(t, "a bit turned", bad, 1)
		}
		bad := slices.Clone(right)
		bad[i] = disk.Sector{}
		wantCount(t, "a sector lost", bad, 1)
	}
	for _, c := range [][2]uint32{{3, 2}, {5, 2}, {0, 2}, {4, 1}, {4, 3}, {4, 0}, {4, 258}} {
		wantCount(t, "another turn or number", reckonGroup(c[0], c[1], two), 1)
		bad := slices.Clone(right)
		bad[0] = reckonGroup(c[0], c[1], two)[0]
		wantCount(t, "another turn or number of the first sector", bad, 1)
		bad = slices.Clone(right)
		bad[3] = reckonLast(c[0], c[1])
		wantCount(t, "another turn or number of the last sector", bad, 1)
	}
	wantCount(t, "no first sector", right[1:], 1)
	wantCount(t, "no last sector", right[:3], 1)
}

// custom is a group of turn 4 and number 2 whose first sector says what is asked for, whatever its load is.
func custom(parts byte, length uint32, load []byte) []disk.Sector {
	list := append([]disk.Sector{reckonFirst(4, 2, parts, length)}, reckonLoad(load)...)
	return append(list, reckonLast(4, 2))
}

func TestLoadsThatAreNotRight(t *testing.T) { // P5.1
	load := reckonBytes(group("two", "2"))
	n := uint32(len(load))
	wantCount(t, "right", custom(2, n, load), 3)
	wantCount(t, "no parts", custom(0, n, load), 1)
	wantCount(t, "a part less", custom(1, n, load), 1)
	wantCount(t, "a part more", custom(3, n, load), 1)
	wantCount(t, "a part of nothing more", custom(3, n+4, load), 3) // four bytes 0 are one
	wantCount(t, "a load less long", custom(2, n-1, load), 1)
	wantCount(t, "a load longer", custom(2, n+1, load), 1)
	wantCount(t, "a load of two sectors in one", custom(2, 32, load), 1)
	wantCount(t, "a load of no length", custom(2, 0, load), 1)
	wantCount(t, "nothing at all", custom(0, 0, nil), 1)
	wantCount(t, "a load beyond the area", custom(2, 27*31, load), 1)
	wantCount(t, "the longest load", custom(2, math.MaxUint32, load), 1)
	wantCount(t, "a load without end", custom(2, math.MaxInt32, load), 1)
	wantCount(t, "not 0 behind", custom(2, n, append(slices.Clone(load), 0, 1)), 1)
	wantCount(t, "a part that goes on", custom(1, 6, []byte{3, 0, 0, 0, 'a', 'b'}), 1)
	wantCount(t, "a part without end", custom(1, 6, []byte{255, 255, 255, 255, 'a', 'b'}), 1)
	wantCount(t, "a length that is cut", custom(1, 3, []byte{0, 0, 0}), 1)
	wantCount(t, "eight parts", custom(8, 32, make([]byte, 32)), 3)
	wantCount(t, "nine parts", custom(9, 36, make([]byte, 36)), 1)
	bad := custom(8, 32, make([]byte, 32))
	bad[2][0] = 'd'
	wantCount(t, "no D", bad, 1)
}

func TestPartsThatAreTooLong(t *testing.T) { // P5.1
	for length, want := range map[int]int{api.MaxPart: 1, api.MaxPart + 1: 0} {
		g := [][]byte{bytes.Repeat([]byte{7}, length)}
		j := Open(written(api.MaxSectors, map[int][]disk.Sector{2: reckonGroup(0, 1, g)}))
		if len(j.Groups()) != want || j.Free() != 1023-want*531 {
			t.Errorf("a part of %d bytes: %d groups, %d free", length, len(j.Groups()), j.Free())
		}
	}
}

func TestGroupsEndWithTheArea(t *testing.T) { // P5.1: no group reaches into the other area, or behind the disk
	g := [][]byte{make([]byte, 8*31-4)} // 10 sectors, an area has 9
	wantGroups(t, Open(written(20, map[int][]disk.Sector{2: reckonGroup(0, 1, g)})))
	wantGroups(t, Open(written(21, map[int][]disk.Sector{1: {reckonHead(1)}, 11: reckonGroup(1, 1, g)})))
	wantGroups(t, Open(written(20, map[int][]disk.Sector{1: {reckonHead(1)}, 11: reckonGroup(1, 1, g)[:9]})))
	x, three := [][]byte{make([]byte, 6*31-4)}, group("three")
	wantGroups(t, Open(written(20, map[int][]disk.Sector{2: reckonGroup(0, 1, x), 10: reckonGroup(0, 2, three)})), x)
	nine := [][]byte{make([]byte, 7*31-4)}
	wantGroups(t, Open(written(20, map[int][]disk.Sector{2: reckonGroup(0, 1, nine), 11: reckonGroup(0, 2, three)})), nine)
}

// subsets goes through all lists of numbers from low to high.
func subsets(low, high int, yield func(keep []int)) {
	for bits := range 1 << (high - low + 1) {
		var keep []int
		for i := low; i <= high; i++ {
			if bits>>(i-low)&1 == 1 {
				keep = append(keep, i)
			}
		}
		yield(keep)
	}
}

// overlay are the sectors of a disk on which some of those of another one stand.
func overlay(under, over []disk.Sector, keep []int) []disk.Sector {
	list := slices.Clone(under)
	for _, i := range keep {
		list[i] = over[i]
	}
	return list
}

func TestTornAppend(t *testing.T) { // P5.3, P5.5
	j := opened(t, 20)
	one, two := group("one"), group("two", strings.Repeat("2", 30))
	wantOK(t, j.Append(one))
	whole := j.Fork()
	wantOK(t, whole.Append(two)) // sectors 5 to 8
	under, over := sectorsOfDisk(j.Disk()), sectorsOfDisk(whole.Disk())
	subsets(4, 9, func(keep []int) {
		first := j.Fork()
		wantOK(t, first.Torn(two, false, 0, keep))
		wantGroups(t, first, one)
		ahead := slices.DeleteFunc(slices.Clone(keep), func(i int) bool { return i == 8 })
		if !slices.Equal(sectorsOfDisk(first.Disk()), overlay(under, over, ahead)) || len(first.Disk().Loose()) != 0 {
			t.Errorf("step 0, keep %v: another disk", keep)
		}
		second := j.Fork()
		wantOK(t, second.Torn(two, false, 1, keep))
		kept := []int{5, 6, 7}
		if slices.Contains(keep, 8) {
			wantGroups(t, second, one, two)
			kept = append(kept, 8)
		} else {
			wantGroups(t, second, one)
		}
		if !slices.Equal(sectorsOfDisk(second.Disk()), overlay(under, over, kept)) || len(second.Disk().Loose()) != 0 {
			t.Errorf("step 1, keep %v: another disk", keep)
		}
		wantOK(t, first.Append(group("x")))
		wantGroups(t, first, one, group("x"))
	})
}

func TestTornReset(t *testing.T) { // P5.3, P5.5
	j := opened(t, 20)
	one, two := group("one"), group("two", strings.Repeat("2", 30))
	wantOK(t, j.Append(group("nought")))
	wantOK(t, j.Reset(one)) // to area 1; the next one goes to area 0
	whole := j.Fork()
	wantOK(t, whole.Reset(two)) // sectors 2 to 5, then 0
	under, over := sectorsOfDisk(j.Disk()), sectorsOfDisk(whole.Disk())
	subsets(0, 6, func(keep []int) {
		first := j.Fork()
		wantOK(t, first.Torn(two, true, 0, keep))
		wantGroups(t, first, one)
		ahead := slices.DeleteFunc(slices.Clone(keep), func(i int) bool { return i == 0 })
		if !slices.Equal(sectorsOfDisk(first.Disk()), overlay(under, over, ahead)) || len(first.Disk().Loose()) != 0 {
			t.Errorf("step 0, keep %v: another disk", keep)
		}
		second := j.Fork()
		wantOK(t, second.Torn(two, true, 1, keep))
		kept := []int{2, 3, 4, 5}
		if slices.Contains(keep, 0) {
			wantGroups(t, second, two)
			kept = append(kept, 0)
		} else {
			wantGroups(t, second, one)
		}
		if !slices.Equal(sectorsOfDisk(second.Disk()), overlay(under, over, kept)) || len(second.Disk().Loose()) != 0 {
			t.Errorf("step 1, keep %v: another disk", keep)
		}
		wantOK(t, first.Reset(group("x")))
		wantGroups(t, first, group("x"))
	})
}

func TestTornKeepsAnything(t *testing.T) { // P1
	for _, keep := range [][]int{nil, {}, {-1, math.MinInt, math.MaxInt, 20, 20, 7, 7}} {
		for _, reset := range []bool{false, true} {
			for step := range 2 {
				j := opened(t, 20)
				wantOK(t, j.Torn(group("x"), reset, step, keep))
				wantGroups(t, j)
			}
		}
	}
}

func TestNil(t *testing.T) { // P1, P2
	var j *Journal
	for _, g := range [][][]byte{nil, group("x"), make([][]byte, 9)} {
		wantErr(t, j.Append(g), api.ErrNil)
		wantErr(t, j.Reset(g), api.ErrNil)
		for _, step := range []int{-1, 0, 1, 2} {
			wantErr(t, j.Torn(g, false, step, nil), api.ErrNil)
			wantErr(t, j.Torn(g, true, step, []int{1}), api.ErrNil)
		}
	}
	if len(j.Groups()) != 0 || j.Free() != 0 || j.Disk() != nil || j.Fork() != nil {
		t.Error("a nil journal answers something")
	}
}

func TestForkAndDisk(t *testing.T) { // P5.3, P4
	j := opened(t, 30)
	wantOK(t, j.Append(group("a")))
	for name, change := range map[string]func(j *Journal){
		"append": func(j *Journal) { j.Append(group("b")) },
		"reset":  func(j *Journal) { j.Reset(group("b")) },
		"torn":   func(j *Journal) { j.Torn(group("b"), true, 1, []int{1}) },
	} {
		t.Log(name)
		one := j.Fork()
		two := one.Fork()
		change(two)
		wantGroups(t, one, group("a"))
		one, two = j.Fork(), nil
		two = one.Fork()
		change(one)
		wantGroups(t, two, group("a"))
	}
	d := j.Disk()
	for i := range 30 {
		d.Write(i, disk.Sector{})
	}
	d.Flush()
	wantGroups(t, j, group("a"))
	d = j.Disk()
	j.Reset(group("b"))
	wantGroups(t, Open(d), group("a"))
}

func TestWhatIsHandedInAndAnswered(t *testing.T) { // P3
	room := []byte("handed in, with spare room behind it")
	list := [][]byte{room[:9], room[11:15], []byte("spare")}
	keep := []int{5, 2, 7, 3}
	g := list[:2]
	before, all, kept := slices.Clone(room), len(list[2]), slices.Clone(keep)
	j := opened(t, 40)
	wantOK(t, j.Append(g))
	wantOK(t, j.Fork().Reset(g))
	wantOK(t, j.Fork().Torn(g, false, 1, keep[:2]))
	if !bytes.Equal(room, before) || len(list[2]) != all || string(list[2]) != "spare" || !slices.Equal(keep, kept) {
		t.Error("what was handed in has changed")
	}
	wantOK(t, j.Append(group("b", "", "bb")))
	clear(room)
	first := j.Groups()
	for _, g := range first {
		for i := range g {
			for k := range g[i] {
				g[i][k] = '#'
			}
			g[i] = append(g[i], "ten bytes."...) // they would reach into the next part, and fit where the last one ends
		}
		if len(g) == 3 && (string(g[0]) != "#ten bytes." || string(g[1]) != "ten bytes." || string(g[2]) != "##ten bytes.") {
			t.Errorf("parts lie in one another: %q", g)
		}
	}
	wantGroups(t, j, group("handed in", "with"), group("b", "", "bb"))
}

// model is a journal by the document's words.
type model struct {
	groups [][][]byte
	free   int
	size   int
}

// step does one thing to a journal and to its model.
func (m *model) step(t *testing.T, j *Journal, chance *rand.Rand) {
	var g [][]byte
	for range chance.IntN(4) {
		g = append(g, bytes.Repeat([]byte{byte(chance.IntN(256))}, chance.IntN(70)))
	}
	reset, torn, step := chance.IntN(3) == 0, chance.IntN(2) == 0, chance.IntN(2)
	var keep []int
	for i := range m.size*2 + 2 {
		if chance.IntN(2) == 0 {
			keep = append(keep, i)
		}
	}
	want := api.OK
	need := (len(reckonBytes(g))+30)/31 + 2
	switch {
	case len(g) == 0:
		want = api.ErrRange
	case !reset && need > m.free, need > m.size:
		want = api.ErrSpace
	}
	var err api.Errno
	switch before := j.Groups(); {
	case torn:
		err = j.Torn(g, reset, step, keep)
		if sameGroups(j.Groups(), before) {
			wantErr(t, err, want)
			return
		}
	case reset:
		err = j.Reset(g)
	default:
		err = j.Append(g)
	}
	wantErr(t, err, want)
	switch {
	case err != api.OK:
	case reset:
		m.groups, m.free = [][][]byte{g}, m.size-need
	default:
		m.groups, m.free = append(m.groups, g), m.free-need
	}
}

func TestLikeTheModel(t *testing.T) { // P5.2 to P5.6
	for seed := range uint64(150) {
		chance := rand.New(rand.NewPCG(seed, 5))
		size := 3 + chance.IntN(30)
		j, m := opened(t, 2*size+2+chance.IntN(2)), &model{free: size, size: size}
		for range 40 {
			m.step(t, j, chance)
			wantGroups(t, j, m.groups...)
			if j.Free() != m.free {
				t.Fatalf("%d free, want %d", j.Free(), m.free)
			}
			if again := Open(j.Disk()); !sameGroups(again.Groups(), m.groups) || again.Free() != m.free {
				t.Fatal("Open of the Disk is another journal")
			}
			if chance.IntN(5) == 0 {
				j = Open(j.Disk())
			}
		}
	}
}

func FuzzSectors(f *testing.F) { // P1, P5.1: whatever lies on the disk
	f.Add([]byte{}, byte(20))
	f.Add(bytes.Repeat([]byte{'G', 0, 0, 0, 0, 1}, 50), byte(30))
	f.Fuzz(func(t *testing.T, b []byte, n byte) {
		d := disk.New(int(n))
		for i := range d.Size() {
			var s disk.Sector
			k := copy(s[:], b)
			b = b[k:]
			if len(b) > 0 && b[0]%2 == 0 { // else hardly any sum is right
				s = summed(s[:[]int{5, 9, 14}[int(b[0]/2)%3]])
			}
			d.Write(i, s)
		}
		j := Open(d)
		if (j == nil) != (d.Size() < 8) {
			t.Fatal("Open")
		}
		before := j.Groups()
		for _, g := range before {
			if Need(g) == 0 {
				t.Error("a group that may not be")
			}
		}
		if free := j.Free(); free < 0 || j != nil && free > (d.Size()-2)/2 {
			t.Error("free:", free)
		}
		if j.Append(group("x")) == api.OK && !sameGroups(j.Groups(), append(before, group("x"))) {
			t.Error("Append")
		}
		if j.Reset(group("y")) == api.OK && !sameGroups(j.Groups(), [][][]byte{group("y")}) {
			t.Error("Reset")
		}
	})
}
