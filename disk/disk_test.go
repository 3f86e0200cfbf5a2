package disk

import (
	"maps"
	"math"
	"math/rand/v2"
	"slices"
	"testing"

	"backwater/api"
)

// fill is a sector full of one byte.
func fill(b byte) Sector {
	var s Sector
	for i := range s {
		s[i] = b
	}
	return s
}

// made is a disk of n sectors; the test ends if there is none.
func made(t *testing.T, n int) *Disk {
	t.Helper()
	d := New(n)
	if d == nil {
		t.Fatalf("New(%d) is nil", n)
	}
	return d
}

// wantSectors asks for what all sectors of a disk hold, by their first bytes; they are full of it.
func wantSectors(t *testing.T, d *Disk, want ...byte) {
	t.Helper()
	if d.Size() != len(want) {
		t.Fatalf("%d sectors, want %d", d.Size(), len(want))
	}
	for i, b := range want {
		if s, err := d.Read(i); s != fill(b) || err != api.OK {
			t.Errorf("sector %d holds %v, error %d, want %d", i, s, err, b)
		}
	}
}

// wantLoose asks for the numbers in the buffer.
func wantLoose(t *testing.T, d *Disk, want ...int) {
	t.Helper()
	if got := d.Loose(); !slices.Equal(got, want) {
		t.Errorf("loose are %v, want %v", got, want)
	}
}

// wantOK asks for no error.
func wantOK(t *testing.T, err api.Errno) {
	t.Helper()
	if err != api.OK {
		t.Errorf("error %d", err)
	}
}

func TestNew(t *testing.T) { // P4.1, P4.2
	for _, n := range []int{1, 2, 31, 32, 1000, api.MaxSectors - 1, api.MaxSectors} {
		d := made(t, n)
		wantSectors(t, d, make([]byte, n)...)
		wantLoose(t, d)
	}
	for _, n := range []int{0, -1, -2048, api.MaxSectors + 1, math.MaxInt, math.MinInt, math.MaxInt32 + 1, 1 << 32, 1<<32 + 1} {
		if New(n) != nil {
			t.Errorf("New(%d) is not nil", n)
		}
	}
}

func TestNil(t *testing.T) { // P1, P4.1
	var d *Disk
	for _, i := range []int{0, -1, 5} {
		if err := d.Write(i, fill(1)); err != api.ErrNil {
			t.Error("Write:", err)
		}
		if s, err := d.Read(i); s != (Sector{}) || err != api.ErrNil {
			t.Error("Read:", s, err)
		}
	}
	if d.Flush() != api.ErrNil || d.Crash(nil) != api.ErrNil || d.Crash([]int{0}) != api.ErrNil {
		t.Error("Flush and Crash of nil answer no ErrNil")
	}
	if d.Size() != 0 || len(d.Loose()) != 0 || d.Fork() != nil {
		t.Error("Size, Loose and Fork of nil answer something")
	}
}

func TestNumbersThatAreNotThere(t *testing.T) { // P4.1, P2
	for _, n := range []int{1, 4, api.MaxSectors} {
		d := made(t, n)
		wantOK(t, d.Write(0, fill(7)))
		for _, i := range []int{-1, n, n + 1, math.MaxInt, math.MinInt, -n, 1 << 32} {
			if err := d.Write(i, fill(9)); err != api.ErrRange {
				t.Errorf("Write(%d) of %d answers %d", i, n, err)
			}
			if s, err := d.Read(i); s != (Sector{}) || err != api.ErrRange {
				t.Errorf("Read(%d) of %d answers %v, %d", i, n, s, err)
			}
		}
		wantLoose(t, d, 0)
		wantSectors(t, d, append([]byte{7}, make([]byte, n-1)...)...)
		wantOK(t, d.Write(n-1, fill(8)))
		if s, err := d.Read(n - 1); s != fill(8) || err != api.OK {
			t.Error("the last sector is not there")
		}
	}
}

func TestWriteStandsInTheBuffer(t *testing.T) { // P4.1, P4.2
	d := made(t, 4)
	wantOK(t, d.Write(2, fill(1)))
	wantOK(t, d.Write(0, fill(2)))
	wantOK(t, d.Write(2, fill(3)))
	wantSectors(t, d, 2, 0, 3, 0)
	wantLoose(t, d, 0, 2)
	wantOK(t, d.Write(3, Sector{}))
	wantLoose(t, d, 0, 2, 3) // what is written stands there, though it is like what is on the disk
	wantOK(t, d.Crash(nil))
	wantSectors(t, d, 0, 0, 0, 0)
	wantLoose(t, d)
}

func TestFlush(t *testing.T) { // P4.1, P4.3
	d := made(t, 3)
	wantOK(t, d.Flush())
	wantOK(t, d.Write(1, fill(1)))
	wantOK(t, d.Write(2, fill(2)))
	wantOK(t, d.Flush())
	wantLoose(t, d)
	wantOK(t, d.Crash(nil))
	wantOK(t, d.Crash([]int{0, 1, 2}))
	wantSectors(t, d, 0, 1, 2)
	wantOK(t, d.Write(1, fill(3)))
	wantSectors(t, d, 0, 3, 2)
	wantOK(t, d.Crash(nil))
	wantSectors(t, d, 0, 1, 2)
	wantOK(t, d.Write(1, Sector{}))
	wantSectors(t, d, 0, 0, 2)
	wantOK(t, d.Flush())
	wantOK(t, d.Crash(nil))
	wantSectors(t, d, 0, 0, 2)
}

func TestCrash(t *testing.T) { // P4.1, P4.3, example 1
	d := made(t, 4)
	wantOK(t, d.Write(0, fill(1)))
	wantOK(t, d.Write(0, fill(2)))
	wantOK(t, d.Crash([]int{0}))
	wantSectors(t, d, 2, 0, 0, 0)
	wantLoose(t, d)
	for i := range 4 {
		wantOK(t, d.Write(i, fill(byte(10+i))))
	}
	wantOK(t, d.Crash([]int{3, 1, 1, 3, -1, 4, math.MaxInt, math.MinInt}))
	wantLoose(t, d)
	wantSectors(t, d, 2, 11, 0, 13)
	wantOK(t, d.Crash([]int{0, 1, 2, 3})) // of an empty buffer nothing is kept
	wantSectors(t, d, 2, 11, 0, 13)
	wantOK(t, d.Write(3, Sector{}))
	wantOK(t, d.Crash([]int{3}))
	wantSectors(t, d, 2, 11, 0, 0)
}

func TestFork(t *testing.T) { // P4.2, P4
	start := func() *Disk {
		d := made(t, 3)
		d.Write(0, fill(1))
		d.Write(1, fill(2))
		d.Flush()
		d.Write(1, fill(3))
		d.Write(2, fill(4))
		return d
	}
	for name, change := range map[string]func(d *Disk){
		"write":       func(d *Disk) { d.Write(0, fill(9)); d.Write(1, fill(9)) },
		"flush":       func(d *Disk) { d.Flush() },
		"crash":       func(d *Disk) { d.Crash(nil) },
		"crash, keep": func(d *Disk) { d.Crash([]int{1}) },
		"all":         func(d *Disk) { d.Write(0, Sector{}); d.Flush(); d.Write(2, fill(8)); d.Crash([]int{2}) },
	} {
		for _, mine := range []bool{false, true} {
			d := start()
			f := d.Fork()
			wantSectors(t, f, 1, 3, 4)
			wantLoose(t, f, 1, 2)
			if mine {
				d, f = f, d
			}
			change(d)
			t.Log(name)
			wantSectors(t, f, 1, 3, 4)
			wantLoose(t, f, 1, 2)
			f.Crash(nil)
			wantSectors(t, f, 1, 2, 0)
		}
	}
}

func TestWhatIsHandedInAndAnswered(t *testing.T) { // P3
	d := made(t, 4)
	s := fill(1)
	d.Write(0, s)
	d.Write(3, s)
	s[0] = 9
	got, _ := d.Read(0)
	got[1] = 9
	loose := d.Loose()
	clear(loose)
	wantLoose(t, d, 0, 3)
	wantSectors(t, d, 1, 0, 0, 1)
	room := []int{3, 0, 3, -7, 9, 1, 2}
	before := slices.Clone(room)
	d.Crash(room[:4])
	if !slices.Equal(room, before) {
		t.Error("Crash has changed what it was handed")
	}
}

// model is a disk by the document's words: what is on it, and what is in its buffer.
type model struct {
	disk   []Sector
	buffer map[int]Sector
}

// step does one thing to a disk and to its model.
func (m *model) step(t *testing.T, d *Disk, chance *rand.Rand) {
	switch n := len(m.disk); chance.IntN(8) {
	case 0:
		wantOK(t, d.Flush())
		for i, s := range m.buffer {
			m.disk[i] = s
		}
		m.buffer = map[int]Sector{}
	case 1:
		var keep []int
		for range chance.IntN(2 * n) {
			keep = append(keep, chance.IntN(n+2)-1)
		}
		wantOK(t, d.Crash(keep))
		for i, s := range m.buffer {
			if slices.Contains(keep, i) {
				m.disk[i] = s
			}
		}
		m.buffer = map[int]Sector{}
	default:
		i, s := chance.IntN(n), Sector{31: byte(chance.IntN(3))}
		wantOK(t, d.Write(i, s))
		m.buffer[i] = s
	}
}

// compare holds a disk against its model.
func (m *model) compare(t *testing.T, d *Disk) {
	t.Helper()
	for i, want := range m.disk {
		if s, ok := m.buffer[i]; ok {
			want = s
		}
		if got, err := d.Read(i); got != want || err != api.OK {
			t.Fatalf("sector %d holds %v, error %d, want %v", i, got, err, want)
		}
	}
	if want := slices.Sorted(maps.Keys(m.buffer)); !slices.Equal(d.Loose(), want) {
		t.Fatalf("loose are %v, want %v", d.Loose(), want)
	}
}

func TestLikeTheModel(t *testing.T) { // P4.1, P4.2, P4.3
	for seed := range uint64(200) {
		chance := rand.New(rand.NewPCG(seed, 4))
		n := 1 + chance.IntN(8)
		d, m := made(t, n), &model{make([]Sector, n), map[int]Sector{}}
		for range 60 {
			m.step(t, d, chance)
			m.compare(t, d)
		}
	}
}

func TestSameTwice(t *testing.T) { // P6
	for range 20 {
		d := made(t, 200)
		var want []int
		for i := 199; i >= 0; i -= 3 {
			d.Write(i, fill(byte(i)))
			want = append(want, i)
		}
		slices.Sort(want)
		wantLoose(t, d, want...)
	}
}
