package bits

import (
	"bytes"
	"math"
	"math/big"
	"slices"
	"testing"

	"backwater/api"
)

// signed are the edges of numbers with a sign, and some between.
var signed = []int64{
	0, 1, -1, 2, -2, 3, -3, 63, 64, -64, -65, 127, 128, -128, -129, 1000, -1000,
	math.MaxInt32 - 1, math.MaxInt32, math.MaxInt32 + 1, math.MinInt32 - 1, math.MinInt32, math.MinInt32 + 1,
	math.MaxUint32, math.MaxUint32 + 1, -math.MaxUint32, 1 << 62, -1 << 62, 1<<62 - 1,
	math.MaxInt64 - 1, math.MaxInt64, math.MinInt64, math.MinInt64 + 1,
}

// unsigned are the edges of numbers without a sign, and some between.
var unsigned = []uint64{
	0, 1, 2, 3, 4, 255, 256, 1<<24 - 1, 1 << 24, 1<<31 - 1, 1 << 31, 1<<32 - 1, 1 << 32, 1<<32 + 1,
	0x0123456789abcdef, 0xfedcba9876543210, 1<<63 - 1, 1 << 63, 1<<63 + 1, 1<<64 - 2, 1<<64 - 1,
}

// words are the edges of numbers of 32 bits, and some between.
var words = []uint32{0, 1, 2, 3, 7, 255, 256, 0x12345678, 0x80000001, 1<<24 - 1, 1 << 24, 1<<31 - 1, 1 << 31, 1<<32 - 2, 1<<32 - 1}

// reckonZig says Zig by the document's words, in numbers without a bound.
func reckonZig(n int64) uint64 {
	b := big.NewInt(n)
	if n >= 0 {
		return b.Mul(b, big.NewInt(2)).Uint64()
	}
	b.Mul(b, big.NewInt(-2))
	return b.Sub(b, big.NewInt(1)).Uint64()
}

func TestZig(t *testing.T) { // P1.1
	for n, want := range map[int64]uint64{0: 0, -1: 1, 1: 2, -2: 3, 2: 4, math.MaxInt64: math.MaxUint64 - 1, math.MinInt64: math.MaxUint64} {
		if got := Zig(n); got != want {
			t.Errorf("Zig(%d) = %d, want %d", n, got, want)
		}
	}
	for _, n := range signed {
		if got, want := Zig(n), reckonZig(n); got != want {
			t.Errorf("Zig(%d) = %d, want %d", n, got, want)
		}
	}
}

func TestZag(t *testing.T) { // P1.1
	for u, want := range map[uint64]int64{0: 0, 1: -1, 2: 1, 3: -2, 4: 2, math.MaxUint64 - 1: math.MaxInt64, math.MaxUint64: math.MinInt64} {
		if got := Zag(u); got != want {
			t.Errorf("Zag(%d) = %d, want %d", u, got, want)
		}
	}
	for _, u := range unsigned {
		if got := reckonZig(Zag(u)); got != u {
			t.Errorf("Zag(%d) = %d, whose Zig is %d", u, Zag(u), got)
		}
	}
}

func TestPackAndUnpack(t *testing.T) { // P1.1
	for _, c := range []struct {
		hi, lo uint32
		u      uint64
	}{
		{0, 0, 0},
		{0, 1, 1},
		{1, 0, 1 << 32},
		{1, 2, 1<<32 + 2},
		{0, math.MaxUint32, math.MaxUint32},
		{math.MaxUint32, 0, math.MaxUint64 - math.MaxUint32},
		{math.MaxUint32, math.MaxUint32, math.MaxUint64},
		{0x01234567, 0x89abcdef, 0x0123456789abcdef},
		{1 << 31, 1 << 31, 1<<63 + 1<<31},
	} {
		if got := Pack(c.hi, c.lo); got != c.u {
			t.Errorf("Pack(%d, %d) = %d, want %d", c.hi, c.lo, got, c.u)
		}
		if hi, lo := Unpack(c.u); hi != c.hi || lo != c.lo {
			t.Errorf("Unpack(%d) = %d, %d, want %d, %d", c.u, hi, lo, c.hi, c.lo)
		}
	}
	for _, u := range unsigned {
		if hi, lo := Unpack(u); uint64(hi) != u/(1<<32) || uint64(lo) != u%(1<<32) {
			t.Errorf("Unpack(%d) = %d, %d", u, hi, lo)
		}
	}
}

func TestNarrow(t *testing.T) { // P1.1, P2, P5
	for _, n := range signed {
		want, wantOK := int32(0), false
		if n >= -2147483648 && n <= 2147483647 {
			want, wantOK = int32(n), true
		}
		if got, ok := Narrow(n); got != want || ok != wantOK {
			t.Errorf("Narrow(%d) = %d, %v, want %d, %v", n, got, ok, want, wantOK)
		}
	}
	for _, n := range []int64{1 << 31, -1<<31 - 1, 1 << 32, 1<<32 + 5, -1 << 32, math.MaxInt64, math.MinInt64} {
		if got, ok := Narrow(n); got != 0 || ok {
			t.Errorf("Narrow(%d) = %d, %v, want 0, false", n, got, ok)
		}
	}
}

func TestMake(t *testing.T) { // P1.2, P2
	for _, c := range []struct {
		client uint8
		number uint32
		fid    api.Fid
		err    api.Errno
	}{
		{0, 1, api.Root, api.OK},
		{0, 1<<24 - 1, 0x00ffffff, api.OK},
		{1, 1, 0x01000001, api.OK},
		{2, 77, 0x0200004d, api.OK},
		{api.MaxClients, 1, 0x03000001, api.OK},
		{api.MaxClients, 1<<24 - 1, 0x03ffffff, api.OK},
		{0, 0, 0, api.ErrRange},
		{1, 0, 0, api.ErrRange},
		{1, 1 << 24, 0, api.ErrRange},
		{1, 1<<24 + 1, 0, api.ErrRange},
		{1, math.MaxUint32, 0, api.ErrRange},
		{api.MaxClients + 1, 1, 0, api.ErrRange},
		{api.MaxClients + 1, 1<<24 - 1, 0, api.ErrRange},
		{255, 1, 0, api.ErrRange},
		{255, 0, 0, api.ErrRange},
	} {
		if f, e := Make(c.client, c.number); f != c.fid || e != c.err {
			t.Errorf("Make(%d, %d) = %#x, %d, want %#x, %d", c.client, c.number, f, e, c.fid, c.err)
		}
	}
}

func TestWhoAndNumber(t *testing.T) { // P1.2
	for f, want := range map[api.Fid][2]uint32{
		0:          {0, 0},
		api.Root:   {0, 1},
		0x00ffffff: {0, 0xffffff},
		0x01000000: {1, 0},
		0x03000007: {3, 7},
		0x80000000: {128, 0},
		0xfeabcdef: {254, 0xabcdef},
		0xffffffff: {255, 0xffffff},
	} {
		if who, number := Who(f), Number(f); uint32(who) != want[0] || number != want[1] {
			t.Errorf("Who, Number of %#x = %d, %d, want %d", f, who, number, want)
		}
	}
}

// turnOne turns by one place at a time, as the words say it.
func turnOne(u uint32, n int) uint32 {
	for range ((n % 32) + 32) % 32 {
		top := u / (1 << 31)
		u = u*2 + top
	}
	return u
}

func TestTurn(t *testing.T) { // P1.2
	for _, c := range []struct {
		u    uint32
		n    int
		want uint32
	}{
		{0x80000001, 0, 0x80000001},
		{0x80000001, 1, 3},
		{0x80000001, -1, 0xc0000000},
		{1, -1, 1 << 31},
		{1, 31, 1 << 31},
		{1, 32, 1},
		{1, 33, 2},
		{1, -31, 2},
		{1, -32, 1},
		{1, -33, 1 << 31},
		{0x12345678, 8, 0x34567812},
		{0x12345678, -8, 0x78123456},
		{0x12345678, math.MaxInt, 0x091a2b3c},
		{0x12345678, math.MinInt, 0x12345678},
		{0x12345678, math.MinInt + 1, 0x2468acf0},
	} {
		if got := Turn(c.u, c.n); got != c.want {
			t.Errorf("Turn(%#x, %d) = %#x, want %#x", c.u, c.n, got, c.want)
		}
	}
	for _, u := range words {
		for n := -70; n <= 70; n++ {
			if got, want := Turn(u, n), turnOne(u, n); got != want {
				t.Errorf("Turn(%#x, %d) = %#x, want %#x", u, n, got, want)
			}
		}
	}
}

func TestLow(t *testing.T) { // P1.2
	for _, u := range unsigned {
		for _, n := range []int{math.MinInt, math.MinInt32, -64, -1, 0} {
			if got := Low(u, n); got != 0 {
				t.Errorf("Low(%#x, %d) = %#x, want 0", u, n, got)
			}
		}
		for n := 1; n < 64; n++ {
			power := uint64(1)
			for range n {
				power *= 2
			}
			if got, want := Low(u, n), u%power; got != want {
				t.Errorf("Low(%#x, %d) = %#x, want %#x", u, n, got, want)
			}
		}
		for _, n := range []int{64, 65, 128, 1 << 32, math.MaxInt} {
			if got := Low(u, n); got != u {
				t.Errorf("Low(%#x, %d) = %#x, want all of it", u, n, got)
			}
		}
	}
}

func TestFold(t *testing.T) { // P1.2
	for text, want := range map[string]uint32{
		"":       2166136261,
		"a":      0xe40c292c,
		"b":      0xe70c2de5,
		"foobar": 0xbf9cf968,
		"\x00":   0x050c5d1f,
	} {
		if got := Fold([]byte(text)); got != want {
			t.Errorf("Fold(%q) = %#x, want %#x", text, got, want)
		}
	}
	if got := Fold(nil); got != 2166136261 {
		t.Errorf("Fold(nil) = %#x", got)
	}
	all := make([]byte, 3000)
	for i := range all {
		all[i] = byte(i * 7)
	}
	for n := range all {
		if got, want := Fold(all[:n]), reckonFold(all[:n]); got != want {
			t.Fatalf("Fold of %d bytes = %#x, want %#x", n, got, want)
		}
	}
}

// reckonFold says Fold by the document's words, in numbers that don't go round.
func reckonFold(b []byte) uint32 {
	sum := uint64(2166136261)
	for _, x := range b {
		low := sum % 256
		sum = sum - low + (low ^ uint64(x))
		sum = sum * 16777619 % (1 << 32)
	}
	return uint32(sum)
}

func TestThereAndBack(t *testing.T) { // P1.3
	for _, n := range signed {
		if got := Zag(Zig(n)); got != n {
			t.Errorf("Zag of Zig of %d is %d", n, got)
		}
	}
	for n := int64(-5000); n <= 5000; n++ {
		if got := Zag(Zig(n)); got != n {
			t.Errorf("Zag of Zig of %d is %d", n, got)
		}
	}
	for _, a := range words {
		for _, b := range words {
			if hi, lo := Unpack(Pack(a, b)); hi != a || lo != b {
				t.Errorf("Unpack of Pack of %d, %d are %d, %d", a, b, hi, lo)
			}
		}
	}
	for client := range uint8(api.MaxClients + 1) {
		for _, number := range []uint32{1, 2, 255, 256, 65535, 65536, 1<<24 - 2, 1<<24 - 1} {
			f, e := Make(client, number)
			if e != api.OK || Who(f) != client || Number(f) != number {
				t.Errorf("Make(%d, %d) = %#x, %d: made of %d, %d", client, number, f, e, Who(f), Number(f))
			}
		}
	}
}

func TestFoldLeavesWhatIsHandedIn(t *testing.T) { // P3, P6
	room := []byte("what stands here, and spare room behind it")
	kept := bytes.Clone(room)
	first := Fold(room[:16])
	for range 3 {
		if again := Fold(room[:16]); again != first {
			t.Errorf("Fold says %#x and then %#x", first, again)
		}
	}
	if !slices.Equal(room, kept) {
		t.Errorf("Fold made %q of %q", room, kept)
	}
}
