package frame

import (
	"bytes"
	"encoding/binary"
	"hash/fnv"
	"slices"
	"strings"
	"testing"

	"backwater/api"
)

// rightPackets are right, the edges among them.
var rightPackets = []api.Packet{
	{Kind: api.Ask, From: 1, Seq: 1},
	{Kind: api.Ask, From: 2, Epoch: 1, Seq: 2, Body: "a"},
	{Kind: api.Ask, From: api.MaxClients, Epoch: 1<<32 - 1, Seq: 1<<32 - 1, Body: "BW"},
	{Kind: api.Answer, To: 1, Seq: 1},
	{Kind: api.Answer, To: 2, Epoch: 0x01020304, Seq: 0x05060708, Body: "\x00\xff\xfe\n"},
	{Kind: api.Answer, To: api.MaxClients, Epoch: 1 << 31, Seq: 1 << 24, Body: strings.Repeat("x", 255)},
	{Kind: api.Ask, From: 1, Seq: 256, Body: strings.Repeat("\x80", 256)},
	{Kind: api.Ask, From: 1, Seq: 65536, Body: strings.Repeat("ab", api.MaxBody/2-1) + "c"},
	{Kind: api.Answer, To: 1, Seq: 3, Body: strings.Repeat("y", api.MaxBody)},
}

// wrongPackets are not right, each for one cause.
var wrongPackets = []api.Packet{
	{},
	{Kind: api.NoPacket, From: 1, Seq: 1},
	{Kind: api.NoPacket, To: 1, Seq: 1},
	{Kind: 3, From: 1, Seq: 1},
	{Kind: 3, To: 1, Seq: 1},
	{Kind: 255, From: 1, Seq: 1},
	{Kind: api.Ask, From: 1},
	{Kind: api.Answer, To: 1},
	{Kind: api.Ask, Seq: 1},
	{Kind: api.Answer, Seq: 1},
	{Kind: api.Ask, To: 1, Seq: 1},
	{Kind: api.Answer, From: 1, Seq: 1},
	{Kind: api.Ask, From: 1, To: 1, Seq: 1},
	{Kind: api.Ask, From: 1, To: 2, Seq: 1},
	{Kind: api.Answer, From: 1, To: 1, Seq: 1},
	{Kind: api.Answer, From: 2, To: 1, Seq: 1},
	{Kind: api.Ask, From: api.MaxClients + 1, Seq: 1},
	{Kind: api.Ask, From: 255, Seq: 1},
	{Kind: api.Ask, From: 1, To: api.MaxClients + 1, Seq: 1},
	{Kind: api.Answer, To: api.MaxClients + 1, Seq: 1},
	{Kind: api.Answer, To: 255, Seq: 1},
	{Kind: api.Answer, From: 255, To: 1, Seq: 1},
	{Kind: api.Ask, From: 1, Seq: 1, Body: strings.Repeat("z", api.MaxBody+1)},
	{Kind: api.Answer, To: 1, Seq: 1, Body: strings.Repeat("z", 65535)},
	{Kind: api.Answer, To: 1, Seq: 1, Body: strings.Repeat("z", 65536)},
	{Kind: api.Answer, To: 1, Seq: 1, Body: strings.Repeat("z", 1<<20)},
}

// reckon are the bytes of a packet by the document's words, whether or not it is right.
func reckon(p api.Packet) []byte {
	b := []byte{'B', 'W', byte(p.Kind), p.From, p.To}
	b = binary.LittleEndian.AppendUint32(b, p.Epoch)
	b = binary.LittleEndian.AppendUint32(b, p.Seq)
	b = binary.LittleEndian.AppendUint16(b, uint16(len(p.Body)))
	return summed(append(b, p.Body...))
}

// summed are bytes with their sum behind them.
func summed(b []byte) []byte {
	sum := fnv.New32a()
	sum.Write(b)
	return binary.LittleEndian.AppendUint32(slices.Clone(b), sum.Sum32())
}

// wantNoPacket asks all calls that read for ErrForm, and for nothing beside it.
func wantNoPacket(t *testing.T, why string, b []byte) {
	t.Helper()
	wantNotWhole(t, why, b)
	if p, rest, err := Cut(b); err != api.ErrForm || p != (api.Packet{}) || len(rest) != 0 {
		t.Errorf("%s: Cut answers %v, %d bytes, %d", why, p, len(rest), err)
	}
	if list, n := All(b); len(list) != 0 || n != 0 {
		t.Errorf("%s: All answers %d packets, %d bytes", why, len(list), n)
	}
}

// wantNotWhole asks Decode for ErrForm, and for nothing beside it.
func wantNotWhole(t *testing.T, why string, b []byte) {
	t.Helper()
	if p, err := Decode(b); err != api.ErrForm || p != (api.Packet{}) {
		t.Errorf("%s: Decode answers %v, %d", why, p, err)
	}
}

func TestRight(t *testing.T) { // P3.1
	for i, p := range rightPackets {
		if !Right(p) {
			t.Errorf("packet %d is right", i)
		}
	}
	for i, p := range wrongPackets {
		if Right(p) {
			t.Errorf("packet %d is not right", i)
		}
	}
}

func TestRightOfAllWays(t *testing.T) { // P3.1
	for kind := range 256 {
		for from := range 256 {
			for _, to := range []uint8{0, 1, 2, 3, 4, 128, 255} {
				ask := kind == 1 && from >= 1 && from <= 3 && to == 0
				answer := kind == 2 && from == 0 && to >= 1 && to <= 3
				p := api.Packet{Kind: api.PacketKind(kind), From: uint8(from), To: to, Seq: 9}
				if got := Right(p); got != (ask || answer) {
					t.Fatalf("Right(%v) is %v", p, got)
				}
			}
		}
	}
}

func TestEncode(t *testing.T) { // P3.1
	for i, p := range rightPackets {
		if b, err := Encode(p); err != api.OK || !bytes.Equal(b, reckon(p)) {
			t.Errorf("packet %d: %d bytes, error %d", i, len(b), err)
		}
	}
	for i, p := range wrongPackets {
		if b, err := Encode(p); err != api.ErrForm || len(b) != 0 {
			t.Errorf("wrong packet %d: %d bytes, error %d", i, len(b), err)
		}
	}
}

func TestBytesOfAPacket(t *testing.T) { // P3.1, example 1
	b, err := Encode(api.Packet{Kind: api.Answer, To: 3, Epoch: 0x04030201, Seq: 0x08070605})
	want := []byte{'B', 'W', 2, 0, 3, 1, 2, 3, 4, 5, 6, 7, 8, 0, 0}
	if err != api.OK || len(b) != 19 || !bytes.Equal(b[:15], want) || !bytes.Equal(b, summed(want)) {
		t.Errorf("%v, %d", b, err)
	}
}

func TestDecode(t *testing.T) { // P3.1
	for i, p := range rightPackets {
		if got, err := Decode(reckon(p)); err != api.OK || got != p {
			t.Errorf("packet %d is not read: error %d", i, err)
		}
		wantNotWhole(t, "a byte behind", append(reckon(p), 0))
		wantNotWhole(t, "a byte ahead", append([]byte{'B'}, reckon(p)...))
		wantNotWhole(t, "two packets", append(reckon(p), reckon(p)...))
	}
}

func TestWrongBytes(t *testing.T) { // P3.1
	for _, p := range wrongPackets {
		wantNoPacket(t, "no right packet", reckon(p))
	}
	wantNoPacket(t, "nil", nil)
	wantNoPacket(t, "nothing", []byte{})
	wantNoPacket(t, "the mark alone", []byte("BW"))
	wantNoPacket(t, "nought", make([]byte, 19))
	wantNoPacket(t, "text", bytes.Repeat([]byte("BW"), 100))
	whole := reckon(rightPackets[1])
	for n := range len(whole) {
		wantNoPacket(t, "cut short", whole[:n])
		if n != len(whole)-4 { // with its sum that is the whole packet
			wantNoPacket(t, "cut short, summed", summed(whole[:n]))
		}
	}
	for i := range whole {
		for bit := range 8 {
			b := slices.Clone(whole)
			b[i] ^= 1 << bit
			wantNoPacket(t, "a bit turned", b)
		}
	}
	for _, other := range []string{"bw", "WB", "BX", "AW", "\x00\x00"} {
		b := slices.Clone(whole[:len(whole)-4])
		copy(b, other)
		wantNoPacket(t, "another mark "+other, summed(b))
	}
}

func TestWrongLength(t *testing.T) { // P3.1
	body := rightPackets[4]
	for n := range 300 {
		b := reckon(body)
		if n == len(body.Body) {
			continue
		}
		binary.LittleEndian.PutUint16(b[13:], uint16(n))
		wantNoPacket(t, "another length", summed(b[:len(b)-4]))
	}
	long := append([]byte{'B', 'W', 1, 1, 0, 0, 0, 0, 0, 1, 0, 0, 0, 0xff, 0xff}, make([]byte, 65535)...)
	wantNoPacket(t, "a body beyond the limit", summed(long))
	long = append([]byte{'B', 'W', 1, 1, 0, 0, 0, 0, 0, 1, 0, 0, 0, 0x01, 0x40}, make([]byte, api.MaxBody+1)...)
	wantNoPacket(t, "a body of one byte too many", summed(long))
}

func TestCut(t *testing.T) { // P3.1
	for i, p := range rightPackets {
		for _, rest := range []string{"", "x", "BW", string(reckon(rightPackets[0])), strings.Repeat("r", 70000)} {
			got, behind, err := Cut(append(reckon(p), rest...))
			if err != api.OK || got != p || string(behind) != rest {
				t.Errorf("packet %d with %d bytes behind: %d bytes, error %d", i, len(rest), len(behind), err)
			}
		}
	}
}

func TestAll(t *testing.T) { // P3.1, P3.3
	var b []byte
	for n, p := range rightPackets {
		for _, rest := range []string{"", "B", "BW", string(reckon(wrongPackets[1])), string(reckon(p)[:18]), "x" + string(reckon(p))} {
			list, end := All(append(slices.Clone(b), rest...))
			if !slices.Equal(list, rightPackets[:n]) || end != len(b) {
				t.Errorf("%d packets with %d bytes behind: %d packets, %d bytes", n, len(rest), len(list), end)
			}
		}
		b = append(b, reckon(p)...)
	}
	if list, end := All(b); !slices.Equal(list, rightPackets) || end != len(b) {
		t.Errorf("%d packets, %d bytes", len(list), end)
	}
}

func TestAllOfMany(t *testing.T) { // P1: it ends, however many there are
	one, many := reckon(rightPackets[1]), 50000
	if list, end := All(bytes.Repeat(one, many)); len(list) != many || end != many*len(one) {
		t.Errorf("%d packets, %d bytes", len(list), end)
	}
}

func TestThereAndBack(t *testing.T) { // P3.2
	for i, p := range rightPackets {
		b, _ := Encode(p)
		got, err := Decode(b)
		if err != api.OK || got != p {
			t.Errorf("packet %d: Decode of Encode is another", i)
		}
		if again, err := Encode(got); err != api.OK || !bytes.Equal(again, b) {
			t.Errorf("packet %d: Encode of Decode is another", i)
		}
	}
}

func TestWhatIsHandedInStays(t *testing.T) { // P3
	room := append(append(reckon(rightPackets[1]), reckon(rightPackets[3])...), "behind the end"...)
	whole := len(reckon(rightPackets[1]))
	for n := range len(room) + 1 {
		b := room[:n]
		before := slices.Clone(room)
		Decode(b)
		Cut(b)
		All(b)
		if !bytes.Equal(room, before) {
			t.Fatalf("what was handed in (%d bytes) has changed", n)
		}
	}
	p, rest, _ := Cut(room)
	want := slices.Clone(rest)
	clear(room)
	if p != rightPackets[1] || !bytes.Equal(rest, want) || len(want) != len(room)-whole {
		t.Error("what Cut answers lies in what was handed in")
	}
}

func TestAnswersAreTheCallers(t *testing.T) { // P3
	p := rightPackets[4]
	a, _ := Encode(p)
	b, _ := Encode(p)
	clear(a)
	if !bytes.Equal(b, reckon(p)) {
		t.Error("two answers of Encode share their bytes")
	}
	both := append(reckon(p), reckon(p)...)
	one, _ := All(both)
	two, _ := All(both)
	clear(one)
	clear(both)
	if len(two) != 2 || two[0] != p || two[1] != p {
		t.Error("what All answers changes later on")
	}
}

func FuzzBytes(f *testing.F) { // P1, P3.1, P3.2
	for _, p := range rightPackets[:6] {
		f.Add(reckon(p))
		f.Add(append(reckon(p), 'x'))
	}
	f.Fuzz(func(t *testing.T, b []byte) {
		p, rest, err := Cut(b)
		if err == api.OK && (!Right(p) || !bytes.Equal(append(reckon(p), rest...), b)) {
			t.Error("what Cut answers is not what b is made of")
		}
		if q, whole := Decode(b); (whole == api.OK) != (err == api.OK && len(rest) == 0) || whole == api.OK && q != p {
			t.Error("Decode and Cut differ")
		}
		if list, n := All(b); n > len(b) || (len(list) > 0) != (err == api.OK) {
			t.Error("All and Cut differ")
		}
	})
}
