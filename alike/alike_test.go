package alike

import (
	"bytes"
	"math/rand/v2"
	"slices"
	"strings"
	"testing"

	"backwater/api"
	"backwater/record"
	"backwater/tree"
)

// chmod is a record of a client.
func chmod(f api.Fid, mode uint16) api.Record {
	return api.Record{Op: api.Op{Kind: api.Chmod, Fid: f, Mode: mode}, Seen: 5}
}

// rename is a record with all the texts that have another place in its bytes.
func rename(name, name2 string) api.Record {
	return api.Record{Op: api.Op{Kind: api.Rename, At: 1, Name: name, To: 2, Name2: name2}}
}

// verdict is one on a record of client 2.
func verdict(number uint32) api.Verdict {
	return api.Verdict{Client: 2, Number: number, Err: api.ErrExist, Record: chmod(9, 0x0102)}
}

const verdictBytes = "\x02\x00\x00\x00\x07\x06\x01" + "\x00\x00\x00\x00\x00\x00\x00\x05" + "\x09\x00\x00\x00\x09" + "\x00\x00\x00\x00\x00\x00\x00\x00\x00\x00\x01\x02\x00"

func TestFirstSnapshot(t *testing.T) {
	s := FirstSnapshot()
	if !tree.Same(s.Tree, tree.New()) || !slices.Equal(s.Versions, []api.Stamp{{Fid: 1, Version: 1}}) {
		t.Errorf("at first there is %v", s)
	}
}

func TestAddVerdict(t *testing.T) {
	var l []api.Verdict
	for n := uint32(1); n <= 200; n++ {
		before := slices.Clone(l)
		more := AddVerdict(l, verdict(n))
		if !slices.Equal(l, before) {
			t.Fatal("the list that was handed in has changed")
		}
		l = more
		if want := min(int(n), 64); len(l) != want || l[len(l)-1] != verdict(n) || l[0] != verdict(n-uint32(want)+1) {
			t.Fatalf("behind %d there are %d, from %d on", n, len(l), l[0].Number)
		}
	}
	spare := make([]api.Verdict, 1, 5)
	AddVerdict(spare, verdict(7))
	if spare[:2][1] != (api.Verdict{}) {
		t.Error("the room behind the list has changed")
	}
}

func TestIsRefusal(t *testing.T) {
	for _, number := range []uint32{1, 2, 7} {
		if !IsRefusal(verdict(number), 7) {
			t.Errorf("record %d of 7 can't be", number)
		}
	}
	for _, number := range []uint32{0, 8, 1<<32 - 1} {
		if IsRefusal(verdict(number), 7) {
			t.Errorf("record %d of 7 can be", number)
		}
	}
	v := verdict(3)
	v.Err = api.OK
	if IsRefusal(v, 7) {
		t.Error("what was not refused can be")
	}
}

func TestBytes(t *testing.T) {
	if got := WriteNumber([]byte("x"), 0x01020304); string(got) != "x\x01\x02\x03\x04" {
		t.Errorf("a number is written as %q", got)
	}
	if got := WriteVerdicts([]byte("x"), nil); string(got) != "x\x00" {
		t.Errorf("no verdicts are written as %q", got)
	}
	if got := WriteVerdicts(nil, []api.Verdict{verdict(7), verdict(7)}); string(got) != "\x02"+verdictBytes+verdictBytes {
		t.Errorf("verdicts are written as %q", got)
	}
}

// all is a bit of all that can be taken off.
type all struct {
	mark     string
	single   byte
	number   uint32
	err      api.Errno
	records  []api.Record
	verdicts []api.Verdict
	snapshot api.Snapshot
}

func takeEverything(r *Reader) all {
	return all{
		mark: r.Mark(), single: r.Byte(), number: r.Number(), err: r.Err(),
		records: r.Records(), verdicts: r.Verdicts(), snapshot: r.Snapshot(),
	}
}

func TestRead(t *testing.T) {
	l := []api.Record{chmod(3, 4), rename("ab", "cde"), {Op: api.Op{Kind: api.Store, Fid: 3, Data: strings.Repeat("x", 64)}}}
	records, _ := record.Records(l)
	snapshot, _ := record.Snapshot(FirstSnapshot())
	b := slices.Concat([]byte("S\xff\x01\x02\x03\x04\x0e"), records, WriteVerdicts(nil, []api.Verdict{verdict(7), verdict(8)}), snapshot)
	got, ok := Read(b, takeEverything)
	if !ok || got.mark != "S" || got.single != 255 || got.number != 0x01020304 || got.err != api.ErrLinks || !slices.Equal(got.records, l) ||
		!slices.Equal(got.verdicts, []api.Verdict{verdict(7), verdict(8)}) || !tree.Same(got.snapshot.Tree, tree.New()) {
		t.Errorf("read are %v, %v", got, ok)
	}
	for size := range len(b) {
		if got, ok := Read(b[:size], takeEverything); ok || got.mark != "" || got.number != 0 || got.records != nil {
			t.Errorf("of %d bytes %v are read", size, got)
		}
	}
	if got, ok := Read(append(slices.Clone(b), 0), takeEverything); ok || got.mark != "" {
		t.Error("with a byte behind it is read")
	}
	if n, ok := Read([]byte{1, 2}, (*Reader).Byte); ok || n != 0 {
		t.Errorf("with a byte behind %d is read", n)
	}
	if n, ok := Read([]byte{1}, (*Reader).Byte); !ok || n != 1 {
		t.Errorf("%d is read of 1", n)
	}
	if n, ok := Read(nil, (*Reader).Number); ok || n != 0 {
		t.Errorf("%d is read of nothing", n)
	}
}

func TestReadOfTheWrong(t *testing.T) {
	one := verdictBytes
	for why, s := range map[string]string{
		"too many verdicts": "\x41" + strings.Repeat(one, 65),
		"no such error":     "\x01" + one[:5] + "\x0f" + one[6:],
		"no record":         "\x01" + one[:6] + "\x00",
		"two records":       "\x01" + one[:6] + "\x02" + one[7:] + one[7:],
		"a wrong operation": "\x01" + one[:15] + "\x0a" + one[16:],
		"one too few":       "\x02" + one,
		"one too many":      "\x01" + one + one,
	} {
		if l, ok := Read([]byte(s), (*Reader).Verdicts); ok || len(l) > 0 {
			t.Errorf("%s: %v are read", why, l)
		}
	}
	if l, ok := Read([]byte("\x40"+strings.Repeat(one, 64)), (*Reader).Verdicts); !ok || len(l) != 64 {
		t.Error("64 verdicts are not read")
	}
	for b := range 256 {
		if err, ok := Read([]byte{byte(b)}, (*Reader).Err); ok != (b <= 14) || ok && int(err) != b {
			t.Errorf("the byte %d is the error %d, %v", b, err, ok)
		}
	}
	if l, ok := Read([]byte("\x19"+strings.Repeat(one[7:], 25)), (*Reader).Records); ok || len(l) > 0 {
		t.Error("25 records are read")
	}
	if _, ok := Read([]byte("\x00\x00"), (*Reader).Snapshot); ok {
		t.Error("a snapshot of nothing is read")
	}
	if v, ok := Read(nil, func(r *Reader) int { r.GiveUpIf(true); return 7 }); ok || v != 0 {
		t.Errorf("who gives up reads %d", v)
	}
}

func TestOtherPanicsGoOn(t *testing.T) {
	defer func() {
		if recover() != "mine" {
			t.Error("a panic that is none of the reader's was caught")
		}
	}()
	Read(nil, func(*Reader) int { panic("mine") })
}

func TestReadOfAnyBytes(t *testing.T) { // P1, P3
	chance := rand.New(rand.NewPCG(7, 0))
	records, _ := record.Records([]api.Record{chmod(3, 4), rename("ab", "cde")})
	snapshot, _ := record.Snapshot(FirstSnapshot())
	good := slices.Concat([]byte("S\xff\x01\x02\x03\x04\x0e"), records, WriteVerdicts(nil, []api.Verdict{verdict(7)}), snapshot)
	read := 0
	for range 20000 {
		b := slices.Clone(good)
		for range chance.IntN(4) {
			b[chance.IntN(len(b))] = byte(chance.IntN(256))
		}
		before := slices.Clone(b)
		if _, ok := Read(b[:len(b)-chance.IntN(2)], takeEverything); ok {
			read++
		}
		if !bytes.Equal(b, before) {
			t.Fatal("what was handed in has changed")
		}
	}
	if read == 0 {
		t.Error("nothing could be read")
	}
}
