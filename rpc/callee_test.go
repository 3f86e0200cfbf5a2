package rpc

import (
	"bytes"
	"math"
	"math/rand/v2"
	"slices"
	"strings"
	"testing"

	"backwater/api"
)

// wantOk asks that a callee takes a packet as something that is to be done.
func wantOk(t *testing.T, c *Callee, p api.Packet) {
	t.Helper()
	if body, ok, again, is := c.Take(p); body != p.Body || !ok || again != (api.Packet{}) || is {
		t.Errorf("Take(%v) answers %q, %v, %v, %v", p, body, ok, again, is)
	}
}

// wantIs asks that a callee answers a packet as it did already.
func wantIs(t *testing.T, c *Callee, p, want api.Packet) {
	t.Helper()
	if body, ok, again, is := c.Take(p); body != "" || ok || again != want || !is {
		t.Errorf("Take(%v) answers %q, %v, %v, %v, want %v", p, body, ok, again, is, want)
	}
}

// wantNothing asks that a callee does not take a packet, and that nothing changes by it.
func wantNothing(t *testing.T, c *Callee, p api.Packet) {
	t.Helper()
	ahead := c.Bytes()
	if body, ok, again, is := c.Take(p); body != "" || ok || again != (api.Packet{}) || is {
		t.Errorf("Take(%v) answers %q, %v, %v, %v", p, body, ok, again, is)
	}
	if !bytes.Equal(c.Bytes(), ahead) {
		t.Errorf("behind Take(%v) the callee knows something else", p)
	}
}

// wantReply asks for the answer to what was taken last.
func wantReply(t *testing.T, c *Callee, client uint8, body string, want api.Packet) {
	t.Helper()
	if p, err := c.Reply(client, body); p != want || err != api.OK {
		t.Errorf("Reply(%d) answers %v, error %d, want %v", client, p, err, want)
	}
}

// wantNoReply asks that there is no answer, and that nothing changes.
func wantNoReply(t *testing.T, c *Callee, client uint8, body string, want api.Errno) {
	t.Helper()
	ahead := c.Bytes()
	if p, err := c.Reply(client, body); p != (api.Packet{}) || err != want {
		t.Errorf("Reply(%d) answers %v, error %d, want %d", client, p, err, want)
	}
	if !bytes.Equal(c.Bytes(), ahead) {
		t.Errorf("behind Reply(%d) the callee knows something else", client)
	}
}

// wantBytes asks for what a callee knows.
func wantBytes(t *testing.T, c *Callee, want string) {
	t.Helper()
	if got := string(c.Bytes()); got != want {
		t.Errorf("Bytes are %q, want %q", got, want)
	}
}

// wantLoad loads a callee, and asks that it knows what the bytes say.
func wantLoad(t *testing.T, b string) *Callee {
	t.Helper()
	c, err := LoadCallee([]byte(b))
	if c == nil || err != api.OK {
		t.Fatalf("LoadCallee(%q) answers %v, error %d", b, c, err)
	}
	wantBytes(t, c, b)
	return c
}

// wantNoLoad asks that bytes are refused.
func wantNoLoad(t *testing.T, b string) {
	t.Helper()
	if c, err := LoadCallee([]byte(b)); c != nil || err != api.ErrForm {
		t.Errorf("LoadCallee(%q) answers %v, error %d", b, c, err)
	}
}

func TestNilCallee(t *testing.T) { // P1, P11.2
	var c *Callee
	wantNothing(t, c, ask(1, 0, 1, "a"))
	wantNothing(t, c, api.Packet{})
	for _, number := range []uint8{0, 1, 3, 4, 255} {
		wantNoReply(t, c, number, longBody+"x", api.ErrNil)
	}
	if len(c.Bytes()) > 0 {
		t.Error("nil has Bytes")
	}
}

func TestTakeWhatIsAsked(t *testing.T) { // P11.2
	c := NewCallee()
	wantOk(t, c, ask(1, 5, 10, "a"))
	wantNothing(t, c, ask(1, 5, 10, "a")) // it was not answered
	for _, elder := range []api.Packet{ask(1, 5, 9, "x"), ask(1, 4, 10, "x"), ask(1, 4, 11, "x"), ask(1, 0, math.MaxUint32, "x")} {
		wantNothing(t, c, elder)
	}
	a := answer(1, 5, 10, "re a")
	wantReply(t, c, 1, "re a", a)
	wantIs(t, c, ask(1, 5, 10, "a"), a)
	wantIs(t, c, ask(1, 5, 10, "another body"), a) // the numbers tell it
	for _, elder := range []api.Packet{ask(1, 5, 9, "x"), ask(1, 4, 10, "x"), ask(1, 4, 11, "x")} {
		wantNothing(t, c, elder)
	}
	wantIs(t, c, ask(1, 5, 10, "a"), a)
	wantOk(t, c, ask(1, 5, 11, "b"))
	wantNothing(t, c, ask(1, 5, 10, "a")) // its answer is gone
	wantOk(t, c, ask(1, 5, 20, "c"))      // though what was taken last was not answered
	wantOk(t, c, ask(1, 6, 1, ""))        // a greater epoch, whatever the number is
	wantNothing(t, c, ask(1, 5, 21, "x"))
	wantOk(t, c, ask(1, math.MaxUint32, math.MaxUint32, longBody))
	wantReply(t, c, 1, "", answer(1, math.MaxUint32, math.MaxUint32, ""))
	wantIs(t, c, ask(1, math.MaxUint32, math.MaxUint32, longBody), answer(1, math.MaxUint32, math.MaxUint32, ""))
}

func TestTheFirstIsTaken(t *testing.T) { // P11.2
	for _, p := range []api.Packet{ask(1, 0, 1, "a"), ask(2, 0, math.MaxUint32, ""), ask(3, math.MaxUint32, 1, longBody)} {
		wantOk(t, NewCallee(), p)
	}
}

func TestTakeOfTheWrong(t *testing.T) { // P11.2, P2
	wrong := []api.Packet{
		{},
		answer(1, 5, 10, "x"),
		ask(0, 5, 10, "x"),
		ask(api.MaxClients+1, 5, 10, "x"),
		ask(255, 5, 10, "x"),
		ask(1, 9, 0, "x"),
		ask(1, 9, 10, longBody+"x"),
		{Kind: api.NoPacket, From: 1, Epoch: 9, Seq: 10, Body: "x"},
		{Kind: 3, From: 1, Epoch: 9, Seq: 10, Body: "x"},
		{Kind: api.Ask, From: 1, To: 1, Epoch: 9, Seq: 10, Body: "x"},
		{Kind: api.Answer, From: 1, Epoch: 9, Seq: 10, Body: "x"},
	}
	c := NewCallee()
	for _, p := range wrong {
		wantNothing(t, c, p)
	}
	wantOk(t, c, ask(1, 5, 10, "a"))
	wantReply(t, c, 1, "b", answer(1, 5, 10, "b"))
	for _, p := range wrong {
		wantNothing(t, c, p)
	}
}

func TestClientsStandApart(t *testing.T) { // P11.2
	c := NewCallee()
	for number := uint8(1); number <= api.MaxClients; number++ {
		wantOk(t, c, ask(number, 9-uint32(number), 5, "a"))
	}
	wantReply(t, c, 2, "two", answer(2, 7, 5, "two"))
	wantNothing(t, c, ask(1, 8, 5, "a"))
	wantIs(t, c, ask(2, 7, 5, "a"), answer(2, 7, 5, "two"))
	wantNothing(t, c, ask(3, 6, 5, "a"))
	wantReply(t, c, 3, "three", answer(3, 6, 5, "three"))
	wantReply(t, c, 1, "one", answer(1, 8, 5, "one"))
}

func TestReply(t *testing.T) { // P11.2, P2
	c := NewCallee()
	for number := range 256 {
		want := api.ErrRange
		if number >= 1 && number <= api.MaxClients {
			want = api.ErrNoent
		}
		wantNoReply(t, c, uint8(number), "a", want)
		wantNoReply(t, c, uint8(number), longBody+"x", want) // named ahead of ErrForm
	}
	wantOk(t, c, ask(3, 0, 1, "a"))
	wantNoReply(t, c, 2, "a", api.ErrNoent)
	wantNoReply(t, c, 3, longBody+"x", api.ErrForm)
	wantReply(t, c, 3, longBody, answer(3, 0, 1, longBody))
	wantNoReply(t, c, 3, "again", api.ErrNoent)
	wantNoReply(t, c, 3, longBody+"x", api.ErrNoent)
	wantIs(t, c, ask(3, 0, 1, "a"), answer(3, 0, 1, longBody))
	wantNoReply(t, c, 3, "again", api.ErrNoent) // that it came again does not ask anew
	wantOk(t, c, ask(3, 0, 2, "b"))
	wantReply(t, c, 3, "c", answer(3, 0, 2, "c"))
}

func TestBytes(t *testing.T) { // P11.3
	c := NewCallee()
	wantBytes(t, c, "\x00\x00\x00")
	wantOk(t, c, ask(2, 0x01020304, 0x05060708, "not kept"))
	wantBytes(t, c, "\x00\x01\x01\x02\x03\x04\x05\x06\x07\x08\x00")
	wantReply(t, c, 2, "xyz", answer(2, 0x01020304, 0x05060708, "xyz"))
	wantBytes(t, c, "\x00\x02\x01\x02\x03\x04\x05\x06\x07\x08\x00\x03xyz\x00")
	wantOk(t, c, ask(3, 0, 1, ""))
	wantReply(t, c, 3, "", answer(3, 0, 1, ""))
	wantOk(t, c, ask(1, math.MaxUint32, 256, "a"))
	wantReply(t, c, 1, longBody, answer(1, math.MaxUint32, 256, longBody))
	wantBytes(t, c, "\x02\xff\xff\xff\xff\x00\x00\x01\x00\x40\x00"+longBody+
		"\x02\x01\x02\x03\x04\x05\x06\x07\x08\x00\x03xyz"+
		"\x02\x00\x00\x00\x00\x00\x00\x00\x01\x00\x00")
}

// someBytes are Bytes of callees.
var someBytes = []string{
	"\x00\x00\x00",
	"\x01\x00\x00\x00\x00\x00\x00\x00\x01\x00\x00",
	"\x00\x01\xff\xff\xff\xff\xff\xff\xff\xff\x00",
	"\x00\x00\x02\x01\x02\x03\x04\x05\x06\x07\x08\x00\x00",
	"\x02\x00\x00\x00\x09\x00\x00\x01\x00\x00\x03abc\x01\x00\x00\x00\x00\x00\x00\x00\x01\x02\x00\x00\x00\x00\x00\x00\x00\x01\x00\x01\x00",
	"\x00\x02\x00\x00\x00\x00\x00\x00\x00\x01\x40\x00" + longBody + "\x00",
}

func TestLoadCallee(t *testing.T) { // P11.3
	for _, b := range someBytes {
		wantLoad(t, b)
	}
	c := wantLoad(t, someBytes[4])
	wantIs(t, c, ask(1, 9, 256, "?"), answer(1, 9, 256, "abc"))
	wantNothing(t, c, ask(2, 0, 1, "?"))
	wantReply(t, c, 2, "now", answer(2, 0, 1, "now"))
	wantIs(t, c, ask(3, 0, 1, "?"), answer(3, 0, 1, "\x00"))
	wantNoReply(t, c, 1, "again", api.ErrNoent)
}

func TestLoadOfTheWrong(t *testing.T) { // P11.3, P2
	if c, err := LoadCallee(nil); c != nil || err != api.ErrForm {
		t.Errorf("LoadCallee(nil) answers %v, error %d", c, err)
	}
	for _, b := range someBytes[:5] {
		for size := range len(b) {
			wantNoLoad(t, b[:size])
		}
		for _, more := range []string{"\x00", "\x01", "\x02", "\xff", b} {
			wantNoLoad(t, b+more)
		}
	}
	long := someBytes[5]
	wantNoLoad(t, long[:len(long)-1])
	wantNoLoad(t, long+"\x00")
	wantNoLoad(t, "\x03\x00\x00")
	wantNoLoad(t, "\x00\x00\xff")
	wantNoLoad(t, "\x00\x03\x00\x00\x00\x09\x00\x00\x01\x00\x00")
	wantNoLoad(t, "\x01\x00\x00\x00\x09\x00\x00\x00\x00\x00\x00")         // no call has the number 0
	wantNoLoad(t, "\x02\x00\x00\x00\x09\x00\x00\x00\x00\x00\x00\x00\x00") // nor has one that was answered
	for _, length := range []int{api.MaxBody + 1, 65535} {
		wantNoLoad(t, "\x02\x00\x00\x00\x09\x00\x00\x00\x01"+string([]byte{byte(length >> 8), byte(length)})+strings.Repeat("b", length)+"\x00\x00")
	}
}

func TestLoadOfAnyBytes(t *testing.T) { // P1, P11.3
	chance := rand.New(rand.NewPCG(11, 3))
	loaded := 0
	for range 200000 {
		b := []byte(someBytes[chance.IntN(5)])
		for range 1 + chance.IntN(3) {
			b[chance.IntN(len(b))] = byte(chance.IntN(4))
		}
		c, err := LoadCallee(b)
		switch {
		case err == api.OK && bytes.Equal(c.Bytes(), b):
			loaded++
		case err != api.ErrForm || c != nil:
			t.Fatalf("LoadCallee(%q) answers %v, error %d", b, c, err)
		}
	}
	if loaded == 0 {
		t.Error("nothing could be loaded")
	}
}

func TestListsOfACallee(t *testing.T) { // P3
	room := append([]byte(someBytes[4]), "spare"...)
	b := room[:len(someBytes[4])]
	c, _ := LoadCallee(b)
	if string(room) != someBytes[4]+"spare" {
		t.Error("what was handed in has changed")
	}
	clear(room)
	wantBytes(t, c, someBytes[4])
	first, second := c.Bytes(), c.Bytes()
	clear(first[:cap(first)])
	wantBytes(t, c, someBytes[4])
	if string(second) != someBytes[4] {
		t.Error("two answers share their bytes")
	}
	wantIs(t, c, ask(1, 9, 256, "?"), answer(1, 9, 256, "abc"))
}

// memory is a callee by the document's words.
type memory map[uint8]*heard

type heard struct {
	epoch, seq uint32
	answer     *api.Packet
}

// take takes a packet, as the document says; they are all right.
func (m memory) take(p api.Packet) (body string, ok bool, again api.Packet, is bool) {
	last := m[p.From]
	if last == nil || p.Epoch > last.epoch || p.Epoch == last.epoch && p.Seq > last.seq {
		m[p.From] = &heard{epoch: p.Epoch, seq: p.Seq}
		return p.Body, true, api.Packet{}, false
	}
	if p.Epoch == last.epoch && p.Seq == last.seq && last.answer != nil {
		return "", false, *last.answer, true
	}
	return "", false, api.Packet{}, false
}

// reply answers, as the document says.
func (m memory) reply(client uint8, body string) (api.Packet, api.Errno) {
	if client < 1 || client > api.MaxClients {
		return api.Packet{}, api.ErrRange
	}
	last := m[client]
	if last == nil || last.answer != nil {
		return api.Packet{}, api.ErrNoent
	}
	p := answer(client, last.epoch, last.seq, body)
	last.answer = &p
	return p, api.OK
}

func TestLikeTheMemory(t *testing.T) { // P11.2
	for seed := range uint64(200) {
		chance := rand.New(rand.NewPCG(seed, 12))
		c, m := NewCallee(), memory{}
		for range 200 {
			body := "abc"[:chance.IntN(4)]
			if chance.IntN(3) > 0 {
				p := ask(uint8(1+chance.IntN(api.MaxClients)), uint32(chance.IntN(4)), uint32(1+chance.IntN(5)), body)
				got, ok, again, is := c.Take(p)
				want, wantOk, wantAgain, wantIs := m.take(p)
				if got != want || ok != wantOk || again != wantAgain || is != wantIs {
					t.Fatalf("Take(%v) answers %q, %v, %v, %v, want %q, %v, %v, %v", p, got, ok, again, is, want, wantOk, wantAgain, wantIs)
				}
				continue
			}
			number := uint8(chance.IntN(api.MaxClients + 2))
			got, err := c.Reply(number, body)
			if want, wantErr := m.reply(number, body); got != want || err != wantErr {
				t.Fatalf("Reply(%d) answers %v, error %d, want %v, %d", number, got, err, want, wantErr)
			}
		}
	}
}

func TestTwoCallees(t *testing.T) { // P6
	a, b := NewCallee(), NewCallee()
	wantOk(t, a, ask(1, 0, 1, "a"))
	wantBytes(t, b, "\x00\x00\x00")
	if a == b || slices.Equal(a.Bytes(), b.Bytes()) {
		t.Error("two callees are one")
	}
}
