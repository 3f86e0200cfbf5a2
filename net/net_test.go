package net

import (
	"math"
	"math/rand/v2"
	"slices"
	"strings"
	"testing"

	"backwater/api"
	"backwater/frame"
)

// ask is a packet of a client to the server.
func ask(from uint8, body string) api.Packet {
	return api.Packet{Kind: api.Ask, From: from, Epoch: 7, Seq: 3, Body: body}
}

// answer is a packet of the server to a client.
func answer(to uint8, body string) api.Packet {
	return api.Packet{Kind: api.Answer, To: to, Epoch: 8, Seq: 4, Body: body}
}

// sent is a net with packets under way.
func sent(t *testing.T, l ...api.Packet) *Net {
	t.Helper()
	n := New()
	if n == nil {
		t.Fatal("New is nil")
	}
	for _, p := range l {
		wantErr(t, n.Send(p), api.OK)
	}
	return n
}

// many are as many packets as may be under way, each with a Body of its own.
func many() []api.Packet {
	var l []api.Packet
	for i := range api.MaxPackets {
		l = append(l, ask(1, strings.Repeat("x", i)))
	}
	return l
}

// wantErr asks for an error.
func wantErr(t *testing.T, got, want api.Errno) {
	t.Helper()
	if got != want {
		t.Errorf("error %d, want %d", got, want)
	}
}

// wantList asks for what is under way.
func wantList(t *testing.T, n *Net, want ...api.Packet) {
	t.Helper()
	if got := n.List(); !slices.Equal(got, want) {
		t.Errorf("under way are %v, want %v", got, want)
	}
}

// wantDeliver delivers the i-th packet, and asks which one it is.
func wantDeliver(t *testing.T, n *Net, i int, want api.Packet) {
	t.Helper()
	if p, err := n.Deliver(i); p != want || err != api.OK {
		t.Errorf("Deliver(%d) answers %v, error %d, want %v", i, p, err, want)
	}
}

// wantNoDeliver asks that the i-th packet is not delivered.
func wantNoDeliver(t *testing.T, n *Net, i int, want api.Errno) {
	t.Helper()
	if p, err := n.Deliver(i); p != (api.Packet{}) || err != want {
		t.Errorf("Deliver(%d) answers %v, error %d, want %d", i, p, err, want)
	}
}

// wantOff asks which clients are cut off; no other number ever is.
func wantOff(t *testing.T, n *Net, want ...uint8) {
	t.Helper()
	for client := range 256 {
		if c := uint8(client); n.Off(c) != slices.Contains(want, c) {
			t.Errorf("Off(%d) is %v", c, n.Off(c))
		}
	}
}

func TestNew(t *testing.T) { // P10.1, P10.2
	n := sent(t)
	wantList(t, n)
	wantOff(t, n)
	wantNoDeliver(t, n, 0, api.ErrRange)
	if New() == New() {
		t.Error("two nets are one")
	}
}

func TestNil(t *testing.T) { // P1, P10.1
	var n *Net
	wantErr(t, n.Send(ask(1, "")), api.ErrNil)
	wantErr(t, n.Send(api.Packet{}), api.ErrNil)
	for _, i := range []int{0, -1, 5} {
		wantNoDeliver(t, n, i, api.ErrNil)
		wantErr(t, n.Drop(i), api.ErrNil)
		wantErr(t, n.Double(i), api.ErrNil)
	}
	for _, client := range []uint8{0, 1, 3, 4, 255} {
		wantErr(t, n.Part(client, true), api.ErrNil)
	}
	wantList(t, n)
	wantOff(t, n)
	if n.Fork() != nil {
		t.Error("the Fork of nil is not nil")
	}
}

func TestSend(t *testing.T) { // P10.1, P10.2
	l := []api.Packet{
		ask(2, "b"), answer(3, ""), ask(1, strings.Repeat("x", api.MaxBody)), ask(2, "b"), answer(1, "\x00\xff"),
		{Kind: api.Ask, From: 3, Epoch: 1<<32 - 1, Seq: 1<<32 - 1},
	}
	n := sent(t)
	for i, p := range l {
		wantErr(t, n.Send(p), api.OK)
		wantList(t, n, l[:i+1]...) // each one behind all, alike ones too
	}
}

func TestSendOfTheWrong(t *testing.T) { // P10.1, P2
	n := sent(t, ask(1, "a"))
	wrong := []api.Packet{
		{},
		{Kind: api.NoPacket, From: 1, Seq: 1},
		{Kind: 3, From: 1, Seq: 1},
		{Kind: api.Ask, From: 1},
		{Kind: api.Ask, Seq: 1},
		{Kind: api.Ask, From: 1, To: 1, Seq: 1},
		{Kind: api.Ask, From: api.MaxClients + 1, Seq: 1},
		{Kind: api.Ask, From: 255, Seq: 1},
		{Kind: api.Ask, To: 1, Seq: 1},
		{Kind: api.Answer, From: 1, Seq: 1},
		{Kind: api.Answer, From: 1, To: 1, Seq: 1},
		{Kind: api.Answer, To: api.MaxClients + 1, Seq: 1},
		{Kind: api.Answer, To: 1},
		ask(1, strings.Repeat("x", api.MaxBody+1)),
	}
	for _, p := range wrong {
		wantErr(t, n.Send(p), api.ErrForm)
		wantList(t, n, ask(1, "a"))
	}
	n = sent(t, many()...)
	for _, p := range wrong {
		wantErr(t, n.Send(p), api.ErrForm) // named ahead of ErrSpace
	}
}

func TestMostPackets(t *testing.T) { // P10.1, P10.4
	l := many()
	n := sent(t, l...)
	wantErr(t, n.Send(answer(2, "more")), api.ErrSpace)
	wantErr(t, n.Double(0), api.ErrSpace)
	wantErr(t, n.Double(api.MaxPackets), api.ErrRange) // named ahead of ErrSpace
	wantErr(t, n.Double(-1), api.ErrRange)
	wantList(t, n, l...)
	wantDeliver(t, n, api.MaxPackets-1, l[api.MaxPackets-1])
	wantErr(t, n.Double(0), api.OK)
	wantErr(t, n.Send(answer(2, "more")), api.ErrSpace)
	wantErr(t, n.Drop(0), api.OK)
	wantErr(t, n.Send(answer(2, "more")), api.OK)
	wantErr(t, n.Double(3), api.ErrSpace)
	wantList(t, n, slices.Concat(l[1:api.MaxPackets-1], []api.Packet{l[0], answer(2, "more")})...)
}

func TestDeliver(t *testing.T) { // P10.1, P10.3
	a, b, c, d := ask(1, "a"), answer(2, "b"), ask(3, "c"), answer(1, "d")
	n := sent(t, a, b, c, d)
	wantDeliver(t, n, 1, b)
	wantList(t, n, a, c, d)
	wantDeliver(t, n, 2, d)
	wantList(t, n, a, c)
	wantDeliver(t, n, 0, a)
	wantDeliver(t, n, 0, c)
	wantNoDeliver(t, n, 0, api.ErrRange)
	wantList(t, n)
	wantErr(t, n.Send(b), api.OK)
	wantList(t, n, b)
	wantDeliver(t, n, 0, b)
}

func TestNumbersThatAreNotThere(t *testing.T) { // P10.1, P2
	l := []api.Packet{ask(1, "a"), answer(2, "b")}
	for many := range 3 {
		n := sent(t, l[:many]...)
		n.Part(1, true)
		n.Part(2, true)
		for _, i := range []int{-1, many, many + 1, -many - 1, 24, math.MaxInt, math.MinInt, 1 << 32, -1 << 32} {
			wantNoDeliver(t, n, i, api.ErrRange)
			wantErr(t, n.Drop(i), api.ErrRange)
			wantErr(t, n.Double(i), api.ErrRange)
			wantList(t, n, l[:many]...)
		}
	}
}

func TestDrop(t *testing.T) { // P10.1
	a, b, c := ask(1, "a"), answer(2, "b"), ask(3, "c")
	n := sent(t, a, b, c)
	wantErr(t, n.Part(2, true), api.OK)
	wantErr(t, n.Drop(1), api.OK) // though its client is cut off
	wantList(t, n, a, c)
	wantErr(t, n.Drop(1), api.OK)
	wantList(t, n, a)
	wantErr(t, n.Drop(0), api.OK)
	wantErr(t, n.Drop(0), api.ErrRange)
	wantList(t, n)
}

func TestDouble(t *testing.T) { // P10.1, example 1
	a, b := ask(1, "a"), answer(2, "b")
	n := sent(t, a)
	wantErr(t, n.Double(0), api.OK)
	wantErr(t, n.Drop(0), api.OK)
	wantList(t, n, a)
	n = sent(t, a, b)
	wantErr(t, n.Part(1, true), api.OK)
	wantErr(t, n.Double(0), api.OK) // though its client is cut off
	wantErr(t, n.Double(1), api.OK)
	wantList(t, n, a, b, a, b)
	wantDeliver(t, n, 3, b)
	wantDeliver(t, n, 1, b)
	wantList(t, n, a, a)
}

func TestPart(t *testing.T) { // P10.1, P10.2
	n := sent(t)
	for client := range 256 {
		if client >= 1 && client <= api.MaxClients {
			continue
		}
		wantErr(t, n.Part(uint8(client), true), api.ErrRange)
		wantErr(t, n.Part(uint8(client), false), api.ErrRange)
	}
	wantOff(t, n)
	for client := uint8(1); client <= api.MaxClients; client++ {
		wantErr(t, n.Part(client, false), api.OK)
		wantOff(t, n)
		wantErr(t, n.Part(client, true), api.OK)
		wantErr(t, n.Part(client, true), api.OK)
		wantOff(t, n, client)
		wantErr(t, n.Part(client, false), api.OK)
	}
	n.Part(1, true)
	n.Part(3, true)
	wantOff(t, n, 1, 3)
}

func TestOneThatIsCutOff(t *testing.T) { // P10.1, the word 'a packet's client'
	for client := uint8(1); client <= api.MaxClients; client++ {
		other := client%api.MaxClients + 1
		l := []api.Packet{ask(client, "a"), answer(client, "b"), ask(other, "c"), answer(other, "d")}
		n := sent(t, l...)
		wantErr(t, n.Part(client, true), api.OK)
		wantNoDeliver(t, n, 0, api.ErrTimeout) // its own, on the way to the server
		wantNoDeliver(t, n, 1, api.ErrTimeout) // and what comes to it
		wantList(t, n, l...)
		wantDeliver(t, n, 2, l[2])
		wantDeliver(t, n, 2, l[3])
		wantErr(t, n.Send(l[1]), api.OK) // it is under way, though it does not come
		wantNoDeliver(t, n, 2, api.ErrTimeout)
		wantErr(t, n.Part(client, false), api.OK)
		wantDeliver(t, n, 2, l[1])
		wantDeliver(t, n, 1, l[1])
		wantDeliver(t, n, 0, l[0])
	}
}

func TestFork(t *testing.T) { // P10.2, P4
	a, b, c := ask(1, "a"), answer(2, "b"), ask(3, "c")
	for name, change := range map[string]func(n *Net){
		"send":    func(n *Net) { n.Send(answer(1, "z")) },
		"deliver": func(n *Net) { n.Deliver(0) },
		"drop":    func(n *Net) { n.Drop(0); n.Drop(0); n.Drop(0) },
		"double":  func(n *Net) { n.Double(1) },
		"part":    func(n *Net) { n.Part(1, true); n.Part(2, false) },
		"of many": func(n *Net) { n.Drop(2); n.Send(a); n.Drop(0); n.Double(0) },
	} {
		for _, mine := range []bool{false, true} {
			n := sent(t, a, b, c, c)
			n.Drop(3) // it leaves spare room behind the end
			n.Part(2, true)
			f := n.Fork()
			if mine {
				n, f = f, n
			}
			change(n)
			t.Log(name)
			wantList(t, f, a, b, c)
			wantOff(t, f, 2)
			wantErr(t, f.Send(b), api.OK)
			change(n)
			wantList(t, f, a, b, c, b)
		}
	}
}

func TestWhatIsAnswered(t *testing.T) { // P3
	a, b := ask(1, "a"), answer(2, "b")
	n := sent(t, a, b, a)
	l := n.List()
	n.Drop(2)
	if !slices.Equal(l, []api.Packet{a, b, a}) {
		t.Error("what was answered has changed")
	}
	clear(l[:cap(l)])
	wantList(t, n, a, b)
	_ = append(n.List(), answer(3, "z"))
	wantErr(t, n.Send(a), api.OK)
	wantList(t, n, a, b, a)
}

// model is a net by the document's words.
type model struct {
	underWay []api.Packet
	off      map[uint8]bool
}

// without is a list without its i-th element.
func without(l []api.Packet, i int) []api.Packet {
	return slices.Concat(l[:i], l[i+1:])
}

// deliver takes the i-th packet out, as the document says.
func (m *model) deliver(i int) (api.Packet, api.Errno) {
	if i < 0 || i >= len(m.underWay) {
		return api.Packet{}, api.ErrRange
	}
	p := m.underWay[i]
	if m.off[max(p.From, p.To)] { // one of them is 0
		return api.Packet{}, api.ErrTimeout
	}
	m.underWay = without(m.underWay, i)
	return p, api.OK
}

// double puts one like the i-th packet behind all, as the document says.
func (m *model) double(i int) api.Errno {
	switch {
	case i < 0 || i >= len(m.underWay):
		return api.ErrRange
	case len(m.underWay) == api.MaxPackets:
		return api.ErrSpace
	}
	m.underWay = append(m.underWay, m.underWay[i])
	return api.OK
}

// send puts a packet behind all, as the document says.
func (m *model) send(p api.Packet) api.Errno {
	switch {
	case !frame.Right(p):
		return api.ErrForm
	case len(m.underWay) == api.MaxPackets:
		return api.ErrSpace
	}
	m.underWay = append(m.underWay, p)
	return api.OK
}

// chosen is a packet by chance, not always a right one.
func chosen(chance *rand.Rand) api.Packet {
	p := api.Packet{Kind: api.PacketKind(chance.IntN(4)), Epoch: chance.Uint32(), Seq: uint32(chance.IntN(5)), Body: "abc"[:chance.IntN(4)]}
	who := uint8(chance.IntN(5))
	if p.Kind == api.Answer {
		p.To = who
	} else {
		p.From = who
	}
	return p
}

// step does one thing to a net and to its model.
func (m *model) step(t *testing.T, n *Net, chance *rand.Rand) {
	t.Helper()
	i := chance.IntN(len(m.underWay)+3) - 1
	switch chance.IntN(9) {
	case 0, 1, 2:
		p := chosen(chance)
		wantErr(t, n.Send(p), m.send(p))
	case 3, 4:
		want, wantErrno := m.deliver(i)
		if p, err := n.Deliver(i); p != want || err != wantErrno {
			t.Fatalf("Deliver(%d) answers %v, error %d, want %v, %d", i, p, err, want, wantErrno)
		}
	case 5, 6:
		wantErr(t, n.Double(i), m.double(i))
	case 7:
		want := api.ErrRange
		if i >= 0 && i < len(m.underWay) {
			m.underWay, want = without(m.underWay, i), api.OK
		}
		wantErr(t, n.Drop(i), want)
	case 8:
		client, off, want := uint8(chance.IntN(5)), chance.IntN(2) == 0, api.ErrRange
		if client >= 1 && client <= api.MaxClients {
			m.off[client], want = off, api.OK
		}
		wantErr(t, n.Part(client, off), want)
	}
}

func TestLikeTheModel(t *testing.T) { // P10.1 to P10.4, P2
	full := 0
	for seed := range uint64(200) {
		chance := rand.New(rand.NewPCG(seed, 10))
		n, m := sent(t), &model{off: map[uint8]bool{}}
		for range 200 {
			m.step(t, n, chance)
			wantList(t, n, m.underWay...)
			for client := range uint8(6) {
				if n.Off(client) != m.off[client] {
					t.Errorf("Off(%d) is %v", client, n.Off(client))
				}
			}
			if t.Failed() {
				t.FailNow()
			}
			if len(n.List()) == api.MaxPackets {
				full++
			}
		}
	}
	if full == 0 {
		t.Error("no net was ever full")
	}
}
