package rpc

import (
	"math"
	"math/rand/v2"
	"strconv"
	"strings"
	"testing"

	"backwater/api"
	"backwater/frame"
)

const (
	client = 2
	epoch  = 7
)

var longBody = strings.Repeat("\xff", api.MaxBody)

// ask is the packet that asks.
func ask(from uint8, epoch, seq uint32, body string) api.Packet {
	return api.Packet{Kind: api.Ask, From: from, Epoch: epoch, Seq: seq, Body: body}
}

// answer is the packet that answers.
func answer(to uint8, epoch, seq uint32, body string) api.Packet {
	return api.Packet{Kind: api.Answer, To: to, Epoch: epoch, Seq: seq, Body: body}
}

// calling is a caller with a call under way.
func calling(t *testing.T, body string) *Caller {
	t.Helper()
	c := NewCaller(client, epoch)
	wantErr(t, c.Call(body), api.OK)
	return c
}

// wantErr asks for an error.
func wantErr(t *testing.T, got, want api.Errno) {
	t.Helper()
	if got != want {
		t.Errorf("error %d, want %d", got, want)
	}
}

// wantTick asks for the packet that is sent at a time.
func wantTick(t *testing.T, c *Caller, now uint64, want api.Packet) {
	t.Helper()
	if p, ok := c.Tick(now); p != want || !ok {
		t.Errorf("Tick(%d) answers %v, %v, want %v", now, p, ok, want)
	}
}

// wantNoTick asks that nothing is sent at a time.
func wantNoTick(t *testing.T, c *Caller, now uint64) {
	t.Helper()
	if p, ok := c.Tick(now); p != (api.Packet{}) || ok {
		t.Errorf("Tick(%d) answers %v, %v", now, p, ok)
	}
}

// wantTake asks for what a caller takes out of a packet.
func wantTake(t *testing.T, c *Caller, p api.Packet, want string) {
	t.Helper()
	if body, ok := c.Take(p); body != want || !ok {
		t.Errorf("Take(%v) answers %q, %v", p, body, ok)
	}
}

// wantNoTake asks that a caller does not take a packet.
func wantNoTake(t *testing.T, c *Caller, p api.Packet) {
	t.Helper()
	if body, ok := c.Take(p); body != "" || ok {
		t.Errorf("Take(%v) answers %q, %v", p, body, ok)
	}
}

// wantState asks how a caller stands.
func wantState(t *testing.T, c *Caller, busy, down bool) {
	t.Helper()
	if c.Busy() != busy || c.Down() != down {
		t.Errorf("Busy %v, Down %v, want %v, %v", c.Busy(), c.Down(), busy, down)
	}
}

func TestNewCaller(t *testing.T) { // P11.1
	for number := range 256 {
		c := NewCaller(uint8(number), epoch)
		if may := number >= 1 && number <= api.MaxClients; may != (c != nil) {
			t.Errorf("NewCaller(%d) is %v", number, c)
		}
	}
	for _, e := range []uint32{0, 1, math.MaxUint32} {
		c := NewCaller(3, e)
		wantState(t, c, false, false)
		wantNoTick(t, c, 0)
		wantErr(t, c.Call("a"), api.OK)
		wantTick(t, c, 0, ask(3, e, 1, "a"))
	}
}

func TestNilCaller(t *testing.T) { // P1, P11.1
	var c *Caller
	for _, body := range []string{"", "a", longBody + "x"} {
		wantErr(t, c.Call(body), api.ErrNil)
	}
	wantNoTick(t, c, 0)
	wantNoTick(t, c, math.MaxUint64)
	wantNoTake(t, c, answer(1, 0, 1, "a"))
	wantNoTake(t, c, api.Packet{})
	wantErr(t, c.Cancel(), api.ErrNil)
	wantState(t, c, false, false)
	if c.Fork() != nil {
		t.Error("the Fork of nil is not nil")
	}
}

func TestCall(t *testing.T) { // P11.1, P2
	c := calling(t, "one")
	wantState(t, c, true, false)
	wantErr(t, c.Call("two"), api.ErrBusy)
	wantErr(t, c.Call(longBody+"x"), api.ErrBusy) // named ahead of ErrForm
	wantTick(t, c, 0, ask(client, epoch, 1, "one"))
	wantTake(t, c, answer(client, epoch, 1, ""), "")
	wantErr(t, c.Call(longBody+"x"), api.ErrForm)
	wantState(t, c, false, false)
	wantNoTick(t, c, 100)
	wantErr(t, c.Call(longBody), api.OK)
	wantTick(t, c, 0, ask(client, epoch, 2, longBody)) // what was refused had no number
	wantErr(t, c.Cancel(), api.OK)
	wantErr(t, c.Call(""), api.OK)
	wantTick(t, c, 0, ask(client, epoch, 3, "")) // what was given up had one
}

func TestMostCalls(t *testing.T) { // P11.1, P5
	c := NewCaller(client, epoch)
	c.number = math.MaxUint32 - 1 // so many calls would take their time
	wantErr(t, c.Call("last"), api.OK)
	wantTick(t, c, 5, ask(client, epoch, math.MaxUint32, "last"))
	wantErr(t, c.Call("more"), api.ErrBusy)
	wantTake(t, c, answer(client, epoch, math.MaxUint32, "a"), "a")
	wantErr(t, c.Call(longBody+"x"), api.ErrForm) // named ahead of ErrRange
	for range 3 {
		wantErr(t, c.Call("more"), api.ErrRange)
		wantState(t, c, false, false)
		wantNoTick(t, c, 100)
	}
}

func TestTick(t *testing.T) { // P11.1, example 1
	c := calling(t, "b")
	want := ask(client, epoch, 1, "b")
	wantTick(t, c, 0, want)
	for now := range uint64(4) {
		wantNoTick(t, c, now)
	}
	wantTick(t, c, 4, want)
	wantNoTick(t, c, 7)
	wantTick(t, c, 1000, want)
	wantNoTick(t, c, 1003)
	wantTick(t, c, 1004, want)
}

func TestTickAtTheEdges(t *testing.T) { // P11.1, P5
	c := calling(t, "b")
	want := ask(client, epoch, 1, "b")
	wantTick(t, c, math.MaxUint64, want) // a first time at any time
	for _, now := range []uint64{0, 3, 4, 100, math.MaxUint64 - 4, math.MaxUint64 - 1, math.MaxUint64} {
		wantNoTick(t, c, now) // a time ahead of the last one is not behind it
	}
	c = calling(t, "b")
	wantTick(t, c, math.MaxUint64-4, want)
	wantNoTick(t, c, math.MaxUint64-1)
	wantNoTick(t, c, 0)
	wantTick(t, c, math.MaxUint64, want)
}

func TestDown(t *testing.T) { // P11.1
	c := calling(t, "b")
	for i := range 10 {
		wantState(t, c, true, i > 5)
		wantTick(t, c, uint64(4*i), ask(client, epoch, 1, "b"))
		wantNoTick(t, c, uint64(4*i)) // what was not sent does not count
	}
	wantState(t, c, true, true)
	wantTake(t, c, answer(client, epoch, 1, "late"), "late") // it is taken all the same
	wantState(t, c, false, false)
	wantErr(t, c.Call("c"), api.OK)
	wantState(t, c, true, false)
	wantTick(t, c, 0, ask(client, epoch, 2, "c")) // it was never sent, whatever was sent ahead of it
	wantState(t, c, true, false)
}

func TestTakeAnAnswer(t *testing.T) { // P11.1, P11.5
	wrong := []api.Packet{
		{},
		ask(client, epoch, 1, "x"),
		answer(client-1, epoch, 1, "x"),
		answer(client+1, epoch, 1, "x"),
		answer(0, epoch, 1, "x"),
		answer(client, epoch-1, 1, "x"),
		answer(client, epoch+1, 1, "x"),
		answer(client, epoch, 0, "x"),
		answer(client, epoch, 2, "x"),
		answer(client, epoch, 1, longBody+"x"),
		{Kind: api.NoPacket, To: client, Epoch: epoch, Seq: 1, Body: "x"},
		{Kind: 3, To: client, Epoch: epoch, Seq: 1, Body: "x"},
		{Kind: api.Answer, From: 1, To: client, Epoch: epoch, Seq: 1, Body: "x"},
	}
	c := calling(t, "b")
	for _, sent := range []bool{false, true} {
		for _, p := range wrong {
			wantNoTake(t, c, p)
			wantState(t, c, true, false)
		}
		if !sent {
			wantTick(t, c, 0, ask(client, epoch, 1, "b"))
		}
	}
	wantTake(t, c, answer(client, epoch, 1, longBody), longBody)
	wantState(t, c, false, false)
	wantNoTake(t, c, answer(client, epoch, 1, "again"))
	wantNoTick(t, c, 100)
	wantErr(t, c.Call("c"), api.OK)
	wantNoTake(t, c, answer(client, epoch, 1, "again")) // it is that of another call
	wantTake(t, c, answer(client, epoch, 2, "it"), "it")
}

func TestNothingIsTakenWithoutACall(t *testing.T) { // P11.1
	c := NewCaller(client, epoch)
	for seq := range uint32(3) {
		wantNoTake(t, c, answer(client, epoch, seq, "x"))
	}
}

func TestCancel(t *testing.T) { // P11.1
	c := NewCaller(client, epoch)
	wantErr(t, c.Cancel(), api.ErrNoent)
	wantErr(t, c.Call("a"), api.OK)
	wantErr(t, c.Cancel(), api.OK)
	wantState(t, c, false, false)
	wantErr(t, c.Cancel(), api.ErrNoent)
	wantNoTick(t, c, 0)
	wantNoTake(t, c, answer(client, epoch, 1, "x"))
	wantErr(t, c.Call("b"), api.OK)
	wantNoTake(t, c, answer(client, epoch, 1, "x"))
	wantTick(t, c, 0, ask(client, epoch, 2, "b"))
}

func TestForkOfACaller(t *testing.T) { // P11.1, P4
	for name, change := range map[string]func(c *Caller){
		"take":   func(c *Caller) { c.Take(answer(client, epoch, 1, "x")) },
		"cancel": func(c *Caller) { c.Cancel() },
		"other":  func(c *Caller) { c.Cancel(); c.Call("other") },
		"tick":   func(c *Caller) { c.Tick(9); c.Tick(20); c.Tick(30); c.Tick(40); c.Tick(50) },
	} {
		for _, mine := range []bool{false, true} {
			t.Log(name)
			c := calling(t, "b")
			wantTick(t, c, 5, ask(client, epoch, 1, "b"))
			f := c.Fork()
			if mine {
				c, f = f, c
			}
			change(c)
			wantState(t, f, true, false)
			wantNoTick(t, f, 8)
			wantTick(t, f, 9, ask(client, epoch, 1, "b"))
			wantTake(t, f, answer(client, epoch, 1, "a"), "a")
			wantErr(t, f.Call("c"), api.OK)
			wantTick(t, f, 9, ask(client, epoch, 2, "c"))
		}
	}
}

// road is packets under way that are lost, doubled and late.
type road struct {
	chance  *rand.Rand
	packets []api.Packet
}

// send puts a packet on the road, from none to three times.
func (r *road) send(p api.Packet) {
	for range r.chance.IntN(4) {
		r.packets = append(r.packets, p)
	}
}

// next is a packet of the road, which mostly is gone then.
func (r *road) next() (api.Packet, bool) {
	if len(r.packets) == 0 {
		return api.Packet{}, false
	}
	i := r.chance.IntN(len(r.packets))
	p := r.packets[i]
	if r.chance.IntN(8) > 0 {
		r.packets = append(r.packets[:i], r.packets[i+1:]...)
	}
	return p, true
}

// meeting is callers that ask a callee over a road, each body once.
type meeting struct {
	*road
	callers [api.MaxClients]*Caller
	epochs  [api.MaxClients]uint32
	callee  *Callee
	bodies  [api.MaxClients]string // what was asked last
	asked   int
	done    map[string]int // by bodies: how often it was taken
	ended   map[string]int // by bodies: how often its answer was taken
}

func newMeeting(seed uint64) *meeting {
	m := &meeting{
		road: &road{chance: rand.New(rand.NewPCG(seed, 11))}, callee: NewCallee(),
		done: map[string]int{}, ended: map[string]int{},
	}
	for i := range m.callers {
		m.callers[i] = NewCaller(uint8(i+1), 0)
	}
	return m
}

// call lets a caller ask something that nobody asked yet.
func (m *meeting) call(i int) {
	body := strconv.Itoa(m.asked)
	if m.callers[i].Call(body) == api.OK {
		m.asked++
		m.bodies[i] = body
	}
}

// deliver takes a packet off the road.
func (m *meeting) deliver(t *testing.T) {
	p, ok := m.next()
	switch {
	case !ok:
	case p.Kind == api.Ask:
		m.hear(t, p)
	default:
		i := p.To - 1
		if body, ok := m.callers[i].Take(p); ok {
			m.ended[m.bodies[i]]++
			if body != "to "+m.bodies[i] {
				t.Errorf("the answer to %q is %q", m.bodies[i], body)
			}
		}
	}
}

// hear lets the callee take a packet, and answer it, at once or later.
func (m *meeting) hear(t *testing.T, p api.Packet) {
	body, ok, again, is := m.callee.Take(p)
	switch {
	case ok && is || !ok && body != "" || !is && again != (api.Packet{}):
		t.Errorf("Take(%v) answers %q, %v, %v, %v", p, body, ok, again, is)
	case ok:
		m.done[body]++
		if m.chance.IntN(8) > 0 { // else it is never answered
			a, err := m.callee.Reply(p.From, "to "+body)
			wantErr(t, err, api.OK)
			m.send(a)
		}
	case is:
		m.send(again)
	}
}

// step does one thing.
func (m *meeting) step(t *testing.T, now uint64) {
	i := m.chance.IntN(api.MaxClients)
	switch m.chance.IntN(20) {
	case 0, 1:
		m.call(i)
	case 2:
		m.callers[i].Cancel()
	case 3:
		m.epochs[i]++
		m.callers[i] = NewCaller(uint8(i+1), m.epochs[i])
	case 4:
		loaded, err := LoadCallee(m.callee.Bytes())
		wantErr(t, err, api.OK)
		m.callee = loaded
	case 5, 6, 7, 8, 9, 10:
		if p, ok := m.callers[i].Tick(now); ok {
			if !frame.Right(p) {
				t.Errorf("%v is sent", p)
			}
			m.send(p)
		}
	default:
		m.deliver(t)
	}
}

func TestOnce(t *testing.T) { // P11.4, P11.5
	ended := 0
	for seed := range uint64(300) {
		m := newMeeting(seed)
		for now := range uint64(400) {
			m.step(t, now)
		}
		for body, times := range m.done {
			if times != 1 {
				t.Errorf("%q was taken %d times", body, times)
			}
		}
		for body, times := range m.ended {
			if times != 1 || m.done[body] != 1 {
				t.Errorf("the answer to %q was taken %d times, and it %d times", body, times, m.done[body])
			}
			ended++
		}
		if t.Failed() {
			t.FailNow()
		}
	}
	if ended < 1000 {
		t.Errorf("just %d calls came to an end", ended)
	}
}
