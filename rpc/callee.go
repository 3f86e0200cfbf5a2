package rpc

import (
	"cmp"

	"backwater/api"
	"backwater/frame"
)

// step is how far a callee is with a client. It is also the byte that tells it.
type step byte

const (
	silent   step = iota // nothing was taken from it
	asked                // what was taken last was not answered
	answered             // it was
)

// taken is what a callee knows of what it took last from a client.
type taken struct {
	step   step
	epoch  uint32
	number uint32
	body   string // of the answer
}

// Callee is who answers.
type Callee struct {
	last [api.MaxClients]taken // by clients, from 1 on
}

// NewCallee is one that has heard nobody.
func NewCallee() *Callee { return &Callee{} }

// Take takes a packet: what is to be done (ok), or what was answered already (is).
func (c *Callee) Take(p api.Packet) (body string, ok bool, again api.Packet, is bool) {
	if c == nil || p.Kind != api.Ask || !frame.Right(p) {
		return "", false, api.Packet{}, false
	}
	last := &c.last[p.From-1]
	age := last.compare(p)
	switch last.step {
	case silent:
		goto fresh
	case asked, answered:
		if age < 0 {
			goto fresh
		}
		if age == 0 && last.step == answered {
			return "", false, last.answer(p.From), true
		}
	}
	return "", false, api.Packet{}, false
fresh:
	*last = taken{step: asked, epoch: p.Epoch, number: p.Seq}
	return p.Body, true, api.Packet{}, false
}

// compare is below 0, if what was taken is elder than a packet, above 0, if it is newer.
func (t *taken) compare(p api.Packet) int {
	return cmp.Or(cmp.Compare(t.epoch, p.Epoch), cmp.Compare(t.number, p.Seq))
}

// answer is the packet that answers what was taken from a client.
func (t *taken) answer(client uint8) api.Packet {
	return api.Packet{Kind: api.Answer, To: client, Epoch: t.epoch, Seq: t.number, Body: t.body}
}

// Reply is the answer to what was taken last from a client.
func (c *Callee) Reply(client uint8, body string) (api.Packet, api.Errno) {
	switch {
	case c == nil:
		return api.Packet{}, api.ErrNil
	case !isClient(client):
		return api.Packet{}, api.ErrRange
	}
	last := &c.last[client-1]
	switch {
	case last.step != asked:
		return api.Packet{}, api.ErrNoent
	case len(body) > api.MaxBody:
		return api.Packet{}, api.ErrForm
	}
	last.step, last.body = answered, body
	return last.answer(client), api.OK
}
