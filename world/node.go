package world

import (
	"backwater/api"
	"backwater/client"
	"backwater/disk"
	"backwater/rpc"
	"backwater/server"
)

const firstEpoch = 1

// node is a client, who asks for it, and the epoch that it does so in.
type node struct {
	*client.Client
	*rpc.Caller
	epoch uint32
}

// openNode is the node of a client on a disk.
func openNode(number uint8, epoch uint32, d *disk.Disk) *node {
	return &node{Client: client.Open(number, d), Caller: rpc.NewCaller(number, epoch), epoch: epoch}
}

// ask sees to it that a call is under way.
func (n *node) ask() api.Errno {
	if n.Busy() {
		return api.OK
	}
	body, err := n.Request()
	if err != api.OK {
		return err
	}
	return n.Call(body)
}

// giveUp ends the call that nobody answers, and the link with it.
func (n *node) giveUp() {
	n.Cancel()
	n.Link(false)
}

// take takes a packet, if it is the answer that the node waits for.
func (n *node) take(p api.Packet) {
	if body, ok := n.Caller.Take(p); ok {
		n.Client.Take(body)
	}
}

// fork is another node with the same.
func (n *node) fork() *node {
	return &node{Client: n.Client.Fork(), Caller: n.Caller.Fork(), epoch: n.epoch}
}

// host is the server, and who answers for it.
type host struct {
	*server.Server
	*rpc.Callee
}

// openHost is the host of a server on a disk.
func openHost(d *disk.Disk) *host {
	return &host{Server: server.Open(d), Callee: rpc.NewCallee()}
}

// take takes a packet, and answers the one that is to be sent for it; false, if none is.
func (h *host) take(p api.Packet) (api.Packet, bool) {
	body, ok, again, is := h.Take(p)
	if !ok {
		return again, is
	}
	answer, err := h.Reply(p.From, h.Serve(p.From, body))
	return answer, err == api.OK
}

// fork is another host with the same.
func (h *host) fork() *host {
	// A callee's bytes are those of a callee, so that to load them has no error.
	callee, _ := rpc.LoadCallee(h.Bytes())
	return &host{Server: h.Server.Fork(), Callee: callee}
}

// crashed is a disk behind a loss of power.
func crashed(d *disk.Disk) *disk.Disk {
	d.Crash(nil)
	return d
}
