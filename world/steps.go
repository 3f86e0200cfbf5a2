package world

import "backwater/api"

// Tick lets a client ask what it has to ask.
func (w *World) Tick(client uint8) api.Errno {
	n, err := w.find(client)
	if err != api.OK {
		return err
	}
	w.time++
	if !n.Linked() {
		return api.ErrTimeout
	}
	if err := n.ask(); err != api.OK {
		return err
	}
	if n.Down() {
		n.giveUp()
		return api.ErrTimeout
	}
	if p, ok := n.Tick(w.time); ok {
		w.net.Send(p)
	}
	return api.OK
}

// Deliver lets the i-th packet come to whom it is sent.
func (w *World) Deliver(i int) api.Errno {
	if w == nil {
		return api.ErrNil
	}
	p, err := w.net.Deliver(i)
	if err != api.OK {
		return err
	}
	if p.To != 0 {
		if n, err := w.find(p.To); err == api.OK {
			n.take(p)
		}
		return api.OK
	}
	if answer, ok := w.host.take(p); ok {
		w.net.Send(answer)
	}
	return api.OK
}

// Drop loses the i-th packet.
func (w *World) Drop(i int) api.Errno {
	if w == nil {
		return api.ErrNil
	}
	return w.net.Drop(i)
}

// Double puts one more packet like the i-th one under way.
func (w *World) Double(i int) api.Errno {
	if w == nil {
		return api.ErrNil
	}
	return w.net.Double(i)
}

// Part cuts a client off, or takes it back.
func (w *World) Part(client uint8, off bool) api.Errno {
	if _, err := w.find(client); err != api.OK {
		return err
	}
	return w.net.Part(client, off)
}

// Crash takes the power of a client, or of the server (0).
func (w *World) Crash(node uint8) api.Errno {
	if w == nil {
		return api.ErrNil
	}
	if node == 0 {
		w.host = openHost(crashed(w.host.Disk()))
		return api.OK
	}
	n, err := w.find(node)
	if err != api.OK {
		return err
	}
	*n = *openNode(node, n.epoch+1, crashed(n.Disk()))
	return api.OK
}
