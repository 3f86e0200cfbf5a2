package client

import (
	"backwater/api"
	"backwater/bits"
	"backwater/path"
	"backwater/tree"
)

// wish is what a client is asked to do, by paths.
type wish struct {
	kind  api.OpKind
	path  string
	other string
	mode  uint16
	data  string
}

// do does what is wished; a function keeps the state behind it.
func (c *Client) do(w wish, keep func(next state) api.Errno) api.Errno {
	view := c.view()
	o, err := c.operation(view, w)
	if err != api.OK {
		return err
	}
	if err := c.fault(view, o); err != api.OK {
		return err
	}
	if err := c.enter(func(next *state) { next.write(o) }, keep); err != api.OK {
		return err
	}
	c.markDirty(tree.Names(o))
	return api.OK
}

// enter has a function change a copy of the client's state, and another one keep that; if it was kept, it is the client's own.
func (c *Client) enter(change func(next *state), keep func(next state) api.Errno) api.Errno {
	next := c.state
	change(&next)
	if err := keep(next); err != api.OK {
		return err
	}
	c.state = next
	return api.OK
}

// operation is what is wished, as an operation on a tree.
func (c *Client) operation(view []api.Node, w wish) (api.Op, api.Errno) {
	o := api.Op{Kind: w.kind}
	f := finder{tree: view}
	switch w.kind {
	case api.Symlink:
		o.Data = w.data
		fallthrough
	case api.Create, api.Mkdir:
		o.At, o.Name = f.entry(w.path)
		o.Fid = f.fresh(c.number, c.next)
		o.Mode = w.mode
	case api.Unlink, api.Rmdir:
		o.At, o.Name = f.entry(w.path)
	case api.Rename:
		o.At, o.Name = f.entry(w.path)
		o.To, o.Name2 = f.entry(w.other)
	case api.Hard:
		o.Fid = f.object(w.path)
		o.At, o.Name = f.entry(w.other)
	case api.Store:
		o.Fid, o.Data = f.object(w.path), w.data
	case api.Chmod:
		o.Fid, o.Mode = f.object(w.path), w.mode
	default:
		return api.Op{}, api.ErrForm
	}
	return o, f.err
}

// fault is what is in the way of an operation on the tree that the client sees. What has to be at hand comes into the
// cache on the way, and stays there whatever else is in the way.
func (c *Client) fault(view []api.Node, o api.Op) api.Errno {
	if !tree.RightOp(o) {
		return api.ErrForm
	}
	for _, f := range tree.Names(o) {
		if _, ok := tree.Get(view, f); !ok {
			continue
		}
		if err := c.reach(f); err != api.OK {
			return err
		}
	}
	if _, err := tree.Apply(view, o); err != api.OK {
		return err
	}
	if len(c.log) >= api.MaxLog {
		return api.ErrSpace
	}
	return api.OK
}

// reach sees to it that an object is at hand. What the server is not known to have is the client's own, and always is.
func (c *Client) reach(f api.Fid) api.Errno {
	if _, ok := c.version(f); !ok {
		return api.OK
	}
	return c.fetch(f)
}

// finder looks up in a tree what an operation names. Behind its first error it finds nothing more, so that this is the one it has.
type finder struct {
	tree []api.Node
	err  api.Errno
}

// object is where a path leads.
func (f *finder) object(s string) api.Fid {
	if f.err != api.OK {
		return 0
	}
	found, err := tree.Find(f.tree, s)
	f.err = err
	return found
}

// entry is the directory of a path's last name, and that name.
func (f *finder) entry(s string) (api.Fid, string) {
	if f.err != api.OK {
		return 0, ""
	}
	dir, err := path.Dir(s)
	if err != api.OK {
		f.err = err
		return 0, ""
	}
	// A path that has a Dir has a Base.
	name, _ := path.Base(s)
	return f.object(dir), name
}

// fresh is the fid of a client's number.
func (f *finder) fresh(client uint8, number uint32) api.Fid {
	if f.err != api.OK {
		return 0
	}
	made, err := bits.Make(client, number)
	if err != api.OK {
		f.err = api.ErrSpace
	}
	return made
}
