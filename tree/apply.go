package tree

import (
	"cmp"
	"maps"
	"slices"

	"backwater/api"
)

// table is a tree's nodes by their fids.
type table map[api.Fid]*api.Node

// refusal is what an operation that can't be done gives up with. It does so ahead of any change.
type refusal struct {
	err api.Errno
}

// Apply is a tree behind an operation.
func Apply(t []api.Node, o api.Op) ([]api.Node, api.Errno) {
	if !Right(t) {
		return nil, api.ErrForm
	}
	nodes := tableOf(copyAll(t))
	if err := nodes.try(o); err != api.OK {
		return nil, err
	}
	return nodes.list(), api.OK
}

// Fold is a tree behind those of the operations that could be done, and the error of each.
func Fold(t []api.Node, l []api.Op) ([]api.Node, []api.Errno) {
	errs := make([]api.Errno, len(l))
	if !Right(t) {
		for i := range errs {
			errs[i] = api.ErrForm
		}
		return nil, errs
	}
	nodes := tableOf(copyAll(t))
	for i, o := range l {
		errs[i] = nodes.try(o)
	}
	return nodes.list(), errs
}

// tableOf is a table of the nodes as they stand in the list, without copies.
func tableOf(t []api.Node) table {
	nodes := table{}
	for i := range t {
		nodes[t[i].Fid] = &t[i]
	}
	return nodes
}

// copyAll are nodes that share nothing with others.
func copyAll(t []api.Node) []api.Node {
	list := make([]api.Node, 0, len(t))
	for _, n := range t {
		list = append(list, copyOf(n))
	}
	return list
}

// list are the nodes of a table, by their fids.
func (t table) list() []api.Node {
	list := make([]api.Node, 0, len(t))
	for _, f := range slices.Sorted(maps.Keys(t)) {
		list = append(list, *t[f])
	}
	return list
}

// try does an operation; if that can't be done, nothing has changed.
func (t table) try(o api.Op) (err api.Errno) {
	defer func() {
		switch r := recover().(type) {
		case nil:
		case refusal:
			err = r.err
		default:
			panic(r)
		}
	}()
	t.do(o)
	return api.OK
}

// refuseIf gives up, if there is a reason to.
func refuseIf(reason bool, err api.Errno) {
	if reason {
		panic(refusal{err})
	}
}

// do does an operation, or gives up.
func (t table) do(o api.Op) {
	refuseIf(!RightOp(o), api.ErrForm)
	switch o.Kind {
	case api.Create:
		t.create(o, api.File)
	case api.Mkdir:
		t.create(o, api.Dir)
	case api.Symlink:
		t.create(o, api.Link)
	case api.Hard:
		t.hard(o)
	case api.Unlink:
		t.unlink(o)
	case api.Rmdir:
		t.rmdir(o)
	case api.Rename:
		t.rename(o)
	case api.Store:
		t.store(o)
	case api.Chmod:
		t.node(o.Fid).Mode = o.Mode
	}
}

// create makes a node, and the entry that leads to it.
func (t table) create(o api.Op, k api.Kind) {
	at := t.dir(o.At)
	refuseIf(entryOf(at, o.Name) >= 0 || t[o.Fid] != nil, api.ErrExist)
	refuseIf(len(t) == api.MaxNodes || len(at.Kids) == api.MaxKids, api.ErrSpace)
	t[o.Fid] = &api.Node{Fid: o.Fid, Kind: k, Mode: o.Mode, Links: 1, Data: []byte(o.Data)}
	enter(at, o.Name, o.Fid)
}

// hard makes one more entry of a node.
func (t table) hard(o api.Op) {
	n := t.node(o.Fid)
	refuseIf(n.Kind == api.Dir, api.ErrIsdir)
	at := t.dir(o.At)
	refuseIf(entryOf(at, o.Name) >= 0, api.ErrExist)
	refuseIf(len(at.Kids) == api.MaxKids, api.ErrSpace)
	n.Links++
	enter(at, o.Name, o.Fid)
}

// unlink takes away an entry of what is no directory.
func (t table) unlink(o api.Op) {
	at, n := t.look(o.At, o.Name)
	refuseIf(n.Kind == api.Dir, api.ErrIsdir)
	strike(at, o.Name)
	t.release(n)
}

// rmdir takes away an empty directory.
func (t table) rmdir(o api.Op) {
	at, n := t.look(o.At, o.Name)
	refuseIf(n.Kind != api.Dir, api.ErrNotdir)
	refuseIf(len(n.Kids) > 0, api.ErrNotempty)
	strike(at, o.Name)
	t.release(n)
}

// rename makes another entry out of one.
func (t table) rename(o api.Op) {
	at, n := t.look(o.At, o.Name)
	to := t.dir(o.To)
	refuseIf(t.parents().leadUpTo(n.Fid, o.To), api.ErrLoop)
	old := t.behind(to, o.Name2)
	switch old {
	case n:
		return
	case nil:
		refuseIf(o.To != o.At && len(to.Kids) == api.MaxKids, api.ErrSpace)
	default:
		refuseInPlaceOf(old, n)
	}
	strike(at, o.Name)
	if old != nil {
		strike(to, o.Name2)
		t.release(old)
	}
	enter(to, o.Name2, n.Fid)
}

// refuseInPlaceOf gives up, if a node can't come in the place of an old one.
func refuseInPlaceOf(old, n *api.Node) {
	refuseIf(old.Kind == api.Dir && n.Kind != api.Dir, api.ErrIsdir)
	refuseIf(old.Kind != api.Dir && n.Kind == api.Dir, api.ErrNotdir)
	refuseIf(len(old.Kids) > 0, api.ErrNotempty)
}

// store puts data into a file.
func (t table) store(o api.Op) {
	n := t.node(o.Fid)
	refuseIf(n.Kind == api.Dir, api.ErrIsdir)
	refuseIf(n.Kind == api.Link, api.ErrForm)
	n.Data = []byte(o.Data)
}

// node is the node of a fid; it gives up, if there is none.
func (t table) node(f api.Fid) *api.Node {
	n := t[f]
	refuseIf(n == nil, api.ErrNoent)
	return n
}

// dir is the directory of a fid; it gives up, if there is none.
func (t table) dir(f api.Fid) *api.Node {
	n := t.node(f)
	refuseIf(n.Kind != api.Dir, api.ErrNotdir)
	return n
}

// look is a directory, and what an entry of it leads to; it gives up, if there is none.
func (t table) look(at api.Fid, name string) (dir, n *api.Node) {
	dir = t.dir(at)
	n = t.behind(dir, name)
	refuseIf(n == nil, api.ErrNoent)
	return dir, n
}

// behind is what an entry of a directory leads to; nil: there is no such entry.
func (t table) behind(dir *api.Node, name string) *api.Node {
	i := entryOf(dir, name)
	if i < 0 {
		return nil
	}
	return t[dir.Kids[i].Fid]
}

// release takes one Link off a node; without any it is gone.
func (t table) release(n *api.Node) {
	n.Links--
	if n.Links == 0 {
		delete(t, n.Fid)
	}
}

// enter puts an entry into a directory, in the order of names.
func enter(dir *api.Node, name string, f api.Fid) {
	i, _ := slices.BinarySearchFunc(dir.Kids, name, func(k api.Kid, s string) int { return cmp.Compare(k.Name, s) })
	dir.Kids = slices.Insert(dir.Kids, i, api.Kid{Name: name, Fid: f})
}

// strike takes an entry out of a directory.
func strike(dir *api.Node, name string) {
	dir.Kids = slices.DeleteFunc(dir.Kids, func(k api.Kid) bool { return k.Name == name })
}
