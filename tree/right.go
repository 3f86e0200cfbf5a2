package tree

import (
	"iter"

	"backwater/api"
	"backwater/path"
)

// Right tells whether nodes are a tree.
func Right(t []api.Node) bool {
	if len(t) > api.MaxNodes || !fidsRise(t) {
		return false
	}
	nodes := tableOf(t)
	if root := nodes[api.Root]; root == nil || root.Kind != api.Dir {
		return false
	}
	for i := range t {
		if !rightAlone(&t[i]) || !nodes.haveKidsOf(&t[i]) {
			return false
		}
	}
	return rightLinks(t) && !nodes.holdRing()
}

// fidsRise tells whether the nodes' fids rise, and none of them is 0.
func fidsRise(t []api.Node) bool {
	last := api.Fid(0)
	for i := range t {
		if t[i].Fid <= last {
			return false
		}
		last = t[i].Fid
	}
	return true
}

// rightAlone tells whether a node is right as far as it shows by itself.
func rightAlone(n *api.Node) bool {
	switch n.Kind {
	case api.File, api.Link:
		return len(n.Data) <= api.MaxData && len(n.Kids) == 0
	case api.Dir:
		return len(n.Data) == 0 && len(n.Kids) <= api.MaxKids && namesRise(n.Kids)
	}
	return false
}

// namesRise tells whether the entries' names are names, and rise.
func namesRise(kids []api.Kid) bool {
	last := ""
	for _, k := range kids {
		if !path.Name(k.Name) || k.Name <= last {
			return false
		}
		last = k.Name
	}
	return true
}

// haveKidsOf tells whether all entries of a node lead to nodes of the table other than the root.
func (t table) haveKidsOf(n *api.Node) bool {
	for _, k := range n.Kids {
		if k.Fid == api.Root || t[k.Fid] == nil {
			return false
		}
	}
	return true
}

// rightLinks tells whether each node has as many Links as entries lead to it, and as many as it may have.
func rightLinks(t []api.Node) bool {
	entries := map[api.Fid]int{}
	for i := range t {
		for _, k := range t[i].Kids {
			entries[k.Fid]++
		}
	}
	for i := range t {
		n := &t[i]
		count := entries[n.Fid]
		switch {
		case int(n.Links) != count:
			return false
		case n.Fid == api.Root:
			// The root's number is 0, as no entry may lead to it.
		case count < 1, n.Kind == api.Dir && count > 1:
			return false
		}
	}
	return true
}

// holdRing tells whether a directory is below itself.
func (t table) holdRing() bool {
	parents := t.parents()
	for f, parent := range parents {
		if parents.leadUpTo(f, parent) {
			return true
		}
	}
	return false
}

// parentage is for each directory the one that it stands in; there is none for the root.
type parentage map[api.Fid]api.Fid

// parents are the parents of all directories of a table.
func (t table) parents() parentage {
	parents := parentage{}
	for f, n := range t {
		for _, k := range n.Kids {
			if t[k.Fid].Kind == api.Dir {
				parents[k.Fid] = f
			}
		}
	}
	return parents
}

// upward goes from a directory up: it, its parent, and so on. It ends where directories stand in a ring, too.
func (p parentage) upward(f api.Fid) iter.Seq[api.Fid] {
	return func(yield func(api.Fid) bool) {
		if !yield(f) {
			return
		}
		for range len(p) {
			parent, ok := p[f]
			if !ok || !yield(parent) {
				return
			}
			f = parent
		}
	}
}

// leadUpTo tells whether a directory is another one, or above it.
func (p parentage) leadUpTo(above, f api.Fid) bool {
	for g := range p.upward(f) {
		if g == above {
			return true
		}
	}
	return false
}

// parts tells which parts of an operation its kind names.
type parts struct {
	fid, entry, goal, mode, data bool
}

// partsOf are the parts that a kind names; false: it is no kind.
func partsOf(k api.OpKind) (parts, bool) {
	switch k {
	case api.Create, api.Mkdir:
		return parts{fid: true, entry: true, mode: true}, true
	case api.Symlink:
		return parts{fid: true, entry: true, mode: true, data: true}, true
	case api.Hard:
		return parts{fid: true, entry: true}, true
	case api.Unlink, api.Rmdir:
		return parts{entry: true}, true
	case api.Rename:
		return parts{entry: true, goal: true}, true
	case api.Store:
		return parts{fid: true, data: true}, true
	case api.Chmod:
		return parts{fid: true, mode: true}, true
	}
	return parts{}, false
}

// RightOp tells whether an operation is right.
func RightOp(o api.Op) bool {
	p, ok := partsOf(o.Kind)
	if !ok || p.fid != (o.Fid != 0) || makes(o.Kind) && o.Fid == api.Root {
		return false
	}
	return rightEntry(p.entry, o.At, o.Name) && rightEntry(p.goal, o.To, o.Name2) &&
		(p.mode || o.Mode == 0) && rightData(p.data, o.Data)
}

// makes tells whether operations of a kind make a node.
func makes(k api.OpKind) bool {
	return k == api.Create || k == api.Mkdir || k == api.Symlink
}

// rightEntry tells whether an entry may be as it is, in an operation that names it, or does not.
func rightEntry(named bool, at api.Fid, name string) bool {
	if !named {
		return at == 0 && name == ""
	}
	return at != 0 && path.Name(name)
}

// rightData tells the same of data.
func rightData(named bool, data string) bool {
	if !named {
		return data == ""
	}
	return len(data) <= api.MaxData
}
