package server

import (
	"slices"

	"backwater/alike"
	"backwater/api"
	"backwater/tree"
)

// state is what a server keeps.
type state struct {
	snapshot api.Snapshot
	version  uint64                 // the one that was given last
	done     [api.MaxClients]uint32 // by clients, from 1 on: how many of its records were done
	verdicts []api.Verdict          // of the last records that were refused, the eldest first
}

// firstState is the state of a server that has done nothing.
func firstState() state {
	return state{snapshot: alike.FirstSnapshot(), version: alike.FirstVersion}
}

// copied is the same state, with lists of its own.
func (s *state) copied() state {
	other := *s
	other.snapshot = copySnapshot(s.snapshot)
	other.verdicts = slices.Clone(s.verdicts)
	return other
}

// copySnapshot is a snapshot that shares no list with another one.
func copySnapshot(s api.Snapshot) api.Snapshot {
	nodes := slices.Clone(s.Tree)
	for i, n := range nodes {
		nodes[i].Data, nodes[i].Kids = slices.Clone(n.Data), slices.Clone(n.Kids)
	}
	return api.Snapshot{Tree: nodes, Versions: slices.Clone(s.Versions)}
}

// behind is the state behind records of a client, from the number of the first one on, and what became of each.
func (s *state) behind(client uint8, first uint32, l []api.Record) (state, []api.Errno) {
	next := s.copied()
	var errs []api.Errno
	for i, r := range l {
		number := first + uint32(i)
		if number <= next.done[client-1] {
			errs = append(errs, next.verdictOn(client, number))
			continue
		}
		errs = append(errs, next.do(client, number, r))
	}
	return next, errs
}

// verdictOn is what became of a record that was done, as far as it is known still.
func (s *state) verdictOn(client uint8, number uint32) api.Errno {
	for _, v := range s.verdicts {
		if v.Client == client && v.Number == number {
			return v.Err
		}
	}
	return api.OK
}

// do does a record of a client, and answers what became of it.
func (s *state) do(client uint8, number uint32, r api.Record) api.Errno {
	s.done[client-1] = number
	err := s.try(client, r)
	if err != api.OK {
		v := api.Verdict{Client: client, Number: number, Err: err, Record: r}
		s.verdicts = alike.AddVerdict(s.verdicts, v)
	}
	return err
}

// try does to the tree what a record says, unless that is to be refused.
func (s *state) try(client uint8, r api.Record) api.Errno {
	if s.stale(client, r) {
		return api.ErrStale
	}
	nodes, err := tree.Apply(s.snapshot.Tree, r.Op)
	if err != api.OK {
		return err
	}
	stamps := s.stampsOf(nodes)
	if changes(r.Op.Kind) {
		s.version++
		stamps[placeOf(nodes, r.Op.Fid)] = api.Stamp{Fid: r.Op.Fid, Version: s.version, Writer: client}
	}
	s.snapshot = api.Snapshot{Tree: nodes, Versions: stamps}
	return api.OK
}

// stale tells whether a record sets what another client has changed since its own saw it.
func (s *state) stale(client uint8, r api.Record) bool {
	if r.Op.Kind != api.Store && r.Op.Kind != api.Chmod || r.Seen == 0 {
		return false
	}
	i := placeOf(s.snapshot.Tree, r.Op.Fid)
	if i < 0 {
		return false
	}
	last := s.snapshot.Versions[i]
	return last.Version != r.Seen && last.Writer != client
}

// stampsOf are the stamps of nodes, in their order; a node that has none yet has one of nothing but its place.
func (s *state) stampsOf(nodes []api.Node) []api.Stamp {
	stamps := make([]api.Stamp, len(nodes))
	for i, n := range nodes {
		if old := placeOf(s.snapshot.Tree, n.Fid); old >= 0 {
			stamps[i] = s.snapshot.Versions[old]
		}
	}
	return stamps
}

// placeOf is where the node of a fid stands; below 0: nowhere. Its stamp stands at the same place.
func placeOf(nodes []api.Node, f api.Fid) int {
	return slices.IndexFunc(nodes, func(n api.Node) bool { return n.Fid == f })
}

// changes tells whether operations of a kind give their Fid a VERSION.
func changes(k api.OpKind) bool {
	switch k {
	case api.Create, api.Mkdir, api.Symlink, api.Store, api.Chmod:
		return true
	}
	return false
}
