package client

import (
	"slices"

	"backwater/alike"
	"backwater/api"
	"backwater/cml"
	"backwater/tree"
)

const firstNumber = 1

// state is what a client keeps. Its lists are never changed in place, so that states may share them.
type state struct {
	base     api.Snapshot
	log      []api.Record
	frozen   int           // how many of the log's first records are being sent
	done     uint32        // how many records were sent and answered
	next     uint32        // the number of the next fid
	verdicts []api.Verdict // of the last records that were refused, the eldest first
}

// firstState is the state of a client that has done nothing.
func firstState() state {
	return state{base: alike.FirstSnapshot(), next: firstNumber}
}

// view is the tree as the client sees it.
func (s *state) view() []api.Node {
	nodes, _ := tree.Fold(s.base.Tree, cml.Ops(s.log))
	return nodes
}

// version is the one of an object that the client has of the server; false, if it has none.
func (s *state) version(f api.Fid) (uint64, bool) {
	for _, v := range s.base.Versions {
		if v.Fid == f {
			return v.Version, true
		}
	}
	return 0, false
}

// write puts an operation into the log.
func (s *state) write(o api.Op) {
	seen, _ := s.version(o.Fid)
	s.log = append(slices.Clone(s.log), api.Record{Op: o, Seen: seen})
	if makes(o.Kind) {
		s.next++
	}
}

// makes tells whether operations of a kind make an object.
func makes(k api.OpKind) bool {
	return k == api.Create || k == api.Mkdir || k == api.Symlink
}

// freeze makes the log as short as can be, and sets its first records apart to be sent.
func (s *state) freeze() {
	s.log = cml.Optimise(s.log)
	s.frozen = min(len(s.log), api.MaxChunk)
}

// hear takes over what the server answers to a client of a number.
func (s *state) hear(number uint8, a answer) {
	s.base = a.base
	for i, err := range a.errs {
		s.done++
		if err != api.OK {
			v := api.Verdict{Client: number, Number: s.done, Err: err, Record: s.log[i]}
			s.verdicts = alike.AddVerdict(s.verdicts, v)
		}
	}
	s.log = cml.Drop(s.log, s.frozen)
	s.frozen = 0
}
