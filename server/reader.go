package server

import (
	"backwater/alike"
	"backwater/api"
	"backwater/bits"
	"backwater/record"
)

// readState is the state that a group was kept of; false, if there is none.
func readState(group [][]byte) (state, bool) {
	if len(group) != 2 {
		return state{}, false
	}
	snapshot, err := record.ReadSnapshot(group[0])
	if err != api.OK {
		return state{}, false
	}
	return alike.Read(group[1], func(r *alike.Reader) state {
		s := state{snapshot: snapshot, version: bits.Pack(r.Number(), r.Number())}
		for i := range s.done {
			s.done[i] = r.Number()
		}
		s.verdicts = r.Verdicts()
		r.GiveUpIf(!s.canBe())
		return s
	})
}

// canBe tells whether a server may be in a state whose bytes are right.
func (s *state) canBe() bool {
	for _, v := range s.snapshot.Versions {
		if v.Version > s.version {
			return false
		}
	}
	for _, v := range s.verdicts {
		if !isClient(v.Client) || !alike.IsRefusal(v, s.done[v.Client-1]) {
			return false
		}
	}
	return true
}
