package server

import (
	"backwater/alike"
	"backwater/api"
	"backwater/bits"
	"backwater/journal"
	"backwater/record"
)

// keeper keeps states in the journal that it has inside. A server has it inside in turn, and not the journal itself,
// as that would hand its calls on to whoever has a server, and let them write past it.
type keeper struct {
	journal *journal.Journal
}

// keep keeps a state in the place of all that was kept.
func (k keeper) keep(s state) api.Errno {
	return k.journal.Reset(s.group())
}

// tear does the same, and takes the power away in the midst of it.
func (k keeper) tear(s state, step int, keep []int) api.Errno {
	return k.journal.Torn(s.group(), true, step, keep)
}

// kept is the state that was kept last, or, if there is none that can be, the first one.
func (k keeper) kept() state {
	groups := k.journal.Groups()
	if len(groups) == 0 {
		return firstState()
	}
	s, ok := readState(groups[len(groups)-1])
	if !ok {
		return firstState()
	}
	return s
}

// group is what a state is kept as. A state's snapshot and its verdicts' operations are right, so their bytes have no errors.
func (s *state) group() [][]byte {
	snapshot, _ := record.Snapshot(s.snapshot)
	hi, lo := bits.Unpack(s.version)
	b := alike.WriteNumber(alike.WriteNumber(nil, hi), lo)
	for _, count := range s.done {
		b = alike.WriteNumber(b, count)
	}
	return [][]byte{snapshot, alike.WriteVerdicts(b, s.verdicts)}
}
