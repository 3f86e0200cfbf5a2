package server

import (
	"backwater/api"
	"backwater/bits"
	"backwater/journal"
	"backwater/record"
)

// keeper keeps states in the journal that it has inside. A server has it inside in turn, and not the journal itself,
// as that would hand its calls on to whoever has a server, and let them write past it.
type keeper struct {
	journal *journal.Journal
}

// keep keeps a state in the place of all that was kept.
func (k keeper) keep(s state) api.Errno {
	return k.journal.Reset(s.group())
}

// tear does the same, and takes the power away in the midst of it.
func (k keeper) tear(s state, step int, keep []int) api.Errno {
	return k.journal.Torn(s.group(), true, step, keep)
}

// kept is the state that was kept last, or, if there is none that can be, the first one.
func (k keeper) kept() state {
	groups := k.journal.Groups()
	if len(groups) == 0 {
		return firstState()
	}
	s, ok := read(groups[len(groups)-1], takeState)
	if !ok {
		return firstState()
	}
	return s
}

// group is what a state is kept as. A state's snapshot and its verdicts' operations are right, so their bytes have no errors.
func (s *state) group() [][]byte {
	snapshot, _ := record.Snapshot(s.snapshot)
	hi, lo := bits.Unpack(s.version)
	b := writeNumber(writeNumber(nil, hi), lo)
	for _, count := range s.done {
		b = writeNumber(b, count)
	}
	b = append(b, byte(len(s.verdicts)))
	for _, v := range s.verdicts {
		b = writeVerdict(b, v)
	}
	return [][]byte{snapshot, b}
}

// writeVerdict writes a verdict behind b.
func writeVerdict(b []byte, v api.Verdict) []byte {
	alone, _ := record.Records([]api.Record{v.Record})
	b = writeNumber(append(b, v.Client), v.Number)
	return append(append(b, byte(v.Err)), alone...)
}

// writeNumber writes a number behind b, the highest byte first.
func writeNumber(b []byte, n uint32) []byte {
	return append(b, byte(n>>24), byte(n>>16), byte(n>>8), byte(n))
}
