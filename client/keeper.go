package client

import (
	"math"

	"backwater/alike"
	"backwater/api"
	"backwater/bits"
	"backwater/journal"
	"backwater/record"
)

// keeper keeps states in the journal that it has inside. A client has it inside in turn, and not the journal itself,
// as that would hand its calls on to whoever has a client, and let them write past it.
type keeper struct {
	journal *journal.Journal
}

// keep keeps a state in the place of all that was kept.
func (k keeper) keep(s state) api.Errno {
	return k.journal.Reset(s.group())
}

// tear does the same, and takes the power away in the midst of it.
func (k keeper) tear(s state, step int, keep []int) api.Errno {
	return k.journal.Torn(s.group(), true, step, keep)
}

// kept is the state of a client of a number that was kept last, or, if there is none that can be, the first one.
func (k keeper) kept(number uint8) state {
	groups := k.journal.Groups()
	if len(groups) == 0 {
		return firstState()
	}
	s, ok := readState(number, groups[len(groups)-1])
	if !ok {
		return firstState()
	}
	return s
}

// group is what a state is kept as. All that a state has is right, so its bytes have no errors.
func (s *state) group() [][]byte {
	base, _ := record.Snapshot(s.base)
	log, _ := record.Records(s.log)
	b := alike.WriteNumber([]byte{byte(s.frozen)}, s.done)
	b = append(alike.WriteNumber(b, s.next), log...)
	return [][]byte{base, alike.WriteVerdicts(b, s.verdicts)}
}

// readState is the state that a group was kept of by a client of a number; false, if there is none.
func readState(number uint8, group [][]byte) (state, bool) {
	if len(group) != 2 {
		return state{}, false
	}
	base, err := record.ReadSnapshot(group[0])
	if err != api.OK {
		return state{}, false
	}
	return alike.Read(group[1], func(r *alike.Reader) state {
		// Fields stand in the order of their bytes, as they are taken off in that order.
		s := state{
			base:     base,
			frozen:   int(r.Byte()),
			done:     r.Number(),
			next:     r.Number(),
			log:      r.Records(),
			verdicts: r.Verdicts(),
		}
		r.GiveUpIf(!s.canBe(number))
		return s
	})
}

// canBe tells whether a client of a number may be in a state whose bytes are right.
func (s *state) canBe(number uint8) bool {
	for _, v := range s.verdicts {
		if v.Client != number || !alike.IsRefusal(v, s.done) {
			return false
		}
	}
	return s.frozen <= min(len(s.log), api.MaxChunk) && (s.frozen == 0 || s.done < math.MaxUint32) && isNext(number, s.next)
}

// isNext tells whether a client's next fid may have a number: the first one, or one behind a number that a fid has.
func isNext(client uint8, number uint32) bool {
	if number <= firstNumber {
		return number == firstNumber
	}
	_, err := bits.Make(client, number-1)
	return err == api.OK
}
