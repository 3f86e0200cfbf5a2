package server

import (
	"backwater/api"
	"backwater/bits"
	"backwater/record"
)

// How many bytes numbers stand in.
const (
	byteSize   = 1 // a count, a short text's length, a kind, an error, a client
	modeSize   = 2
	numberSize = 4
	seenSize   = 8
)

// unreadable is what a reader gives up with.
type unreadable struct{}

// reader is bytes of which the first ones are taken off.
type reader struct {
	rest []byte
}

// read is what a function makes of something; false, if it gives up.
func read[S, T any](from S, take func(S) T) (v T, ok bool) {
	defer func() {
		switch r := recover().(type) {
		case nil:
		case unreadable:
			ok = false
		default:
			panic(r)
		}
	}()
	return take(from), true
}

// giveUpIf gives up, if there is a reason to.
func giveUpIf(reason bool) {
	if reason {
		panic(unreadable{})
	}
}

// piece takes n bytes off.
func (r *reader) piece(n int) []byte {
	giveUpIf(n > len(r.rest))
	b := r.rest[:n]
	r.rest = r.rest[n:]
	return b
}

// single takes off a number of one byte.
func (r *reader) single() byte {
	return r.piece(byteSize)[0]
}

// number takes off a number of four bytes, the highest one first.
func (r *reader) number() uint32 {
	var n uint32
	for _, b := range r.piece(numberSize) {
		n = n<<8 | uint32(b)
	}
	return n
}

// short takes off a short text.
func (r *reader) short() []byte {
	return r.piece(int(r.single()))
}

// record takes off the bytes of a record alone.
func (r *reader) record() api.Record {
	l, err := record.ReadRecords(r.piece(r.recordSize()))
	giveUpIf(err != api.OK || len(l) != 1)
	return l[0]
}

// recordSize is how many bytes a record alone has: another reader goes over them, as only their texts tell it.
func (r *reader) recordSize() int {
	ahead := &reader{rest: r.rest}
	ahead.piece(byteSize + seenSize + byteSize + 2*numberSize) // how many there are, Seen, Kind, Fid, At
	ahead.short()                                              // Name
	ahead.piece(numberSize)                                    // To
	ahead.short()                                              // Name2
	ahead.piece(modeSize)
	ahead.short() // Data
	return len(r.rest) - len(ahead.rest)
}

// In what follows fields stand in the order of their bytes, as they are taken off in that order.

func (r *reader) verdict() api.Verdict {
	return api.Verdict{
		Client: r.single(),
		Number: r.number(),
		Err:    api.Errno(r.single()),
		Record: r.record(),
	}
}

// takeState is the state that a group was kept of; it gives up, if there is none.
func takeState(group [][]byte) state {
	giveUpIf(len(group) != 2)
	snapshot, err := record.ReadSnapshot(group[0])
	giveUpIf(err != api.OK)
	r := &reader{rest: group[1]}
	s := state{snapshot: snapshot, version: bits.Pack(r.number(), r.number())}
	for i := range s.done {
		s.done[i] = r.number()
	}
	for range r.single() {
		s.verdicts = append(s.verdicts, r.verdict())
	}
	giveUpIf(len(r.rest) > 0 || !s.canBe())
	return s
}

// canBe tells whether a server may be in a state whose bytes are right.
func (s *state) canBe() bool {
	for _, v := range s.snapshot.Versions {
		if v.Version > s.version {
			return false
		}
	}
	for _, v := range s.verdicts {
		if !s.canHave(v) {
			return false
		}
	}
	return len(s.verdicts) <= mostVerdicts
}

// canHave tells whether a verdict may be among those of a state: one on a record that was done, and refused.
func (s *state) canHave(v api.Verdict) bool {
	return isClient(v.Client) && v.Number >= 1 && v.Number <= s.done[v.Client-1] &&
		v.Err > api.OK && v.Err <= api.ErrLinks
}
