package alike

import (
	"backwater/api"
	"backwater/record"
)

// How many bytes numbers stand in.
const (
	byteSize   = 1 // a mark, a count, a short text's length, a kind, an error, a client
	modeSize   = 2
	numberSize = 4
	seenSize   = 8
)

// unreadable is what a reader gives up with.
type unreadable struct{}

// Reader is bytes of which the first ones are taken off. It gives up by a panic, which Read catches.
type Reader struct {
	rest []byte
}

// Read is what a function takes off b; false, if it gives up, or leaves something.
func Read[T any](b []byte, take func(r *Reader) T) (v T, ok bool) {
	defer func() {
		switch r := recover().(type) {
		case nil:
		case unreadable:
			ok = false
		default:
			panic(r)
		}
	}()
	return takeAll(b, take), true
}

// takeAll is what a function takes off b; it gives up, if something is left.
func takeAll[T any](b []byte, take func(r *Reader) T) T {
	r := &Reader{rest: b}
	v := take(r)
	r.GiveUpIf(len(r.rest) > 0)
	return v
}

// GiveUpIf gives up, if there is a reason to.
func (r *Reader) GiveUpIf(reason bool) {
	if reason {
		panic(unreadable{})
	}
}

// piece takes n bytes off. They lie in what was handed in: who keeps them makes a copy.
func (r *Reader) piece(n int) []byte {
	r.GiveUpIf(n > len(r.rest))
	b := r.rest[:n]
	r.rest = r.rest[n:]
	return b
}

// Mark takes off the byte that tells what a body is.
func (r *Reader) Mark() string {
	return string(r.piece(byteSize))
}

// Byte takes off a number of one byte.
func (r *Reader) Byte() byte {
	return r.piece(byteSize)[0]
}

// Number takes off a number of four bytes, the highest one first.
func (r *Reader) Number() uint32 {
	var n uint32
	for _, b := range r.piece(numberSize) {
		n = n<<8 | uint32(b)
	}
	return n
}

// Err takes off an error, or OK.
func (r *Reader) Err() api.Errno {
	err := api.Errno(r.Byte())
	r.GiveUpIf(err > api.ErrLinks)
	return err
}

// Snapshot takes off all that is left, as the bytes of a snapshot.
func (r *Reader) Snapshot() api.Snapshot {
	s, err := record.ReadSnapshot(r.piece(len(r.rest)))
	r.GiveUpIf(err != api.OK)
	return s
}

// Records takes off the bytes of records.
func (r *Reader) Records() []api.Record {
	l, err := record.ReadRecords(r.piece(r.recordsSize()))
	r.GiveUpIf(err != api.OK)
	return l
}

// recordsSize is how many bytes the records have that come next: another reader goes over them, as only their texts tell it.
func (r *Reader) recordsSize() int {
	ahead := &Reader{rest: r.rest}
	for range ahead.Byte() {
		ahead.passRecord()
	}
	return len(r.rest) - len(ahead.rest)
}

// passRecord goes over the bytes of a record.
func (r *Reader) passRecord() {
	r.piece(seenSize + byteSize + 2*numberSize) // Seen, Kind, Fid, At
	r.passText()                                // Name
	r.piece(numberSize)                         // To
	r.passText()                                // Name2
	r.piece(modeSize)
	r.passText() // Data
}

// passText goes over a short text.
func (r *Reader) passText() {
	r.piece(int(r.Byte()))
}

// Verdicts takes off how many there are, and each of them.
func (r *Reader) Verdicts() []api.Verdict {
	count := int(r.Byte())
	r.GiveUpIf(count > MostVerdicts)
	var l []api.Verdict
	for range count {
		l = append(l, r.verdict())
	}
	return l
}

// verdict takes off a verdict. Its fields stand in the order of their bytes, as they are taken off in that order.
func (r *Reader) verdict() api.Verdict {
	return api.Verdict{
		Client: r.Byte(),
		Number: r.Number(),
		Err:    r.Err(),
		Record: r.record(),
	}
}

// record takes off the bytes of a record alone.
func (r *Reader) record() api.Record {
	l := r.Records()
	r.GiveUpIf(len(l) != 1)
	return l[0]
}
