package record

import (
	"backwater/api"
	"backwater/tree"
)

// refusal is what a reader gives up with.
type refusal struct {
	err api.Errno
}

// reader is bytes of which the first ones are taken off.
type reader struct {
	rest []byte
}

// read is what all of b says, as a function takes it; ErrForm, if that gives up.
func read[T any](b []byte, take func(r *reader) T) (v T, err api.Errno) {
	defer func() {
		switch r := recover().(type) {
		case nil:
		case refusal:
			err = r.err
		default:
			panic(r)
		}
	}()
	return takeAll(b, take), api.OK
}

// takeAll is what a function takes off b; it gives up, if something is left.
func takeAll[T any](b []byte, take func(r *reader) T) T {
	r := &reader{rest: b}
	v := take(r)
	refuseIf(len(r.rest) > 0)
	return v
}

// refuseIf gives up, if there is a reason to.
func refuseIf(reason bool) {
	if reason {
		panic(refusal{api.ErrForm})
	}
}

// piece takes n bytes off. They lie in what was handed in: who keeps them makes a copy.
func (r *reader) piece(n int) []byte {
	refuseIf(n > len(r.rest))
	b := r.rest[:n]
	r.rest = r.rest[n:]
	return b
}

// number takes off a number of size bytes, the highest one first.
func (r *reader) number(size int) uint64 {
	n := uint64(0)
	for _, b := range r.piece(size) {
		n = n<<8 | uint64(b)
	}
	return n
}

// short takes off the bytes of a short text.
func (r *reader) short() []byte {
	return r.piece(int(r.number(countSize)))
}

// text takes off a short text.
func (r *reader) text() string {
	return string(r.short())
}

// takeList takes off how many there are, at most so many, and each of them as a function takes it.
func takeList[T any](r *reader, most int, take func(r *reader) T) []T {
	count := int(r.number(countSize))
	refuseIf(count > most)
	var l []T
	for range count {
		l = append(l, take(r))
	}
	return l
}

func takeFid(r *reader) api.Fid {
	return api.Fid(r.number(fidSize))
}

// In what follows fields stand in the order of their bytes, as they are taken off in that order.

// takeOp takes off an operation; it gives up, if that is not right.
func takeOp(r *reader) api.Op {
	o := api.Op{
		Kind:  api.OpKind(r.number(kindSize)),
		Fid:   takeFid(r),
		At:    takeFid(r),
		Name:  r.text(),
		To:    takeFid(r),
		Name2: r.text(),
		Mode:  uint16(r.number(modeSize)),
		Data:  r.text(),
	}
	refuseIf(!tree.RightOp(o))
	return o
}

func takeRecord(r *reader) api.Record {
	return api.Record{Seen: r.number(versionSize), Op: takeOp(r)}
}

func takeRecords(r *reader) []api.Record {
	return takeList(r, api.MaxLog, takeRecord)
}

func takeKid(r *reader) api.Kid {
	return api.Kid{Name: r.text(), Fid: takeFid(r)}
}

// takeNode takes off a node; it gives up, if that is not right by itself.
func takeNode(r *reader) api.Node {
	n := api.Node{
		Fid:   takeFid(r),
		Kind:  api.Kind(r.number(kindSize)),
		Mode:  uint16(r.number(modeSize)),
		Links: uint16(r.number(linksSize)),
		Data:  append([]byte(nil), r.short()...),
		Kids:  takeList(r, api.MaxKids, takeKid),
	}
	refuseIf(!rightNode(n))
	return n
}

// takeMeasured takes off a node with its length ahead; it gives up, if that is another length.
func takeMeasured(r *reader) api.Node {
	return takeAll(r.piece(int(r.number(lengthSize))), takeNode)
}

func takeStamp(r *reader) api.Stamp {
	return api.Stamp{Fid: takeFid(r), Version: r.number(versionSize), Writer: uint8(r.number(writerSize))}
}

// takeSnapshot takes off a snapshot; it gives up, if that is not right.
func takeSnapshot(r *reader) api.Snapshot {
	s := api.Snapshot{
		Tree:     takeList(r, api.MaxNodes, takeMeasured),
		Versions: takeList(r, api.MaxNodes, takeStamp),
	}
	refuseIf(!rightSnapshot(s))
	return s
}
