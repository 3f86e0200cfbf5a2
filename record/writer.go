package record

import "backwater/api"

// How many bytes numbers stand in.
const (
	countSize   = 1 // also of a short text's length
	kindSize    = 1
	fidSize     = 4
	modeSize    = 2
	linksSize   = 2
	lengthSize  = 2 // of a node within a snapshot
	versionSize = 8
	writerSize  = 1
)

// writer is bytes that more are written behind.
type writer struct {
	bytes []byte
}

// written are the bytes of something right, as a function puts it.
func written[T any](v T, put func(w *writer, v T)) []byte {
	var w writer
	put(&w, v)
	return w.bytes
}

// number writes n as size bytes, the highest one first.
func (w *writer) number(n uint64, size int) {
	for i := range size {
		w.bytes = append(w.bytes, byte(n>>(8*(size-1-i))))
	}
}

// text writes a short text.
func (w *writer) text(s string) {
	w.number(uint64(len(s)), countSize)
	w.bytes = append(w.bytes, s...)
}

// putList writes how many there are, and each of them as a function puts it.
func putList[T any](w *writer, l []T, put func(w *writer, v T)) {
	w.number(uint64(len(l)), countSize)
	for _, v := range l {
		put(w, v)
	}
}

func putOp(w *writer, o api.Op) {
	w.number(uint64(o.Kind), kindSize)
	w.number(uint64(o.Fid), fidSize)
	w.number(uint64(o.At), fidSize)
	w.text(o.Name)
	w.number(uint64(o.To), fidSize)
	w.text(o.Name2)
	w.number(uint64(o.Mode), modeSize)
	w.text(o.Data)
}

func putRecord(w *writer, r api.Record) {
	w.number(r.Seen, versionSize)
	putOp(w, r.Op)
}

func putRecords(w *writer, l []api.Record) {
	putList(w, l, putRecord)
}

func putKid(w *writer, k api.Kid) {
	w.text(k.Name)
	w.number(uint64(k.Fid), fidSize)
}

func putNode(w *writer, n api.Node) {
	w.number(uint64(n.Fid), fidSize)
	w.number(uint64(n.Kind), kindSize)
	w.number(uint64(n.Mode), modeSize)
	w.number(uint64(n.Links), linksSize)
	w.text(string(n.Data))
	putList(w, n.Kids, putKid)
}

// putMeasured writes a node with its length ahead, as a snapshot has it.
func putMeasured(w *writer, n api.Node) {
	b := written(n, putNode)
	w.number(uint64(len(b)), lengthSize)
	w.bytes = append(w.bytes, b...)
}

func putStamp(w *writer, v api.Stamp) {
	w.number(uint64(v.Fid), fidSize)
	w.number(v.Version, versionSize)
	w.number(uint64(v.Writer), writerSize)
}

func putSnapshot(w *writer, s api.Snapshot) {
	putList(w, s.Tree, putMeasured)
	putList(w, s.Versions, putStamp)
}
