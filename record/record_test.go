package record

import (
	"bytes"
	"encoding/binary"
	"math"
	"math/rand/v2"
	"slices"
	"strconv"
	"strings"
	"testing"

	"backwater/api"
	"backwater/tree"
)

const longName = "abcdefghijkl" // of MaxName bytes

var longData = "\x00\xff\"\n" + strings.Repeat("d", api.MaxData-4) // of MaxData bytes

// rightOps are right, the edges among them.
var rightOps = []api.Op{
	{Kind: api.Create, Fid: 2, At: 1, Name: "a", Mode: 0x0102},
	{Kind: api.Create, Fid: 1<<32 - 1, At: 1<<32 - 1, Name: longName, Mode: 65535},
	{Kind: api.Mkdir, Fid: 0x01020304, At: 0x05060708, Name: "-._0z"},
	{Kind: api.Symlink, Fid: 9, At: 1, Name: "...", Mode: 3, Data: "/x"},
	{Kind: api.Symlink, Fid: 9, At: 1, Name: "l", Data: longData},
	{Kind: api.Hard, Fid: 9, At: 2, Name: "h"},
	{Kind: api.Hard, Fid: api.Root, At: 2, Name: "h"},
	{Kind: api.Unlink, At: 1, Name: "u"},
	{Kind: api.Rmdir, At: 7, Name: "r"},
	{Kind: api.Rename, At: 1, Name: longName, To: 1 << 24, Name2: longName},
	{Kind: api.Rename, At: 1, Name: "n", To: 1, Name2: "n"},
	{Kind: api.Store, Fid: 258, Data: "xyz"},
	{Kind: api.Store, Fid: 258, Data: longData},
	{Kind: api.Store, Fid: 258},
	{Kind: api.Chmod, Fid: 1, Mode: 256},
	{Kind: api.Chmod, Fid: 1},
}

// wrongOps are not right, each for one cause, but can stand in bytes.
var wrongOps = []api.Op{
	{},
	{Kind: api.NoOp, Fid: 2, At: 1, Name: "a"},
	{Kind: 10, Fid: 2, At: 1, Name: "a"},
	{Kind: 255, Fid: 2, Mode: 1},
	{Kind: api.Create, At: 1, Name: "a"},
	{Kind: api.Create, Fid: api.Root, At: 1, Name: "a"},
	{Kind: api.Mkdir, Fid: 2, Name: "a"},
	{Kind: api.Symlink, Fid: 2, At: 1},
	{Kind: api.Create, Fid: 2, At: 1, Name: ".."},
	{Kind: api.Create, Fid: 2, At: 1, Name: "A"},
	{Kind: api.Create, Fid: 2, At: 1, Name: "a/b"},
	{Kind: api.Create, Fid: 2, At: 1, Name: longName + "m"},
	{Kind: api.Create, Fid: 2, At: 1, Name: strings.Repeat("n", 255)},
	{Kind: api.Create, Fid: 2, At: 1, Name: "a", Data: "d"},
	{Kind: api.Create, Fid: 2, At: 1, Name: "a", To: 1},
	{Kind: api.Create, Fid: 2, At: 1, Name: "a", Name2: "b"},
	{Kind: api.Symlink, Fid: 2, At: 1, Name: "a", Data: longData + "d"},
	{Kind: api.Hard, Fid: 2, At: 1, Name: "a", Mode: 1},
	{Kind: api.Unlink, At: 1},
	{Kind: api.Unlink, Fid: 2, At: 1, Name: "a"},
	{Kind: api.Rmdir, At: 1, Name: "a", Mode: 256},
	{Kind: api.Rename, At: 1, Name: "a", To: 2},
	{Kind: api.Rename, At: 1, Name: "a", Name2: "b"},
	{Kind: api.Rename, At: 1, Name: "a", To: 2, Name2: "."},
	{Kind: api.Store, Data: "x"},
	{Kind: api.Store, Fid: 2, Mode: 1},
	{Kind: api.Store, Fid: 2, Data: strings.Repeat("d", 255)},
	{Kind: api.Chmod, Fid: 2, At: 1},
}

// longOps are not right, and can't stand in bytes as their texts are too long for that.
var longOps = []api.Op{
	{Kind: api.Create, Fid: 2, At: 1, Name: strings.Repeat("n", 256)},
	{Kind: api.Create, Fid: 2, At: 1, Name: strings.Repeat("n", 257)},
	{Kind: api.Store, Fid: 2, Data: strings.Repeat("d", 256)},
	{Kind: api.Store, Fid: 2, Data: strings.Repeat("d", 256+64)},
	{Kind: api.Rename, At: 1, Name: "a", To: 2, Name2: strings.Repeat("n", 1<<20)},
}

// kid is an entry.
func kid(name string, f api.Fid) api.Kid {
	return api.Kid{Name: name, Fid: f}
}

// manyKids are n entries with the longest names.
func manyKids(n int) []api.Kid {
	var list []api.Kid
	for i := range n {
		list = append(list, kid("abcdefghij"+strconv.Itoa(i/10)+strconv.Itoa(i%10), api.Fid(100+i)))
	}
	return list
}

// rightNodes are right by themselves, the edges among them.
var rightNodes = []api.Node{
	{Fid: 1, Kind: api.Dir},
	{Fid: 9, Kind: api.Dir, Mode: 5, Links: 1, Kids: []api.Kid{kid("a", 3)}},
	{Fid: 1<<32 - 1, Kind: api.Dir, Mode: 65535, Links: 65535, Kids: []api.Kid{kid("-", 1), kid("a", 1), kid("aa", 1<<32-1), kid("b", 1<<32-1)}},
	{Fid: 2, Kind: api.Dir, Links: 2, Kids: manyKids(api.MaxKids)},
	{Fid: 2, Kind: api.Dir, Kids: []api.Kid{kid("itself", 2)}},
	{Fid: 0x01020304, Kind: api.File, Mode: 0x0506, Links: 0x0708, Data: []byte("abc")},
	{Fid: 1, Kind: api.File},
	{Fid: 3, Kind: api.File, Data: []byte(longData)},
	{Fid: 3, Kind: api.Link, Mode: 1, Links: 3, Data: []byte("no path")},
	{Fid: 3, Kind: api.Link, Data: []byte(longData)},
	{Fid: 3, Kind: api.Link},
}

// wrongNodes are not right by themselves, each for one cause, but can stand in bytes.
var wrongNodes = []api.Node{
	{},
	{Kind: api.File},
	{Kind: api.Dir, Kids: []api.Kid{kid("a", 2)}},
	{Fid: 2},
	{Fid: 2, Kind: 4},
	{Fid: 2, Kind: 255},
	{Fid: 2, Kind: api.Dir, Data: []byte("d")},
	{Fid: 2, Kind: api.Dir, Data: []byte{0}},
	{Fid: 2, Kind: api.File, Data: []byte(longData + "d")},
	{Fid: 2, Kind: api.Link, Data: make([]byte, 255)},
	{Fid: 2, Kind: api.File, Kids: []api.Kid{kid("a", 3)}},
	{Fid: 2, Kind: api.Link, Kids: []api.Kid{kid("a", 3)}},
	{Fid: 2, Kind: api.Dir, Kids: manyKids(api.MaxKids + 1)},
	{Fid: 2, Kind: api.Dir, Kids: manyKids(255)},
	{Fid: 2, Kind: api.Dir, Kids: []api.Kid{kid("a", 0)}},
	{Fid: 2, Kind: api.Dir, Kids: []api.Kid{kid("a", 3), kid("b", 0)}},
	{Fid: 2, Kind: api.Dir, Kids: []api.Kid{kid("a", 3), kid("a", 4)}},
	{Fid: 2, Kind: api.Dir, Kids: []api.Kid{kid("b", 3), kid("a", 4)}},
	{Fid: 2, Kind: api.Dir, Kids: []api.Kid{kid("", 3)}},
	{Fid: 2, Kind: api.Dir, Kids: []api.Kid{kid(".", 3)}},
	{Fid: 2, Kind: api.Dir, Kids: []api.Kid{kid("..", 3)}},
	{Fid: 2, Kind: api.Dir, Kids: []api.Kid{kid("A", 3)}},
	{Fid: 2, Kind: api.Dir, Kids: []api.Kid{kid("a", 3), kid("\xff", 4)}},
	{Fid: 2, Kind: api.Dir, Kids: []api.Kid{kid(longName+"m", 3)}},
}

// longNodes are not right, and can't stand in bytes.
var longNodes = []api.Node{
	{Fid: 2, Kind: api.File, Data: make([]byte, 256)},
	{Fid: 2, Kind: api.Link, Data: make([]byte, 1<<20)},
	{Fid: 2, Kind: api.Dir, Kids: make([]api.Kid, 256)},
	{Fid: 2, Kind: api.Dir, Kids: manyKids(257)},
	{Fid: 2, Kind: api.Dir, Kids: []api.Kid{kid(strings.Repeat("n", 256), 3)}},
}

// sampleTree is a tree with a bit of all.
func sampleTree() []api.Node {
	return []api.Node{
		{Fid: 1, Kind: api.Dir, Mode: 7, Kids: []api.Kid{kid("a", 2), kid("g", 4), kid("l", 1<<24+6)}},
		{Fid: 2, Kind: api.Dir, Mode: 1, Links: 1, Kids: []api.Kid{kid("b", 3), kid("f", 4)}},
		{Fid: 3, Kind: api.Dir, Links: 1},
		{Fid: 4, Kind: api.File, Mode: 9, Links: 2, Data: []byte("four")},
		{Fid: 1<<24 + 6, Kind: api.Link, Links: 1, Data: []byte("/a/b")},
	}
}

// fullTree is one of n nodes: four directories, and files with as much data as may be.
func fullTree(n int) []api.Node {
	t := []api.Node{{Fid: 1, Kind: api.Dir}}
	for d := api.Fid(2); d <= 5; d++ {
		t[0].Kids = append(t[0].Kids, kid("d"+strconv.Itoa(int(d)), d))
		t = append(t, api.Node{Fid: d, Kind: api.Dir, Links: 1})
	}
	for i, k := range manyKids(n - 5) {
		t[1+i%4].Kids = append(t[1+i%4].Kids, k)
		t = append(t, api.Node{Fid: k.Fid, Kind: api.File, Links: 1, Data: []byte(longData)})
	}
	return t
}

// snapshotOf is a snapshot of nodes, with versions of all sizes.
func snapshotOf(t []api.Node) api.Snapshot {
	s := api.Snapshot{Tree: t}
	for i, n := range t {
		s.Versions = append(s.Versions, api.Stamp{Fid: n.Fid, Version: math.MaxUint64 >> (i % 65), Writer: uint8(i % (api.MaxClients + 1))})
	}
	return s
}

// rightSnapshots are right, the edges among them.
func rightSnapshots() []api.Snapshot {
	none := snapshotOf(tree.New())
	none.Versions[0] = api.Stamp{Fid: 1}
	return []api.Snapshot{none, snapshotOf(tree.New()), snapshotOf(sampleTree()), snapshotOf(fullTree(api.MaxNodes))}
}

// wrongSnapshots are not right, each for one cause, but can stand in bytes.
func wrongSnapshots() map[string]api.Snapshot {
	list := map[string]api.Snapshot{"nothing": {}, "too many": snapshotOf(fullTree(api.MaxNodes + 1)), "no tree": snapshotOf(nil)}
	for what, spoil := range map[string]func(s *api.Snapshot){
		"no versions":            func(s *api.Snapshot) { s.Versions = nil },
		"a version less":         func(s *api.Snapshot) { s.Versions = s.Versions[:4] },
		"a version more":         func(s *api.Snapshot) { s.Versions = append(s.Versions, api.Stamp{Fid: 1<<24 + 7}) },
		"a version twice":        func(s *api.Snapshot) { s.Versions = append(s.Versions, s.Versions[4]) },
		"a version of another":   func(s *api.Snapshot) { s.Versions[3].Fid = 5 },
		"a version of 0":         func(s *api.Snapshot) { s.Versions[0].Fid = 0 },
		"versions in disorder":   func(s *api.Snapshot) { s.Versions[0], s.Versions[1] = s.Versions[1], s.Versions[0] },
		"a writer":               func(s *api.Snapshot) { s.Versions[0].Writer = api.MaxClients + 1 },
		"the last writer":        func(s *api.Snapshot) { s.Versions[4].Writer = 255 },
		"no nodes":               func(s *api.Snapshot) { s.Tree = nil },
		"no root":                func(s *api.Snapshot) { s.Tree, s.Versions = s.Tree[1:], s.Versions[1:] },
		"the root is a file":     func(s *api.Snapshot) { s.Tree[0] = api.Node{Fid: 1, Kind: api.File} },
		"a node less":            func(s *api.Snapshot) { s.Tree, s.Versions = s.Tree[:4], s.Versions[:4] },
		"links":                  func(s *api.Snapshot) { s.Tree[3].Links = 1 },
		"a kid that isn't there": func(s *api.Snapshot) { s.Tree[2].Kids = []api.Kid{kid("x", 99)} },
		"no kind":                func(s *api.Snapshot) { s.Tree[3].Kind = api.NoKind },
		"nodes in disorder": func(s *api.Snapshot) {
			s.Tree[2], s.Tree[3] = s.Tree[3], s.Tree[2]
			s.Versions[2], s.Versions[3] = s.Versions[3], s.Versions[2]
		},
		"a directory below itself": func(s *api.Snapshot) {
			s.Tree[0].Kids = s.Tree[0].Kids[1:]
			s.Tree[2].Kids = []api.Kid{kid("r", 2)}
		},
	} {
		s := snapshotOf(sampleTree())
		spoil(&s)
		list[what] = s
	}
	return list
}

// The bytes by the document's words, whether or not what they say is right.

var number = binary.BigEndian

func reckonText(b []byte, s string) []byte {
	return append(append(b, byte(len(s))), s...)
}

func reckonOp(o api.Op) []byte {
	b := number.AppendUint32([]byte{byte(o.Kind)}, uint32(o.Fid))
	b = reckonText(number.AppendUint32(b, uint32(o.At)), o.Name)
	b = reckonText(number.AppendUint32(b, uint32(o.To)), o.Name2)
	return reckonText(number.AppendUint16(b, o.Mode), o.Data)
}

func reckonRecords(l []api.Record) []byte {
	b := []byte{byte(len(l))}
	for _, r := range l {
		b = append(number.AppendUint64(b, r.Seen), reckonOp(r.Op)...)
	}
	return b
}

func reckonNode(n api.Node) []byte {
	b := append(number.AppendUint32(nil, uint32(n.Fid)), byte(n.Kind))
	b = number.AppendUint16(number.AppendUint16(b, n.Mode), n.Links)
	b = append(reckonText(b, string(n.Data)), byte(len(n.Kids)))
	for _, k := range n.Kids {
		b = number.AppendUint32(reckonText(b, k.Name), uint32(k.Fid))
	}
	return b
}

func reckonSnapshot(s api.Snapshot) []byte {
	b := []byte{byte(len(s.Tree))}
	for _, n := range s.Tree {
		node := reckonNode(n)
		b = append(number.AppendUint16(b, uint16(len(node))), node...)
	}
	return append(b, reckonVersions(s.Versions)...)
}

func reckonVersions(l []api.Stamp) []byte {
	b := []byte{byte(len(l))}
	for _, v := range l {
		b = append(number.AppendUint64(number.AppendUint32(b, uint32(v.Fid)), v.Version), v.Writer)
	}
	return b
}

func sameNode(a, b api.Node) bool {
	return tree.Same([]api.Node{a}, []api.Node{b})
}

func sameSnapshot(a, b api.Snapshot) bool {
	return tree.Same(a.Tree, b.Tree) && slices.Equal(a.Versions, b.Versions)
}

func isNone(s api.Snapshot) bool {
	return len(s.Tree) == 0 && len(s.Versions) == 0
}

// wantNoOp, wantNoRecords, wantNoNode, wantNoSnapshot ask for ErrForm of bytes, and for nothing beside it.

func wantNoOp(t *testing.T, why string, b []byte) {
	t.Helper()
	if o, err := ReadOp(b); err != api.ErrForm || o != (api.Op{}) {
		t.Errorf("%s: ReadOp answers %v, %d", why, o, err)
	}
}

func wantNoRecords(t *testing.T, why string, b []byte) {
	t.Helper()
	if l, err := ReadRecords(b); err != api.ErrForm || len(l) != 0 {
		t.Errorf("%s: ReadRecords answers %v, %d", why, l, err)
	}
}

func wantNoNode(t *testing.T, why string, b []byte) {
	t.Helper()
	if n, err := ReadNode(b); err != api.ErrForm || !sameNode(n, api.Node{}) {
		t.Errorf("%s: ReadNode answers %v, %d", why, n, err)
	}
}

func wantNoSnapshot(t *testing.T, why string, b []byte) {
	t.Helper()
	if s, err := ReadSnapshot(b); err != api.ErrForm || !isNone(s) {
		t.Errorf("%s: ReadSnapshot answers %v, %d", why, s, err)
	}
}

// wantWhole asks for ErrForm of all bytes that are cut, and of those with more behind.
func wantWhole(t *testing.T, b []byte, refused func(t *testing.T, why string, b []byte)) {
	t.Helper()
	for n := range len(b) {
		refused(t, "cut to "+strconv.Itoa(n)+" bytes", b[:n:n])
		refused(t, "cut to "+strconv.Itoa(n)+" bytes, with more behind their end", b[:n])
	}
	for _, more := range []string{"\x00", "\x01", "\xff", "\x00\x00\x00\x00", string(b), strings.Repeat("\x00", 300)} {
		refused(t, strconv.Itoa(len(more))+" bytes more", append(slices.Clone(b), more...))
		refused(t, strconv.Itoa(len(more))+" bytes ahead", append([]byte(more), b...))
	}
}

func TestBytesOfAnOperation(t *testing.T) { // P7.1, as the document has them
	o := api.Op{Kind: api.Rename, At: 0x01020304, Name: "ab", To: 0x05060708, Name2: "c"}
	want := []byte{7, 0, 0, 0, 0, 1, 2, 3, 4, 2, 'a', 'b', 5, 6, 7, 8, 1, 'c', 0, 0, 0}
	if b, err := Op(o); err != api.OK || !bytes.Equal(b, want) {
		t.Errorf("%v, %d", b, err)
	}
	o = api.Op{Kind: api.Symlink, Fid: 0x0a0b0c0d, At: 1, Name: "l", Mode: 0x0102, Data: "/x"}
	want = []byte{3, 10, 11, 12, 13, 0, 0, 0, 1, 1, 'l', 0, 0, 0, 0, 0, 1, 2, 2, '/', 'x'}
	if b, err := Op(o); err != api.OK || !bytes.Equal(b, want) {
		t.Errorf("%v, %d", b, err)
	}
}

func TestOp(t *testing.T) { // P7.1, P7.2, P7.3
	for _, o := range rightOps {
		b, err := Op(o)
		if err != api.OK || !bytes.Equal(b, reckonOp(o)) {
			t.Errorf("%v: %v, %d", o, b, err)
		}
		if got, err := ReadOp(b); err != api.OK || got != o {
			t.Errorf("%v: read as %v, %d", o, got, err)
		}
		wantWhole(t, reckonOp(o), wantNoOp)
	}
	for _, o := range slices.Concat(wrongOps, longOps) {
		if b, err := Op(o); err != api.ErrForm || len(b) != 0 {
			t.Errorf("%v: %v, %d", o, b, err)
		}
	}
	for _, o := range wrongOps {
		wantNoOp(t, "not right", reckonOp(o))
	}
}

func TestBytesOfRecords(t *testing.T) { // P7.1, example 1
	for _, none := range [][]api.Record{nil, {}} {
		if b, err := Records(none); err != api.OK || !bytes.Equal(b, []byte{0}) {
			t.Errorf("of nobody: %v, %d", b, err)
		}
	}
	if l, err := ReadRecords([]byte{0}); err != api.OK || len(l) != 0 {
		t.Errorf("of nobody: %v, %d", l, err)
	}
	want := []byte{2, 1, 2, 3, 4, 5, 6, 7, 8, 9, 0, 0, 1, 2, 0, 0, 0, 0, 0, 0, 0, 0, 0, 0, 1, 2, 0,
		0, 0, 0, 0, 0, 0, 0, 0, 8, 0, 0, 0, 4, 0, 0, 0, 0, 0, 0, 0, 0, 0, 0, 0, 0, 1, 'x'}
	l := []api.Record{{Seen: 0x0102030405060708, Op: api.Op{Kind: api.Chmod, Fid: 258, Mode: 258}}, {Op: api.Op{Kind: api.Store, Fid: 4, Data: "x"}}}
	if b, err := Records(l); err != api.OK || !bytes.Equal(b, want) {
		t.Errorf("%v, %d", b, err)
	}
}

// someRecords are n right ones.
func someRecords(n int) []api.Record {
	var l []api.Record
	for i := range n {
		l = append(l, api.Record{Op: rightOps[i%len(rightOps)], Seen: uint64(i) * 0x0123456789abcdef})
	}
	return l
}

func TestRecords(t *testing.T) { // P7.1, P7.2, P7.3
	for n := range api.MaxLog + 1 {
		l := someRecords(n)
		b, err := Records(l)
		if err != api.OK || !bytes.Equal(b, reckonRecords(l)) {
			t.Errorf("%d records: %d bytes, error %d", n, len(b), err)
		}
		if got, err := ReadRecords(b); err != api.OK || !slices.Equal(got, l) {
			t.Errorf("%d records: read as %v, %d", n, got, err)
		}
		if n > 0 {
			wantWhole(t, reckonRecords(l), wantNoRecords)
		}
	}
	wantNoRecords(t, "nothing", []byte{})
	wantNoRecords(t, "more behind nobody's", []byte{0, 0})
}

func TestWrongRecords(t *testing.T) { // P7.1, P2
	for _, n := range []int{api.MaxLog + 1, 255, 256, 257, 256 + api.MaxLog, 1 << 16} {
		if b, err := Records(someRecords(n)); err != api.ErrForm || len(b) != 0 {
			t.Errorf("%d records: %d bytes, error %d", n, len(b), err)
		}
		if n <= 255 {
			wantNoRecords(t, "too many", reckonRecords(someRecords(n)))
		}
	}
	for _, o := range slices.Concat(wrongOps, longOps) {
		for _, at := range []int{0, 5, api.MaxLog - 1} {
			l := someRecords(api.MaxLog)
			l[at].Op = o
			if b, err := Records(l); err != api.ErrForm || len(b) != 0 {
				t.Errorf("%v among others: %d bytes, error %d", o, len(b), err)
			}
		}
	}
	for _, o := range wrongOps {
		l := someRecords(4)
		l[2].Op = o
		wantNoRecords(t, "one that is not right", reckonRecords(l))
	}
}

func TestBytesOfANode(t *testing.T) { // P7.1
	n := api.Node{Fid: 0x01020304, Kind: api.Dir, Mode: 0x0506, Links: 0x0708, Kids: []api.Kid{kid("a", 0x0a0b0c0d), kid("bc", 3)}}
	want := []byte{1, 2, 3, 4, 2, 5, 6, 7, 8, 0, 2, 1, 'a', 10, 11, 12, 13, 2, 'b', 'c', 0, 0, 0, 3}
	if b, err := Node(n); err != api.OK || !bytes.Equal(b, want) {
		t.Errorf("%v, %d", b, err)
	}
	n = api.Node{Fid: 5, Kind: api.File, Links: 1, Data: []byte("xy")}
	want = []byte{0, 0, 0, 5, 1, 0, 0, 0, 1, 2, 'x', 'y', 0}
	if b, err := Node(n); err != api.OK || !bytes.Equal(b, want) {
		t.Errorf("%v, %d", b, err)
	}
}

func TestNode(t *testing.T) { // P7.1, P7.2, P7.3
	for _, n := range rightNodes {
		b, err := Node(n)
		if err != api.OK || !bytes.Equal(b, reckonNode(n)) {
			t.Errorf("%v: %v, %d", n, b, err)
		}
		if got, err := ReadNode(b); err != api.OK || !sameNode(got, n) {
			t.Errorf("%v: read as %v, %d", n, got, err)
		}
		wantWhole(t, reckonNode(n), wantNoNode)
	}
	empty := api.Node{Fid: 2, Kind: api.Dir, Data: []byte{}, Kids: []api.Kid{}}
	if b, err := Node(empty); err != api.OK || !bytes.Equal(b, reckonNode(empty)) {
		t.Errorf("lists that are empty: %v, %d", b, err)
	}
	for _, n := range slices.Concat(wrongNodes, longNodes) {
		if b, err := Node(n); err != api.ErrForm || len(b) != 0 {
			t.Errorf("%v: %v, %d", n, b, err)
		}
	}
	for _, n := range wrongNodes {
		wantNoNode(t, "not right by itself", reckonNode(n))
	}
}

func TestBytesOfASnapshot(t *testing.T) { // P7.1
	s := api.Snapshot{
		Tree: []api.Node{
			{Fid: 1, Kind: api.Dir, Mode: 2, Kids: []api.Kid{kid("f", 3)}},
			{Fid: 3, Kind: api.File, Links: 1, Data: []byte("x")},
		},
		Versions: []api.Stamp{{Fid: 1, Version: 1}, {Fid: 3, Version: 0x0102030405060708, Writer: 3}},
	}
	want := []byte{2,
		0, 17, 0, 0, 0, 1, 2, 0, 2, 0, 0, 0, 1, 1, 'f', 0, 0, 0, 3,
		0, 12, 0, 0, 0, 3, 1, 0, 0, 0, 1, 1, 'x', 0,
		2, 0, 0, 0, 1, 0, 0, 0, 0, 0, 0, 0, 1, 0, 0, 0, 0, 3, 1, 2, 3, 4, 5, 6, 7, 8, 3}
	if b, err := Snapshot(s); err != api.OK || !bytes.Equal(b, want) {
		t.Errorf("%v, %d", b, err)
	}
	if got, err := ReadSnapshot(want); err != api.OK || !sameSnapshot(got, s) {
		t.Errorf("%v, %d", got, err)
	}
}

func TestSnapshot(t *testing.T) { // P7.1, P7.2, P7.3
	for i, s := range rightSnapshots() {
		b, err := Snapshot(s)
		if err != api.OK || !bytes.Equal(b, reckonSnapshot(s)) {
			t.Errorf("snapshot %d: %d bytes, error %d", i, len(b), err)
		}
		if got, err := ReadSnapshot(b); err != api.OK || !sameSnapshot(got, s) {
			t.Errorf("snapshot %d: read as %v, %d", i, got, err)
		}
		wantWhole(t, reckonSnapshot(s), wantNoSnapshot)
	}
	for what, s := range wrongSnapshots() {
		if b, err := Snapshot(s); err != api.ErrForm || len(b) != 0 {
			t.Errorf("%s: %d bytes, error %d", what, len(b), err)
		}
		wantNoSnapshot(t, what, reckonSnapshot(s))
	}
	for _, n := range []int{256 + 5, 256 + api.MaxNodes, 1 << 16} { // beyond what one byte can count
		long := snapshotOf(sampleTree())
		long.Versions = append(long.Versions, make([]api.Stamp, n-5)...)
		wide := snapshotOf(append(sampleTree(), make([]api.Node, n-5)...))
		for _, s := range []api.Snapshot{long, wide, {Tree: sampleTree(), Versions: wide.Versions}} {
			if b, err := Snapshot(s); err != api.ErrForm || len(b) != 0 {
				t.Errorf("%d nodes, %d versions: %d bytes, error %d", len(s.Tree), len(s.Versions), len(b), err)
			}
		}
	}
}

func TestLengthsInASnapshot(t *testing.T) { // P7.1, P7.3: a node's bytes are as many as said
	s := snapshotOf(sampleTree())
	for i := range s.Tree {
		for _, off := range []int{-256, -2, -1, 1, 2, 256} {
			spoiled := []byte{byte(len(s.Tree))}
			for k, n := range s.Tree {
				node := reckonNode(n)
				length := len(node)
				if k == i {
					length += off
				}
				spoiled = append(number.AppendUint16(spoiled, uint16(length)), node...)
				if k == i && off > 0 { // and so many more are there
					wantNoSnapshot(t, "more in a node", finish(append(slices.Clone(spoiled), make([]byte, off)...), s, k))
				}
			}
			wantNoSnapshot(t, "another length", append(spoiled, reckonVersions(s.Versions)...))
		}
	}
}

// finish are bytes with the nodes behind the k-th one of a snapshot, and its versions.
func finish(b []byte, s api.Snapshot, k int) []byte {
	for _, n := range s.Tree[k+1:] {
		node := reckonNode(n)
		b = append(number.AppendUint16(b, uint16(len(node))), node...)
	}
	return append(b, reckonVersions(s.Versions)...)
}

// wantBack asks of any bytes: they are refused, or what they say has just these bytes.
func wantBack(t *testing.T, b []byte) {
	t.Helper()
	if o, err := ReadOp(b); err == api.OK && (!tree.RightOp(o) || !bytes.Equal(reckonOp(o), b)) {
		t.Errorf("%v: read as %v", b, o)
	} else if err != api.OK {
		wantNoOp(t, "any bytes", b)
	}
	if l, err := ReadRecords(b); err == api.OK && (len(l) > api.MaxLog || !bytes.Equal(reckonRecords(l), b)) {
		t.Errorf("%v: read as %v", b, l)
	} else if err != api.OK {
		wantNoRecords(t, "any bytes", b)
	}
	if n, err := ReadNode(b); err == api.OK {
		if again, err := Node(n); err != api.OK || !bytes.Equal(again, b) || !bytes.Equal(reckonNode(n), b) {
			t.Errorf("%v: read as %v", b, n)
		}
	} else {
		wantNoNode(t, "any bytes", b)
	}
	if s, err := ReadSnapshot(b); err == api.OK {
		if again, err := Snapshot(s); err != api.OK || !bytes.Equal(again, b) || !bytes.Equal(reckonSnapshot(s), b) {
			t.Errorf("%v: read as %v", b, s)
		}
	} else {
		wantNoSnapshot(t, "any bytes", b)
	}
}

// someBytes are of right things, one of each kind and size.
func someBytes() [][]byte {
	var list [][]byte
	for _, o := range rightOps {
		list = append(list, reckonOp(o))
	}
	for _, n := range rightNodes {
		list = append(list, reckonNode(n))
	}
	for _, s := range rightSnapshots()[:3] {
		list = append(list, reckonSnapshot(s))
	}
	return append(list, reckonRecords(someRecords(1)), reckonRecords(someRecords(7)))
}

func TestEachByteChanged(t *testing.T) { // P7.2, P1
	for _, b := range someBytes() {
		for i := range b {
			for _, to := range []byte{0, 1, 2, 3, 4, 9, 10, 13, '.', 'a', 64, 65, 128, 255, b[i] + 1, b[i] - 1} {
				other := slices.Clone(b)
				other[i] = to
				wantBack(t, other)
			}
		}
	}
}

func TestAnyBytes(t *testing.T) { // P1, P7.2
	wantBack(t, nil)
	wantBack(t, []byte{})
	for _, one := range []byte{0, 1, 40, 255} {
		for _, n := range []int{1, 2, 15, 16, 21, 300, 70000} {
			wantBack(t, bytes.Repeat([]byte{one}, n))
		}
	}
	chance := rand.New(rand.NewPCG(7, 1))
	for range 20000 {
		b := make([]byte, chance.IntN(60))
		for i := range b {
			b[i] = byte(chance.IntN(4))
			if chance.IntN(8) == 0 {
				b[i] = byte(chance.IntN(256))
			}
		}
		wantBack(t, b)
	}
}

func TestWhatIsHandedInStays(t *testing.T) { // P3
	for _, whole := range someBytes() {
		room := append(slices.Clone(whole), "behind the end"...)
		b := room[:len(whole)]
		before := slices.Clone(room)
		wantBack(t, b)
		if !bytes.Equal(room, before) {
			t.Fatal("bytes that were handed in have changed")
		}
	}
	l := someRecords(5)
	Records(l[:3])
	if !slices.Equal(l, someRecords(5)) {
		t.Error("records that were handed in have changed")
	}
	s := snapshotOf(sampleTree())
	Snapshot(s)
	Node(s.Tree[0])
	Node(s.Tree[3])
	if !sameSnapshot(s, snapshotOf(sampleTree())) {
		t.Error("a snapshot that was handed in has changed")
	}
}

func TestAnswersAreTheCallers(t *testing.T) { // P3
	want := snapshotOf(sampleTree())
	b := reckonSnapshot(want)
	got, _ := ReadSnapshot(b)
	again, _ := ReadSnapshot(b)
	clear(b)
	for i := range again.Tree {
		n := &again.Tree[i]
		clear(n.Data)
		clear(n.Kids)
		n.Data, n.Kids = append(n.Data, '#'), append(n.Kids, kid("#", 9))
	}
	clear(again.Tree)
	clear(again.Versions)
	if !sameSnapshot(got, want) {
		t.Error("a snapshot that was read has changed")
	}
	for i := range got.Tree { // what stands behind one list's end is no other list
		got.Tree[i].Data = append(got.Tree[i].Data, "#####"...)[:len(got.Tree[i].Data)]
		got.Tree[i].Kids = append(got.Tree[i].Kids, kid("#", 9))[:len(got.Tree[i].Kids)]
	}
	if !sameSnapshot(got, want) {
		t.Error("two lists of one snapshot lie in one another")
	}
	b = reckonNode(rightNodes[5])
	n, _ := ReadNode(b)
	clear(b)
	if !sameNode(n, rightNodes[5]) {
		t.Error("a node that was read lies in what was handed in")
	}
	b = reckonRecords(someRecords(9))
	l, _ := ReadRecords(b)
	clear(b)
	if !slices.Equal(l, someRecords(9)) {
		t.Error("records that were read lie in what was handed in")
	}
	one, _ := Node(rightNodes[5])
	two, _ := Node(rightNodes[5])
	clear(one[:cap(one)])
	if !bytes.Equal(two, reckonNode(rightNodes[5])) || string(rightNodes[5].Data) != "abc" {
		t.Error("two answers of Node share their bytes")
	}
}

func FuzzBytes(f *testing.F) { // P1, P7.2
	for _, b := range someBytes() {
		f.Add(b)
	}
	f.Fuzz(wantBack)
}
