package tree

import (
	"bytes"
	"slices"
	"strconv"
	"strings"
	"testing"

	"backwater/api"
)

const longName = "abcdefghijkl" // of MaxName bytes

// sample is a tree with a bit of all: /a (2), /a/b (3), /a/f (4), /g (4 too), /e (5), /l (6, a link to /a/b), /z (7).
func sample() []api.Node {
	return []api.Node{
		{Fid: 1, Kind: api.Dir, Mode: 7, Kids: []api.Kid{{Name: "a", Fid: 2}, {Name: "e", Fid: 5}, {Name: "g", Fid: 4}, {Name: "l", Fid: 6}, {Name: "z", Fid: 7}}},
		{Fid: 2, Kind: api.Dir, Mode: 1, Links: 1, Kids: []api.Kid{{Name: "b", Fid: 3}, {Name: "f", Fid: 4}}},
		{Fid: 3, Kind: api.Dir, Links: 1},
		{Fid: 4, Kind: api.File, Mode: 9, Links: 2, Data: []byte("four")},
		{Fid: 5, Kind: api.Dir, Links: 1},
		{Fid: 6, Kind: api.Link, Links: 1, Data: []byte("/a/b")},
		{Fid: 7, Kind: api.File, Links: 1},
	}
}

// wide is a tree whose directory 2 has n files, from 100 on, by names k00 on; 3 is another directory, 4 a file in the root.
func wide(n int) []api.Node {
	t := []api.Node{
		{Fid: 1, Kind: api.Dir, Kids: []api.Kid{{Name: "a", Fid: 2}, {Name: "b", Fid: 3}, {Name: "f", Fid: 4}}},
		{Fid: 2, Kind: api.Dir, Links: 1},
		{Fid: 3, Kind: api.Dir, Links: 1},
		{Fid: 4, Kind: api.File, Links: 1},
	}
	for i := range n {
		f := api.Fid(100 + i)
		t[1].Kids = append(t[1].Kids, api.Kid{Name: nameOf(i), Fid: f})
		t = append(t, api.Node{Fid: f, Kind: api.File, Links: 1})
	}
	return t
}

func nameOf(i int) string {
	return "k" + strconv.Itoa(i/10) + strconv.Itoa(i%10)
}

// full is a tree of n nodes: the root, four directories in it (2 to 5), and files from 100 on in these.
func full(n int) []api.Node {
	t := []api.Node{{Fid: 1, Kind: api.Dir}}
	for d := api.Fid(2); d <= 5; d++ {
		t[0].Kids = append(t[0].Kids, api.Kid{Name: "d" + strconv.Itoa(int(d)), Fid: d})
		t = append(t, api.Node{Fid: d, Kind: api.Dir, Links: 1})
	}
	for i := range n - 5 {
		f := api.Fid(100 + i)
		t[1+i%4].Kids = append(t[1+i%4].Kids, api.Kid{Name: nameOf(i), Fid: f})
		t = append(t, api.Node{Fid: f, Kind: api.File, Links: 1})
	}
	return t
}

// deepCopy is apart from the program's own.
func deepCopy(t []api.Node) []api.Node {
	var list []api.Node
	for _, n := range t {
		n.Data = append([]byte(nil), n.Data...)
		n.Kids = append([]api.Kid(nil), n.Kids...)
		list = append(list, n)
	}
	return list
}

// equal says whether nodes are alike, apart from the program's own.
func equal(a, b []api.Node) bool {
	if len(a) != len(b) {
		return false
	}
	for i, n := range a {
		m := b[i]
		if n.Fid != m.Fid || n.Kind != m.Kind || n.Mode != m.Mode || n.Links != m.Links || string(n.Data) != string(m.Data) || !slices.Equal(n.Kids, m.Kids) {
			return false
		}
	}
	return true
}

func TestNew(t *testing.T) { // P6.1
	if !equal(New(), []api.Node{{Fid: 1, Kind: api.Dir}}) || !Right(New()) {
		t.Errorf("New() = %v", New())
	}
	a, b := New(), New()
	a[0].Mode = 5
	if b[0].Mode != 0 || New()[0].Mode != 0 {
		t.Error("two answers of New are one")
	}
}

func TestRightTrees(t *testing.T) { // P6.1
	data := sample()
	data[3].Data = make([]byte, api.MaxData)
	data[5].Data = make([]byte, api.MaxData)
	names := sample()
	names[1].Kids[0].Name = "-._0az"
	names[1].Kids[1].Name = longName
	empty := sample()
	empty[2].Data, empty[2].Kids, empty[6].Data, empty[6].Kids = []byte{}, []api.Kid{}, []byte{}, []api.Kid{}
	noLink := sample()
	noLink[5].Data = nil
	for what, x := range map[string][]api.Node{
		"sample": sample(), "New": New(), "wide": wide(api.MaxKids), "full": full(api.MaxNodes), "data": data, "names": names, "empty": empty, "a link to nothing": noLink,
		"two entries in one directory": {
			{Fid: 1, Kind: api.Dir, Kids: []api.Kid{{Name: "a", Fid: 9}, {Name: "b", Fid: 9}}},
			{Fid: 9, Kind: api.Link, Links: 2},
		},
		"a child of a smaller fid": {
			{Fid: 1, Kind: api.Dir, Kids: []api.Kid{{Name: "a", Fid: 1<<32 - 1}}},
			{Fid: 2, Kind: api.Dir, Links: 1},
			{Fid: 1<<32 - 1, Kind: api.Dir, Links: 1, Kids: []api.Kid{{Name: "a", Fid: 2}}},
		},
	} {
		if !Right(x) {
			t.Errorf("%s: not Right", what)
		}
	}
}

func TestWrongTrees(t *testing.T) { // P6.1
	for what, spoil := range map[string]func(x []api.Node) []api.Node{
		"no nodes":                    func(x []api.Node) []api.Node { return nil },
		"none":                        func(x []api.Node) []api.Node { return x[:0] },
		"no root":                     func(x []api.Node) []api.Node { return x[1:] },
		"an end is missing":           func(x []api.Node) []api.Node { return x[:6] },
		"a fid 0":                     func(x []api.Node) []api.Node { return append([]api.Node{{Kind: api.File}}, x...) },
		"a fid twice":                 func(x []api.Node) []api.Node { return append(x, x[6]) },
		"fids that fall":              func(x []api.Node) []api.Node { x[5], x[6] = x[6], x[5]; return x },
		"the root is a file":          func(x []api.Node) []api.Node { return []api.Node{{Fid: 1, Kind: api.File}} },
		"the root is a link":          func(x []api.Node) []api.Node { return []api.Node{{Fid: 1, Kind: api.Link}} },
		"no kind":                     func(x []api.Node) []api.Node { x[6].Kind = api.NoKind; return x },
		"another kind":                func(x []api.Node) []api.Node { x[6].Kind = 4; return x },
		"the root of no kind":         func(x []api.Node) []api.Node { x[0].Kind = 255; return x },
		"a file's data too long":      func(x []api.Node) []api.Node { x[6].Data = make([]byte, api.MaxData+1); return x },
		"a link's data too long":      func(x []api.Node) []api.Node { x[5].Data = make([]byte, api.MaxData+1); return x },
		"data of a directory":         func(x []api.Node) []api.Node { x[2].Data = []byte{0}; return x },
		"data of the root":            func(x []api.Node) []api.Node { x[0].Data = []byte("x"); return x },
		"kids of a file":              func(x []api.Node) []api.Node { x[6].Kids = []api.Kid{{Name: "x", Fid: 4}}; x[3].Links++; return x },
		"kids of a link":              func(x []api.Node) []api.Node { x[5].Kids = []api.Kid{{Name: "x", Fid: 4}}; x[3].Links++; return x },
		"names that fall":             func(x []api.Node) []api.Node { x[1].Kids[0].Name = "x"; return x },
		"a name twice":                func(x []api.Node) []api.Node { x[1].Kids[0].Name = "f"; return x },
		"an empty name":               func(x []api.Node) []api.Node { x[1].Kids[0].Name = ""; return x },
		"a name .":                    func(x []api.Node) []api.Node { x[1].Kids[0].Name = "."; return x },
		"a name ..":                   func(x []api.Node) []api.Node { x[1].Kids[0].Name = ".."; return x },
		"a name too long":             func(x []api.Node) []api.Node { x[1].Kids[0].Name = longName + "m"; return x },
		"a name with /":               func(x []api.Node) []api.Node { x[1].Kids[0].Name = "a/b"; return x },
		"a name of a great letter":    func(x []api.Node) []api.Node { x[1].Kids[0].Name = "B"; return x },
		"a kid that is not there":     func(x []api.Node) []api.Node { x[2].Kids = []api.Kid{{Name: "x", Fid: 99}}; return x },
		"a kid of fid 0":              func(x []api.Node) []api.Node { x[2].Kids = []api.Kid{{Name: "x", Fid: 0}}; return x },
		"a kid that is the root":      func(x []api.Node) []api.Node { x[2].Kids = []api.Kid{{Name: "x", Fid: 1}}; return x },
		"the root as a kid, counted":  func(x []api.Node) []api.Node { x[2].Kids = []api.Kid{{Name: "x", Fid: 1}}; x[0].Links = 1; return x },
		"the root in itself":          func(x []api.Node) []api.Node { x[0].Kids = append(x[0].Kids, api.Kid{Name: "zz", Fid: 1}); return x },
		"too few links":               func(x []api.Node) []api.Node { x[3].Links = 1; return x },
		"too many links":              func(x []api.Node) []api.Node { x[3].Links = 3; return x },
		"links of a dir":              func(x []api.Node) []api.Node { x[2].Links = 2; return x },
		"no links":                    func(x []api.Node) []api.Node { x[6].Links = 0; return x },
		"links of the root":           func(x []api.Node) []api.Node { x[0].Links = 1; return x },
		"a file without an entry":     func(x []api.Node) []api.Node { return append(x, api.Node{Fid: 8, Kind: api.File}) },
		"a file, an entry said":       func(x []api.Node) []api.Node { return append(x, api.Node{Fid: 8, Kind: api.File, Links: 1}) },
		"a directory without entry":   func(x []api.Node) []api.Node { return append(x, api.Node{Fid: 8, Kind: api.Dir}) },
		"a directory with two":        func(x []api.Node) []api.Node { x[2].Kids = []api.Kid{{Name: "x", Fid: 5}}; x[4].Links = 2; return x },
		"links that go round":         func(x []api.Node) []api.Node { x[6].Links = 65535; return x },
		"a directory in itself":       func(x []api.Node) []api.Node { return append(x, ring(8, 8)...) },
		"two in each other":           func(x []api.Node) []api.Node { return append(x, ring(8, 9)...) },
		"five in a ring":              func(x []api.Node) []api.Node { return append(x, ring(8, 12)...) },
		"a ring with one below":       func(x []api.Node) []api.Node { return append(x, ringWithTail()...) },
		"a ring and nothing beside":   func(x []api.Node) []api.Node { return append(New(), ring(2, 40)...) },
		"a ring, and a file below it": func(x []api.Node) []api.Node { return append(x, ringWithFile()...) },
	} {
		if x := spoil(sample()); Right(x) {
			t.Errorf("%s: Right", what)
		}
	}
	if Right(full(api.MaxNodes + 1)) {
		t.Error("too many nodes: Right")
	}
	if Right(wide(api.MaxKids + 1)) {
		t.Error("too many kids: Right")
	}
}

// ring are directories each of which is in the one ahead of it, and the first one in the last one.
func ring(from, to api.Fid) []api.Node {
	var list []api.Node
	for f := from; f <= to; f++ {
		next := f + 1
		if f == to {
			next = from
		}
		list = append(list, api.Node{Fid: f, Kind: api.Dir, Links: 1, Kids: []api.Kid{{Name: "r", Fid: next}}})
	}
	return list
}

func ringWithTail() []api.Node {
	list := ring(9, 10)
	list[0].Kids = append(list[0].Kids, api.Kid{Name: "t", Fid: 11})
	return append(list, api.Node{Fid: 11, Kind: api.Dir, Links: 1})
}

func ringWithFile() []api.Node {
	list := ring(9, 10)
	list[1].Kids = append(list[1].Kids, api.Kid{Name: "t", Fid: 11})
	return append(list, api.Node{Fid: 11, Kind: api.File, Links: 1})
}

func TestLongListsAreNotRight(t *testing.T) { // P1: it ends
	if Right(make([]api.Node, 1<<20)) {
		t.Error("Right")
	}
	x := sample()
	x[2].Kids = make([]api.Kid, 1<<20)
	if Right(x) {
		t.Error("Right")
	}
}

// rightOps is one of each kind, with all that it names.
var rightOps = []api.Op{
	{Kind: api.Create, Fid: 9, At: 1, Name: "n", Mode: 3},
	{Kind: api.Mkdir, Fid: 9, At: 1, Name: "n", Mode: 3},
	{Kind: api.Symlink, Fid: 9, At: 1, Name: "n", Mode: 3, Data: "/x"},
	{Kind: api.Hard, Fid: 9, At: 1, Name: "n"},
	{Kind: api.Unlink, At: 1, Name: "n"},
	{Kind: api.Rmdir, At: 1, Name: "n"},
	{Kind: api.Rename, At: 1, Name: "n", To: 1, Name2: "m"},
	{Kind: api.Store, Fid: 9, Data: "text"},
	{Kind: api.Chmod, Fid: 9, Mode: 3},
}

var wrongNames = []string{"", ".", "..", "/", "a/b", "A", "a b", "é", "\xff", "\x00", longName + "m", strings.Repeat("x", 5000)}

func TestRightOp(t *testing.T) { // P6.1
	for _, o := range rightOps {
		if !RightOp(o) {
			t.Errorf("%v: not right", o)
		}
		bare := o
		bare.Mode, bare.Data = 0, ""
		if !RightOp(bare) {
			t.Errorf("%v: not right", bare)
		}
		for k := range 256 {
			other := o
			other.Kind = api.OpKind(k)
			if k == 0 || k > int(api.Chmod) {
				if RightOp(other) || RightOp(api.Op{Kind: api.OpKind(k)}) {
					t.Errorf("%v: right", other)
				}
			}
		}
		if RightOp(api.Op{Kind: o.Kind}) {
			t.Errorf("kind %d alone: right", o.Kind)
		}
	}
	if RightOp(api.Op{}) {
		t.Error("nothing: right")
	}
}

// named tells whether a kind names a part, by the document's words.
func named(k api.OpKind, part string) bool {
	return slices.Contains(strings.Fields(map[api.OpKind]string{
		api.Create: "Fid At Name Mode", api.Mkdir: "Fid At Name Mode", api.Symlink: "Fid At Name Mode Data", api.Hard: "Fid At Name",
		api.Unlink: "At Name", api.Rmdir: "At Name", api.Rename: "At Name To Name2", api.Store: "Fid Data", api.Chmod: "Fid Mode",
	}[k]), part)
}

func TestRightOpPartByPart(t *testing.T) { // P6.1
	want := func(o api.Op, right bool) {
		t.Helper()
		if RightOp(o) != right {
			t.Errorf("RightOp(%v) is not %v", o, right)
		}
	}
	for _, right := range rightOps {
		for part, set := range map[string]func(o *api.Op, f api.Fid){
			"Fid": func(o *api.Op, f api.Fid) { o.Fid = f },
			"At":  func(o *api.Op, f api.Fid) { o.At = f },
			"To":  func(o *api.Op, f api.Fid) { o.To = f },
		} {
			for _, f := range []api.Fid{0, 2, 1<<32 - 1} {
				o := right
				set(&o, f)
				want(o, named(o.Kind, part) == (f != 0))
			}
			o := right
			set(&o, api.Root)
			want(o, named(o.Kind, part) && (part != "Fid" || o.Kind > api.Symlink))
		}
		for part, set := range map[string]func(o *api.Op, s string){
			"Name":  func(o *api.Op, s string) { o.Name = s },
			"Name2": func(o *api.Op, s string) { o.Name2 = s },
		} {
			for _, s := range wrongNames {
				o := right
				set(&o, s)
				want(o, s == "" && !named(o.Kind, part))
			}
			for _, s := range []string{"a", "...", "-._0z", longName} {
				o := right
				set(&o, s)
				want(o, named(o.Kind, part))
			}
		}
		o := right
		o.Mode = 65535
		want(o, named(o.Kind, "Mode"))
		for _, n := range []int{1, api.MaxData, api.MaxData + 1, 5000} {
			o := right
			o.Data = strings.Repeat("\xff", n)
			want(o, named(o.Kind, "Data") && n <= api.MaxData)
		}
	}
}

func TestGet(t *testing.T) { // P6.1, P2, P3
	x := sample()
	for i, n := range sample() {
		got, ok := Get(x, n.Fid)
		if !ok || !equal([]api.Node{got}, x[i:i+1]) {
			t.Errorf("Get(%d) = %v, %v", n.Fid, got, ok)
		}
	}
	for _, f := range []api.Fid{0, 8, 1<<32 - 1} {
		if n, ok := Get(x, f); ok || !equal([]api.Node{n}, []api.Node{{}}) {
			t.Errorf("Get(%d) = %v, %v", f, n, ok)
		}
	}
	if _, ok := Get(nil, 1); ok {
		t.Error("Get of no nodes")
	}
	wrong := []api.Node{{Fid: 9, Mode: 1}, {Fid: 3, Mode: 2}, {Fid: 9, Mode: 3}, {Fid: 3, Mode: 4}, {Mode: 5}}
	for f, mode := range map[api.Fid]uint16{9: 1, 3: 2, 0: 5} {
		if n, ok := Get(wrong, f); !ok || n.Mode != mode {
			t.Errorf("Get(%d) of nodes that are no tree = %v, %v", f, n, ok)
		}
	}
	a, _ := Get(x, 4)
	b, _ := Get(x, 1)
	a.Data[0], b.Kids[0].Name = '#', "#"
	if !equal(x, sample()) {
		t.Error("what Get answers lies in what was handed in")
	}
}

func TestLook(t *testing.T) { // P6.1, P2
	x := sample()
	wrong := []api.Node{
		{Fid: 2, Kind: api.File, Kids: []api.Kid{{Name: "a", Fid: 3}}},
		{Fid: 1, Kind: api.Dir, Kids: []api.Kid{{Name: "x", Fid: 5}, {Name: "a", Fid: 6}, {Name: "a", Fid: 7}, {Name: "", Fid: 8}, {Name: "o", Fid: 0}}},
		{Fid: 1, Kind: api.Dir, Kids: []api.Kid{{Name: "y", Fid: 9}}},
		{Fid: 2, Kind: api.Dir},
	}
	for _, c := range []struct {
		t    []api.Node
		at   api.Fid
		name string
		want api.Fid
		err  api.Errno
	}{
		{x, 1, "a", 2, api.OK},
		{x, 1, "z", 7, api.OK},
		{x, 1, "g", 4, api.OK},
		{x, 1, "l", 6, api.OK},
		{x, 2, "f", 4, api.OK},
		{x, 1, "b", 0, api.ErrNoent},
		{x, 1, "", 0, api.ErrNoent},
		{x, 1, ".", 0, api.ErrNoent},
		{x, 1, "/a", 0, api.ErrNoent},
		{x, 3, "a", 0, api.ErrNoent},
		{x, 4, "a", 0, api.ErrNotdir},
		{x, 4, "", 0, api.ErrNotdir},
		{x, 6, "f", 0, api.ErrNotdir},
		{x, 0, "a", 0, api.ErrNoent},
		{x, 99, "a", 0, api.ErrNoent},
		{nil, 1, "a", 0, api.ErrNoent},
		{wrong, 1, "a", 6, api.OK},
		{wrong, 1, "x", 5, api.OK},
		{wrong, 1, "", 8, api.OK},
		{wrong, 1, "o", 0, api.OK},
		{wrong, 1, "y", 0, api.ErrNoent},
		{wrong, 2, "a", 0, api.ErrNotdir},
	} {
		if f, err := Look(c.t, c.at, c.name); f != c.want || err != c.err {
			t.Errorf("Look(%d, %q) = %d, %d, want %d, %d", c.at, c.name, f, err, c.want, c.err)
		}
	}
}

func TestNames(t *testing.T) { // P6.1
	for _, c := range []struct {
		o    api.Op
		want []api.Fid
	}{
		{api.Op{}, nil},
		{api.Op{Fid: 3}, []api.Fid{3}},
		{api.Op{At: 3}, []api.Fid{3}},
		{api.Op{To: 3}, []api.Fid{3}},
		{api.Op{Kind: 77, Fid: 9, At: 8, To: 7}, []api.Fid{9, 8, 7}},
		{api.Op{Kind: api.Rename, At: 5, To: 5}, []api.Fid{5, 5}},
		{api.Op{Kind: api.Create, Fid: 4, At: 1, Name: "x"}, []api.Fid{4, 1}},
		{api.Op{Kind: api.Store, Fid: 4, To: 1}, []api.Fid{4, 1}},
	} {
		if got := Names(c.o); !slices.Equal(got, c.want) {
			t.Errorf("Names(%v) = %v, want %v", c.o, got, c.want)
		}
	}
}

func TestSame(t *testing.T) { // P6.1
	if !Same(nil, nil) || !Same(nil, []api.Node{}) || !Same(sample(), sample()) || !Same([]api.Node{{}, {}}, []api.Node{{}, {}}) {
		t.Error("not the same")
	}
	if !Same([]api.Node{{Data: []byte{}, Kids: []api.Kid{}}}, []api.Node{{}}) {
		t.Error("an empty list is not like nil")
	}
	for what, change := range map[string]func(x []api.Node) []api.Node{
		"one less": func(x []api.Node) []api.Node { return x[:6] },
		"one more": func(x []api.Node) []api.Node { return append(x, api.Node{}) },
		"none":     func(x []api.Node) []api.Node { return nil },
		"Fid":      func(x []api.Node) []api.Node { x[6].Fid++; return x },
		"Kind":     func(x []api.Node) []api.Node { x[6].Kind = api.Link; return x },
		"Mode":     func(x []api.Node) []api.Node { x[6].Mode++; return x },
		"Links":    func(x []api.Node) []api.Node { x[6].Links++; return x },
		"Data":     func(x []api.Node) []api.Node { x[3].Data[3]++; return x },
		"Data cut": func(x []api.Node) []api.Node { x[3].Data = x[3].Data[:3]; return x },
		"Name":     func(x []api.Node) []api.Node { x[1].Kids[1].Name += "x"; return x },
		"Kid":      func(x []api.Node) []api.Node { x[1].Kids[1].Fid++; return x },
		"Kids cut": func(x []api.Node) []api.Node { x[1].Kids = x[1].Kids[:1]; return x },
		"order":    func(x []api.Node) []api.Node { x[2], x[4] = x[4], x[2]; return x },
	} {
		if Same(change(sample()), sample()) || Same(sample(), change(sample())) {
			t.Errorf("%s: the same", what)
		}
	}
}

// chain is a tree of n links, from 100 on: /k00 to /k01 and so on, the last one to where data says.
func chain(n int, data string) []api.Node {
	t := []api.Node{{Fid: 1, Kind: api.Dir}, {Fid: 2, Kind: api.Dir, Links: 1, Kids: []api.Kid{{Name: "f", Fid: 3}}}, {Fid: 3, Kind: api.File, Links: 1}}
	t[0].Kids = []api.Kid{{Name: "d", Fid: 2}}
	for i := range n {
		f, target := api.Fid(100+i), "/"+nameOf(i+1)
		if i == n-1 {
			target = data
		}
		t = append(t, api.Node{Fid: f, Kind: api.Link, Links: 1, Data: []byte(target)})
		t[0].Kids = append(t[0].Kids, api.Kid{Name: nameOf(i), Fid: f})
	}
	return t
}

func TestFind(t *testing.T) { // P6.4, example 1
	x := sample()
	odd := sample()
	odd[5].Data = []byte("/../a//./b/../f/") // leads to 4
	relative, nothing, root, itself, notThere, through := sample(), sample(), sample(), sample(), sample(), sample()
	relative[5].Data = []byte("a/b")
	nothing[5].Data = nil
	root[5].Data = []byte("/")
	itself[5].Data = []byte("/l")
	notThere[5].Data = []byte("/a/x")
	through[5].Data = []byte("/z/x")
	for _, c := range []struct {
		t    []api.Node
		s    string
		want api.Fid
		err  api.Errno
	}{
		{x, "/", 1, api.OK},
		{x, "/a", 2, api.OK},
		{x, "/a/b", 3, api.OK},
		{x, "/a/f", 4, api.OK},
		{x, "/g", 4, api.OK},
		{x, "//a/./b/..//f/", 4, api.OK},
		{x, "/..", 1, api.OK},
		{x, "/nowhere/../a", 2, api.OK},
		{x, "/l", 3, api.OK},
		{x, "/l/x", 0, api.ErrNoent},
		{x, "/l/../z", 7, api.OK}, // .. is of the text, not of where the link leads
		{x, "/x", 0, api.ErrNoent},
		{x, "/x/y", 0, api.ErrNoent},
		{x, "/a/b/x", 0, api.ErrNoent},
		{x, "/z/x", 0, api.ErrNotdir},
		{x, "/g/x/y", 0, api.ErrNotdir},
		{x, "", 0, api.ErrForm},
		{x, "a", 0, api.ErrForm},
		{x, "/A", 0, api.ErrForm},
		{x, "/x/" + longName + "m", 0, api.ErrForm},
		{x, "/" + strings.Repeat("/", api.MaxPath), 0, api.ErrForm},
		{x, strings.Repeat("/", api.MaxPath), 1, api.OK},
		{nil, "/", 0, api.ErrForm},
		{x[:6], "/a", 0, api.ErrForm},
		{x[1:], "/", 0, api.ErrForm},
		{odd, "/l", 4, api.OK},
		{odd, "/l/x", 0, api.ErrNotdir},
		{relative, "/l", 0, api.ErrNoent},
		{relative, "/l/x", 0, api.ErrNoent},
		{nothing, "/l", 0, api.ErrNoent},
		{root, "/l", 1, api.OK},
		{root, "/l/l/l/a/b", 3, api.OK},
		{root, "/l/l/l/l/l/l/l/l/a", 2, api.OK},
		{root, "/l/l/l/l/l/l/l/l/l", 0, api.ErrLinks},
		{root, "/l/l/l/l/l/l/l/l/l/a", 0, api.ErrLinks},
		{itself, "/l", 0, api.ErrLinks},
		{itself, "/l/x", 0, api.ErrLinks},
		{itself, "/a/f", 4, api.OK},
		{notThere, "/l", 0, api.ErrNoent},
		{through, "/l", 0, api.ErrNotdir},
		{chain(8, "/d"), "/k00", 2, api.OK},
		{chain(8, "/d"), "/k00/f", 3, api.OK},
		{chain(9, "/d"), "/k00", 0, api.ErrLinks},
		{chain(9, "/d"), "/k01", 2, api.OK},
		{chain(9, "/d"), "/k01/f", 3, api.OK},
		{chain(9, "/d"), "/k00/f", 0, api.ErrLinks},
		{chain(8, "d"), "/k00", 0, api.ErrNoent},
		{chain(9, "d"), "/k00", 0, api.ErrNoent}, // ErrNoent is named ahead of ErrLinks
		{chain(10, "d"), "/k00", 0, api.ErrLinks},
	} {
		if f, err := Find(c.t, c.s); f != c.want || err != c.err {
			t.Errorf("Find(%q) = %d, %d, want %d, %d", c.s, f, err, c.want, c.err)
		}
	}
	y, errs := Fold(New(), []api.Op{{Kind: api.Mkdir, Fid: 2, At: 1, Name: "a"}, {Kind: api.Create, Fid: 3, At: 2, Name: "b"}})
	if f, err := Find(y, "/a/b"); f != 3 || err != api.OK {
		t.Errorf("%v: Find(/a/b) = %d, %d", errs, f, err)
	}
}

func TestReadersLeaveWhatIsHandedIn(t *testing.T) { // P3
	x := append(sample(), api.Node{Fid: 50, Data: []byte("spare")})
	before := deepCopy(x)
	Right(x[:7])
	Get(x[:7], 4)
	Look(x[:7], 1, "a")
	Find(x[:7], "/l/x")
	Same(x[:7], x)
	if !equal(x, before) || !bytes.Equal(x[7].Data, []byte("spare")) {
		t.Error("what was handed in has changed")
	}
}
