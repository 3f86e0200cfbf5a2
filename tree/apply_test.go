package tree

import (
	"maps"
	"math/rand/v2"
	"slices"
	"strconv"
	"strings"
	"testing"

	"backwater/api"
)

// wantApply asks for what an operation makes of a tree: the error, or the tree that change makes of it.
func wantApply(t *testing.T, x []api.Node, o api.Op, err api.Errno, change func(x []api.Node) []api.Node) {
	t.Helper()
	before := deepCopy(x)
	got, e := Apply(x, o)
	var want []api.Node
	if err == api.OK {
		want = change(deepCopy(x))
	}
	if e != err || !equal(got, want) {
		t.Errorf("%v: error %d, want %d; nodes\n%v, want\n%v", o, e, err, got, want)
	}
	if !equal(x, before) {
		t.Errorf("%v: what was handed in has changed", o)
	}
	if e == api.OK && !Right(got) {
		t.Errorf("%v: what is answered is not Right", o)
	}
}

// wantErrs asks for errors of operations, each on the same tree.
func wantErrs(t *testing.T, x []api.Node, err api.Errno, l ...api.Op) {
	t.Helper()
	for _, o := range l {
		wantApply(t, x, o, err, nil)
	}
}

func TestApplyOfWrongForms(t *testing.T) { // P6.2, P6.6, P2
	for _, o := range rightOps {
		wantErrs(t, nil, api.ErrForm, o)
		wantErrs(t, sample()[:6], api.ErrForm, o)
		wrong := o
		wrong.Name = "/"
		wantErrs(t, sample(), api.ErrForm, wrong)
	}
	wantErrs(t, sample(), api.ErrForm, api.Op{}, api.Op{Kind: 10, Fid: 9, At: 1, Name: "x"}, api.Op{Kind: api.Create, Fid: 1, At: 1, Name: "x"},
		api.Op{Kind: api.Rename, At: 1, Name: "a", Name2: "x"}, api.Op{Kind: api.Chmod, Mode: 1}, api.Op{Kind: api.Unlink, At: 99, Name: "x", Mode: 1})
}

func TestMakers(t *testing.T) { // P6.2
	kinds := map[api.OpKind]api.Kind{api.Create: api.File, api.Mkdir: api.Dir, api.Symlink: api.Link}
	for k, kind := range kinds {
		data := ""
		if k == api.Symlink {
			data = "/where"
		}
		op := func(f, at api.Fid, name string) api.Op {
			return api.Op{Kind: k, Fid: f, At: at, Name: name, Mode: 40000, Data: data}
		}
		node := api.Node{Kind: kind, Mode: 40000, Links: 1, Data: []byte(data)}
		wantApply(t, sample(), op(9, 1, "f"), api.OK, func(x []api.Node) []api.Node {
			node.Fid = 9
			x[0].Kids = slices.Insert(x[0].Kids, 2, api.Kid{Name: "f", Fid: 9})
			return append(x, node)
		})
		wantApply(t, full(6), op(50, 5, "0"), api.OK, func(x []api.Node) []api.Node {
			node.Fid = 50
			x[4].Kids = []api.Kid{{Name: "0", Fid: 50}}
			return slices.Insert(x, 5, node)
		})
		wantApply(t, sample(), op(1<<32-1, 2, "zz"), api.OK, func(x []api.Node) []api.Node {
			node.Fid = 1<<32 - 1
			x[1].Kids = append(x[1].Kids, api.Kid{Name: "zz", Fid: 1<<32 - 1})
			return append(x, node)
		})
		wantErrs(t, sample(), api.ErrNoent, op(9, 8, "f"), op(9, 9, "f"), op(4, 8, "f"), op(9, 1<<32-1, "f"))
		wantErrs(t, sample(), api.ErrNotdir, op(9, 4, "f"), op(9, 6, "f"), op(4, 7, "f"))
		wantErrs(t, sample(), api.ErrExist, op(9, 1, "a"), op(9, 1, "l"), op(4, 1, "new"), op(2, 2, "new"), op(3, 3, "new"))
		wantErrs(t, wide(api.MaxKids), api.ErrSpace, op(9, 2, "new"))
		wantErrs(t, wide(api.MaxKids), api.ErrExist, op(9, 2, "k00"), op(4, 2, "new"))
		wantErrs(t, full(api.MaxNodes), api.ErrSpace, op(9, 1, "new"))
		wantErrs(t, full(api.MaxNodes), api.ErrExist, op(9, 1, "d2"), op(100, 1, "new"))
		wantApply(t, wide(api.MaxKids-1), op(9, 2, "a"), api.OK, func(x []api.Node) []api.Node {
			node.Fid = 9
			x[1].Kids = slices.Insert(x[1].Kids, 0, api.Kid{Name: "a", Fid: 9})
			return slices.Insert(x, 4, node)
		})
		wantApply(t, full(api.MaxNodes-1), op(9, 1, "x"), api.OK, func(x []api.Node) []api.Node {
			node.Fid = 9
			x[0].Kids = append(x[0].Kids, api.Kid{Name: "x", Fid: 9})
			return slices.Insert(x, 5, node)
		})
	}
}

func TestHard(t *testing.T) { // P6.2
	op := func(f, at api.Fid, name string) api.Op {
		return api.Op{Kind: api.Hard, Fid: f, At: at, Name: name}
	}
	wantApply(t, sample(), op(4, 3, "x"), api.OK, func(x []api.Node) []api.Node {
		x[3].Links = 3
		x[2].Kids = []api.Kid{{Name: "x", Fid: 4}}
		return x
	})
	wantApply(t, sample(), op(6, 1, "0"), api.OK, func(x []api.Node) []api.Node {
		x[5].Links = 2
		x[0].Kids = slices.Insert(x[0].Kids, 0, api.Kid{Name: "0", Fid: 6})
		return x
	})
	wantErrs(t, sample(), api.ErrNoent, op(9, 1, "x"), op(9, 4, "x"), op(9, 1, "a"), op(4, 9, "x"), op(4, 4<<20, "x"))
	wantErrs(t, sample(), api.ErrIsdir, op(2, 1, "x"), op(1, 3, "x"), op(2, 9, "x"), op(3, 4, "x"), op(3, 1, "a"))
	wantErrs(t, sample(), api.ErrNotdir, op(4, 4, "x"), op(7, 6, "x"))
	wantErrs(t, sample(), api.ErrExist, op(4, 1, "a"), op(4, 1, "g"), op(7, 2, "f"))
	wantErrs(t, wide(api.MaxKids), api.ErrSpace, op(4, 2, "x"), op(100, 2, "x"))
	wantErrs(t, wide(api.MaxKids), api.ErrExist, op(4, 2, "k00"))
	wantApply(t, full(api.MaxNodes), op(100, 1, "x"), api.OK, func(x []api.Node) []api.Node {
		x[5].Links = 2
		x[0].Kids = append(x[0].Kids, api.Kid{Name: "x", Fid: 100})
		return x
	})
}

func TestUnlink(t *testing.T) { // P6.2
	op := func(at api.Fid, name string) api.Op { return api.Op{Kind: api.Unlink, At: at, Name: name} }
	wantApply(t, sample(), op(1, "g"), api.OK, func(x []api.Node) []api.Node {
		x[3].Links = 1
		x[0].Kids = slices.Delete(x[0].Kids, 2, 3)
		return x
	})
	wantApply(t, sample(), op(2, "f"), api.OK, func(x []api.Node) []api.Node {
		x[3].Links = 1
		x[1].Kids = x[1].Kids[:1]
		return x
	})
	wantApply(t, sample(), op(1, "z"), api.OK, func(x []api.Node) []api.Node {
		x[0].Kids = x[0].Kids[:4]
		return x[:6]
	})
	wantApply(t, sample(), op(1, "l"), api.OK, func(x []api.Node) []api.Node {
		x[0].Kids = slices.Delete(x[0].Kids, 3, 4)
		return slices.Delete(x, 5, 6)
	})
	wantErrs(t, sample(), api.ErrNoent, op(9, "x"), op(1, "x"), op(2, "g"), op(3, "f"))
	wantErrs(t, sample(), api.ErrNotdir, op(4, "x"), op(6, "b"))
	wantErrs(t, sample(), api.ErrIsdir, op(1, "a"), op(1, "e"), op(2, "b"))
}

func TestRmdir(t *testing.T) { // P6.2
	op := func(at api.Fid, name string) api.Op { return api.Op{Kind: api.Rmdir, At: at, Name: name} }
	wantApply(t, sample(), op(1, "e"), api.OK, func(x []api.Node) []api.Node {
		x[0].Kids = slices.Delete(x[0].Kids, 1, 2)
		return slices.Delete(x, 4, 5)
	})
	wantApply(t, sample(), op(2, "b"), api.OK, func(x []api.Node) []api.Node {
		x[1].Kids = x[1].Kids[1:]
		return slices.Delete(x, 2, 3)
	})
	wantErrs(t, sample(), api.ErrNoent, op(9, "x"), op(1, "x"), op(3, "b"))
	wantErrs(t, sample(), api.ErrNotdir, op(4, "x"), op(6, "b"), op(1, "g"), op(1, "l"), op(2, "f"))
	wantErrs(t, sample(), api.ErrNotempty, op(1, "a"))
}

func TestStoreAndChmod(t *testing.T) { // P6.2
	for _, data := range []string{"", "x", "a\x00\xff", strings.Repeat("d", api.MaxData)} {
		wantApply(t, sample(), api.Op{Kind: api.Store, Fid: 4, Data: data}, api.OK, func(x []api.Node) []api.Node {
			x[3].Data = []byte(data)
			return x
		})
	}
	wantErrs(t, sample(), api.ErrForm, api.Op{Kind: api.Store, Fid: 4, Data: strings.Repeat("d", api.MaxData+1)}, api.Op{Kind: api.Store, Fid: 6, Data: "/a"}, api.Op{Kind: api.Store, Fid: 6})
	wantErrs(t, sample(), api.ErrNoent, api.Op{Kind: api.Store, Fid: 8, Data: "x"}, api.Op{Kind: api.Chmod, Fid: 8, Mode: 1}, api.Op{Kind: api.Chmod, Fid: 1<<32 - 1})
	wantErrs(t, sample(), api.ErrIsdir, api.Op{Kind: api.Store, Fid: 1}, api.Op{Kind: api.Store, Fid: 3, Data: "x"})
	for i := range sample() {
		for _, mode := range []uint16{0, 1, 65535} {
			wantApply(t, sample(), api.Op{Kind: api.Chmod, Fid: sample()[i].Fid, Mode: mode}, api.OK, func(x []api.Node) []api.Node {
				x[i].Mode = mode
				return x
			})
		}
	}
}

func rename(at api.Fid, name string, to api.Fid, name2 string) api.Op {
	return api.Op{Kind: api.Rename, At: at, Name: name, To: to, Name2: name2}
}

func TestRename(t *testing.T) { // P6.3
	wantApply(t, sample(), rename(1, "z", 1, "b"), api.OK, func(x []api.Node) []api.Node {
		x[0].Kids = []api.Kid{{Name: "a", Fid: 2}, {Name: "b", Fid: 7}, {Name: "e", Fid: 5}, {Name: "g", Fid: 4}, {Name: "l", Fid: 6}}
		return x
	})
	wantApply(t, sample(), rename(2, "f", 3, "x"), api.OK, func(x []api.Node) []api.Node {
		x[1].Kids, x[2].Kids = x[1].Kids[:1], []api.Kid{{Name: "x", Fid: 4}}
		return x
	})
	wantApply(t, sample(), rename(1, "a", 5, "a"), api.OK, func(x []api.Node) []api.Node {
		x[0].Kids, x[4].Kids = x[0].Kids[1:], []api.Kid{{Name: "a", Fid: 2}}
		return x
	})
	wantApply(t, sample(), rename(2, "b", 1, "b"), api.OK, func(x []api.Node) []api.Node {
		x[1].Kids, x[0].Kids = x[1].Kids[1:], slices.Insert(x[0].Kids, 1, api.Kid{Name: "b", Fid: 3})
		return x
	})
}

func TestRenameInThePlaceOfOthers(t *testing.T) { // P6.3
	wantApply(t, sample(), rename(1, "z", 1, "l"), api.OK, func(x []api.Node) []api.Node { // the link is gone
		x[0].Kids = []api.Kid{{Name: "a", Fid: 2}, {Name: "e", Fid: 5}, {Name: "g", Fid: 4}, {Name: "l", Fid: 7}}
		return slices.Delete(x, 5, 6)
	})
	wantApply(t, sample(), rename(1, "z", 2, "f"), api.OK, func(x []api.Node) []api.Node { // 4 has one entry less
		x[0].Kids, x[1].Kids[1].Fid, x[3].Links = x[0].Kids[:4], 7, 1
		return x
	})
	wantApply(t, sample(), rename(2, "f", 1, "z"), api.OK, func(x []api.Node) []api.Node {
		x[0].Kids[4].Fid, x[1].Kids = 4, x[1].Kids[:1]
		return x[:6]
	})
	wantApply(t, sample(), rename(1, "a", 1, "e"), api.OK, func(x []api.Node) []api.Node { // an empty directory is gone
		x[0].Kids = []api.Kid{{Name: "e", Fid: 2}, {Name: "g", Fid: 4}, {Name: "l", Fid: 6}, {Name: "z", Fid: 7}}
		return slices.Delete(x, 4, 5)
	})
	wantApply(t, sample(), rename(1, "e", 2, "b"), api.OK, func(x []api.Node) []api.Node {
		x[0].Kids, x[1].Kids[0].Fid = slices.Delete(x[0].Kids, 1, 2), 5
		return slices.Delete(x, 2, 3)
	})
}

func TestRenameThatChangesNothing(t *testing.T) { // P6.3
	same := func(x []api.Node) []api.Node { return x }
	wantApply(t, sample(), rename(1, "g", 2, "f"), api.OK, same)
	wantApply(t, sample(), rename(2, "f", 1, "g"), api.OK, same)
	for _, k := range sample()[0].Kids {
		wantApply(t, sample(), rename(1, k.Name, 1, k.Name), api.OK, same)
	}
	wantApply(t, wide(api.MaxKids), rename(2, "k03", 2, "k03"), api.OK, same)
}

func TestRenameErrors(t *testing.T) { // P6.3, P2, P6.6
	x := sample()
	wantErrs(t, x, api.ErrNoent, rename(9, "a", 1, "x"), rename(1, "x", 1, "a"), rename(1, "x", 1, "x"), rename(1, "x", 9, "y"), rename(1, "x", 4, "y"),
		rename(1, "a", 9, "x"), rename(1, "z", 8, "x"), rename(9, "a", 4, "x"))
	wantErrs(t, x, api.ErrNotdir, rename(4, "a", 1, "x"), rename(6, "b", 1, "x"), rename(4, "a", 9, "x"), rename(1, "a", 4, "x"), rename(1, "z", 6, "x"))
	wantErrs(t, x, api.ErrLoop, rename(1, "a", 2, "x"), rename(1, "a", 3, "x"), rename(1, "a", 2, "f"), rename(1, "a", 2, "b"), rename(2, "b", 3, "x"))
	wantErrs(t, x, api.ErrIsdir, rename(1, "z", 1, "e"), rename(1, "z", 1, "a"), rename(1, "l", 2, "b"), rename(2, "f", 2, "b"), rename(2, "f", 1, "a"))
	wantErrs(t, x, api.ErrNotdir, rename(1, "e", 1, "z"), rename(1, "a", 1, "l"), rename(1, "a", 1, "g"), rename(2, "b", 2, "f"))
	wantErrs(t, x, api.ErrNotempty, rename(1, "e", 1, "a"), rename(2, "b", 1, "a"))
}

func TestRenameIntoAFullDirectory(t *testing.T) { // P6.3
	x := wide(api.MaxKids)
	wantErrs(t, x, api.ErrSpace, rename(1, "f", 2, "x"), rename(1, "b", 2, "x"))
	wantErrs(t, x, api.ErrLoop, rename(1, "a", 2, "x"))
	wantErrs(t, x, api.ErrNotdir, rename(1, "b", 2, "k00"))
	wantApply(t, x, rename(2, "k05", 2, "x"), api.OK, func(x []api.Node) []api.Node { // in the same directory there is room
		x[1].Kids = append(slices.Delete(x[1].Kids, 5, 6), api.Kid{Name: "x", Fid: 105})
		return x
	})
	wantApply(t, x, rename(1, "f", 2, "k00"), api.OK, func(x []api.Node) []api.Node { // and in the place of another one
		x[0].Kids, x[1].Kids[0].Fid = x[0].Kids[:2], 4
		return slices.Delete(x, 4, 5)
	})
	wantApply(t, x, rename(2, "k00", 2, "k11"), api.OK, func(x []api.Node) []api.Node {
		x[1].Kids = x[1].Kids[1:]
		x[1].Kids[10].Fid = 100
		return slices.Delete(x, 15, 16)
	})
	wantApply(t, wide(api.MaxKids-1), rename(1, "f", 2, "x"), api.OK, func(x []api.Node) []api.Node {
		x[0].Kids, x[1].Kids = x[0].Kids[:2], append(x[1].Kids, api.Kid{Name: "x", Fid: 4})
		return x
	})
}

func TestDeepLoop(t *testing.T) { // P6.3: as deep as there are nodes
	x := New()
	for f := api.Fid(2); f <= api.MaxNodes; f++ {
		var err api.Errno
		if x, err = Apply(x, api.Op{Kind: api.Mkdir, Fid: f, At: f - 1, Name: "d"}); err != api.OK {
			t.Fatal(f, err)
		}
	}
	for f := api.Fid(2); f <= api.MaxNodes; f++ {
		wantErrs(t, x, api.ErrLoop, rename(1, "d", f, "x"), rename(f-1, "d", f, "d"), rename(f-1, "d", api.MaxNodes, "x"))
	}
	wantApply(t, x, rename(api.MaxNodes-1, "d", 1, "x"), api.OK, func(x []api.Node) []api.Node {
		x[api.MaxNodes-2].Kids, x[0].Kids = nil, append(x[0].Kids, api.Kid{Name: "x", Fid: api.MaxNodes})
		return x
	})
}

func TestFold(t *testing.T) { // P6.4, P6.6
	l := []api.Op{
		{Kind: api.Rmdir, At: 1, Name: "e"},
		{Kind: api.Rmdir, At: 1, Name: "e"},
		{},
		{Kind: api.Create, Fid: 5, At: 1, Name: "e", Mode: 2},
		{Kind: api.Store, Fid: 5, Data: "five"},
		{Kind: api.Store, Fid: 6, Data: "six"},
		rename(1, "e", 3, "x"),
	}
	got, errs := Fold(sample(), l)
	want := sample()
	want[0].Kids = slices.Delete(want[0].Kids, 1, 2)
	want[2].Kids = []api.Kid{{Name: "x", Fid: 5}}
	want[4] = api.Node{Fid: 5, Kind: api.File, Mode: 2, Links: 1, Data: []byte("five")}
	if !equal(got, want) || !slices.Equal(errs, []api.Errno{api.OK, api.ErrNoent, api.ErrForm, api.OK, api.OK, api.ErrForm, api.OK}) {
		t.Errorf("Fold = %v, %v", got, errs)
	}
	for _, none := range [][]api.Op{nil, {}} {
		if got, errs := Fold(sample(), none); !equal(got, sample()) || len(errs) != 0 {
			t.Errorf("Fold of no operations = %v, %v", got, errs)
		}
		if got, errs := Fold(nil, none); len(got) != 0 || len(errs) != 0 {
			t.Errorf("Fold of nothing = %v, %v", got, errs)
		}
	}
	for _, wrong := range [][]api.Node{nil, {}, sample()[1:], full(api.MaxNodes + 1)} {
		got, errs := Fold(wrong, l)
		if len(got) != 0 || !slices.Equal(errs, slices.Repeat([]api.Errno{api.ErrForm}, len(l))) {
			t.Errorf("Fold of no tree = %v, %v", got, errs)
		}
	}
}

func TestAnswersAreTheCallers(t *testing.T) { // P3
	x := append(sample(), api.Node{Fid: 60, Data: []byte("spare")})
	for i := range x {
		x[i].Data = append(x[i].Data, "spare"...)[:len(x[i].Data)]
		x[i].Kids = append(x[i].Kids, api.Kid{Name: "spare", Fid: 60})[:len(x[i].Kids)]
	}
	l := []api.Op{
		{Kind: api.Create, Fid: 9, At: 3, Name: "x"}, {Kind: api.Create, Fid: 10, At: 1, Name: "zz"}, {Kind: api.Store, Fid: 7, Data: "seven"},
		rename(1, "a", 5, "a"), {Kind: api.Unlink, At: 1, Name: "g"}, {Kind: api.Chmod, Fid: 1, Mode: 99}, {Kind: api.Hard, Fid: 7, At: 5, Name: "z"},
	}
	before := deepCopy(x)
	spoilt := func(list []api.Node) {
		for i := range list {
			n := &list[i]
			n.Mode = 12345
			for k := range n.Data {
				n.Data[k] = '#'
			}
			n.Data = append(n.Data, "behind the end"...)
			for k := range n.Kids {
				n.Kids[k] = api.Kid{Name: "#", Fid: 77}
			}
			n.Kids = append(n.Kids, api.Kid{Name: "behind", Fid: 78})
		}
	}
	whole, _ := Fold(x[:7], l)
	again, _ := Fold(x[:7], l)
	spoilt(again)
	third, _ := Fold(x[:7], l)
	if !equal(whole, third) {
		t.Error("two answers of Fold share something")
	}
	for _, o := range append(l, rename(1, "g", 2, "f")) {
		y, _ := Apply(x[:7], o)
		spoilt(y)
	}
	if !equal(x, before) {
		t.Error("what is answered lies in what was handed in")
	}
	for i := range x {
		if got := x[i].Data[:len(x[i].Data)+5]; string(got[len(x[i].Data):]) != "spare" {
			t.Errorf("spare room of data %d: %q", i, got)
		}
		if got := x[i].Kids[:len(x[i].Kids)+1]; got[len(x[i].Kids)].Name != "spare" {
			t.Errorf("spare room of kids %d: %v", i, got)
		}
	}
}

// entry is a directory and a name in it.
type entry struct {
	at   api.Fid
	name string
}

// model is a tree by the document's words: objects, and entries; Links are counted, not kept.
type model struct {
	nodes   map[api.Fid]api.Node
	entries map[entry]api.Fid
}

func (m *model) count(f api.Fid) (leadTo, kids int) {
	for e, g := range m.entries {
		if g == f {
			leadTo++
		}
		if e.at == f {
			kids++
		}
	}
	return leadTo, kids
}

// list is the model as nodes.
func (m *model) list() []api.Node {
	var list []api.Node
	for _, f := range slices.Sorted(maps.Keys(m.nodes)) {
		n := m.nodes[f]
		links, _ := m.count(f)
		n.Links = uint16(links)
		for e, g := range m.entries {
			if e.at == f {
				n.Kids = append(n.Kids, api.Kid{Name: e.name, Fid: g})
			}
		}
		slices.SortFunc(n.Kids, func(a, b api.Kid) int { return strings.Compare(a.Name, b.Name) })
		list = append(list, n)
	}
	return list
}

func (m *model) isDir(f api.Fid) bool { return m.nodes[f].Kind == api.Dir }

// atErr are the errors of a directory that an operation names.
func (m *model) atErr(f api.Fid) api.Errno {
	if _, ok := m.nodes[f]; !ok {
		return api.ErrNoent
	}
	if !m.isDir(f) {
		return api.ErrNotdir
	}
	return api.OK
}

func (m *model) lookErr(e entry) api.Errno {
	if err := m.atErr(e.at); err != api.OK {
		return err
	}
	if _, ok := m.entries[e]; !ok {
		return api.ErrNoent
	}
	return api.OK
}

// below tells whether f is above, or stands somewhere below it.
func (m *model) below(f, above api.Fid) bool {
	for f != above {
		if f == api.Root {
			return false
		}
		for e, g := range m.entries {
			if g == f {
				f = e.at
				break
			}
		}
	}
	return true
}

// take takes an entry away, and what no entry leads to any more.
func (m *model) take(e entry) {
	f := m.entries[e]
	delete(m.entries, e)
	if links, _ := m.count(f); links == 0 {
		delete(m.nodes, f)
	}
}

// do does an operation that is right.
func (m *model) do(o api.Op) api.Errno {
	e, there := entry{o.At, o.Name}, false
	_, there = m.entries[e]
	_, known := m.nodes[o.Fid]
	_, kids := m.count(o.At)
	kind := m.nodes[o.Fid].Kind
	switch o.Kind {
	case api.Create, api.Mkdir, api.Symlink:
		if err := m.atErr(o.At); err != api.OK {
			return err
		}
		if there || known {
			return api.ErrExist
		}
		if len(m.nodes) >= api.MaxNodes || kids >= api.MaxKids {
			return api.ErrSpace
		}
		kinds := []api.Kind{0, api.File, api.Dir, api.Link}
		m.nodes[o.Fid] = api.Node{Fid: o.Fid, Kind: kinds[o.Kind], Mode: o.Mode, Data: []byte(o.Data)}
		m.entries[e] = o.Fid
	case api.Hard:
		if !known {
			return api.ErrNoent
		}
		if kind == api.Dir {
			return api.ErrIsdir
		}
		if err := m.atErr(o.At); err != api.OK {
			return err
		}
		if there {
			return api.ErrExist
		}
		if kids >= api.MaxKids {
			return api.ErrSpace
		}
		m.entries[e] = o.Fid
	case api.Unlink, api.Rmdir:
		return m.remove(o, e)
	case api.Rename:
		return m.rename(e, entry{o.To, o.Name2})
	case api.Store, api.Chmod:
		return m.write(o, known, kind)
	}
	return api.OK
}

func (m *model) remove(o api.Op, e entry) api.Errno {
	if err := m.lookErr(e); err != api.OK {
		return err
	}
	f := m.entries[e]
	_, kids := m.count(f)
	switch {
	case o.Kind == api.Unlink && m.isDir(f):
		return api.ErrIsdir
	case o.Kind == api.Rmdir && !m.isDir(f):
		return api.ErrNotdir
	case kids > 0:
		return api.ErrNotempty
	}
	m.take(e)
	return api.OK
}

func (m *model) rename(from, to entry) api.Errno {
	if err := m.lookErr(from); err != api.OK {
		return err
	}
	if err := m.atErr(to.at); err != api.OK {
		return err
	}
	f := m.entries[from]
	old, there := m.entries[to]
	_, kidsOfOld := m.count(old)
	_, kidsOfTo := m.count(to.at)
	switch {
	case m.isDir(f) && m.below(to.at, f):
		return api.ErrLoop
	case there && old == f:
		return api.OK
	case there && m.isDir(old) && !m.isDir(f):
		return api.ErrIsdir
	case there && !m.isDir(old) && m.isDir(f):
		return api.ErrNotdir
	case there && kidsOfOld > 0:
		return api.ErrNotempty
	case !there && to.at != from.at && kidsOfTo >= api.MaxKids:
		return api.ErrSpace
	}
	delete(m.entries, from)
	if there {
		m.take(to)
	}
	m.entries[to] = f
	return api.OK
}

func (m *model) write(o api.Op, known bool, kind api.Kind) api.Errno {
	n := m.nodes[o.Fid]
	switch {
	case !known:
		return api.ErrNoent
	case o.Kind == api.Chmod:
		n.Mode = o.Mode
	case kind == api.Dir:
		return api.ErrIsdir
	case kind == api.Link:
		return api.ErrForm
	default:
		n.Data = []byte(o.Data)
	}
	m.nodes[o.Fid] = n
	return api.OK
}

// anyOp is a right operation on fids and names of so many.
func anyOp(chance *rand.Rand, fids, names int) api.Op {
	fid := func() api.Fid { return api.Fid(1 + chance.IntN(fids)) }
	name := func() string { return "n" + strconv.Itoa(chance.IntN(names)) }
	o := api.Op{Kind: api.OpKind(1 + chance.IntN(9))}
	if chance.IntN(3) == 0 {
		o.Kind = api.OpKind(1 + chance.IntN(4))
	}
	if named(o.Kind, "Fid") {
		o.Fid = fid()
		if o.Kind <= api.Symlink && o.Fid == api.Root {
			o.Fid = 2
		}
	}
	if named(o.Kind, "At") {
		o.At, o.Name = fid(), name()
		if chance.IntN(3) == 0 {
			o.At = api.Root
		}
	}
	if named(o.Kind, "To") {
		o.To, o.Name2 = fid(), name()
	}
	if named(o.Kind, "Mode") {
		o.Mode = uint16(chance.IntN(65536))
	}
	if named(o.Kind, "Data") {
		o.Data = "/" + name()
	}
	return o
}

// aim makes it likelier that a Rename has something to rename, and that it goes where there is much already.
func (m *model) aim(chance *rand.Rand, o *api.Op) {
	if o.Kind != api.Rename || len(m.entries) == 0 || chance.IntN(2) == 0 {
		return
	}
	all := slices.SortedFunc(maps.Keys(m.entries), func(a, b entry) int {
		return strings.Compare(strconv.Itoa(int(a.at))+a.name, strconv.Itoa(int(b.at))+b.name)
	})
	e := all[chance.IntN(len(all))]
	o.At, o.Name = e.at, e.name
	if chance.IntN(2) == 0 {
		o.To = api.Root
	}
}

func TestLikeTheModel(t *testing.T) { // P6.2 to P6.6
	seen := map[[2]int]int{}
	for seed := range uint64(150) {
		chance := rand.New(rand.NewPCG(seed, 6))
		fids, names := 3+chance.IntN(60), 2+chance.IntN(40)
		m := &model{map[api.Fid]api.Node{1: {Fid: 1, Kind: api.Dir}}, map[entry]api.Fid{}}
		x := New()
		var l []api.Op
		var errs []api.Errno
		for range 300 {
			o := anyOp(chance, fids, names)
			m.aim(chance, &o)
			want := m.do(o)
			y, err := Apply(x, o)
			if err != want {
				t.Fatalf("%v: error %d, want %d, on %v", o, err, want, x)
			}
			if err == api.OK {
				x = y
			} else if y != nil {
				t.Fatalf("%v: nodes with an error", o)
			}
			if !equal(x, m.list()) || !Right(x) {
				t.Fatalf("%v makes\n%v, want\n%v", o, x, m.list())
			}
			l, errs = append(l, o), append(errs, err)
			seen[[2]int{int(o.Kind), int(err)}]++
		}
		if y, got := Fold(New(), l); !equal(y, x) || !slices.Equal(got, errs) {
			t.Fatal("Fold is not Apply, one behind the other")
		}
	}
	for _, want := range [][2]int{{1, 4}, {4, 4}, {7, 4}, {7, 5}, {7, 7}, {7, 8}, {7, 9}, {7, 10}, {6, 9}, {8, 3}} {
		if seen[want] == 0 {
			t.Errorf("kind and error %v did not come up", want)
		}
	}
}

func FuzzAnything(f *testing.F) { // P1, P6.5: whatever nodes and operations come in
	f.Add(uint64(1), []byte("anything at all"))
	f.Fuzz(func(t *testing.T, seed uint64, b []byte) {
		chance := rand.New(rand.NewPCG(seed, 7))
		next := func(n int) int {
			if len(b) == 0 {
				return chance.IntN(n)
			}
			x := int(b[0]) % n
			b = b[1:]
			return x
		}
		x := make([]api.Node, next(6))
		for i := range x {
			x[i] = api.Node{Fid: api.Fid(i + 1 + next(5)/4), Kind: api.Kind(next(4)), Links: uint16(next(3))}
			if next(3) == 0 {
				x[i].Data = make([]byte, next(70))
			}
			for range next(3) {
				x[i].Kids = append(x[i].Kids, api.Kid{Name: []string{"a", "b", "c", ""}[next(4)], Fid: api.Fid(next(7))})
			}
		}
		names := []string{"a", "b", "c", "", ".", "A"}
		o := api.Op{Kind: api.OpKind(next(12)), Fid: api.Fid(next(8)), At: api.Fid(next(8)), Name: names[next(6)], To: api.Fid(next(8)), Name2: names[next(6)], Mode: uint16(next(2)), Data: strings.Repeat("/a", next(40))}
		before := deepCopy(x)
		y, err := Apply(x, o)
		if (err == api.OK) != Right(y) || err != api.ErrForm && (!Right(x) || !RightOp(o)) {
			t.Errorf("Apply: %d, %v", err, y)
		}
		Find(x, "/a/b/../c")
		Look(x, o.At, o.Name)
		Get(x, o.Fid)
		Fold(x, []api.Op{o, o})
		if !equal(x, before) {
			t.Error("what was handed in has changed")
		}
	})
}
