package tell

import (
	"math/rand/v2"
	"reflect"
	"slices"
	"strconv"
	"strings"
	"testing"

	"backwater/api"
	"backwater/path"
	"backwater/record"
	"backwater/tree"
)

// sample is a tree with all kinds, and with two entries of one file.
func sample() []api.Node {
	return []api.Node{
		{Fid: 1, Kind: api.Dir, Mode: 7, Kids: []api.Kid{{Name: "-", Fid: 16777217}, {Name: "a", Fid: 2}, {Name: "g", Fid: 4}, {Name: "l", Fid: 6}}},
		{Fid: 2, Kind: api.Dir, Links: 1, Kids: []api.Kid{{Name: "b", Fid: 3}, {Name: "f", Fid: 4}}},
		{Fid: 3, Kind: api.Dir, Mode: 65535, Links: 1},
		{Fid: 4, Kind: api.File, Links: 2, Data: []byte("a b\n\"\\")},
		{Fid: 6, Kind: api.Link, Links: 1, Data: []byte("/a")},
		{Fid: 16777217, Kind: api.File, Mode: 10, Links: 1},
	}
}

const sampleText = `1 dir 7 0 -=16777217,a=2,g=4,l=6
2 dir 0 1 b=3,f=4
3 dir 65535 1 -
4 file 0 2 "a b\0a\22\5c"
6 link 0 1 "/a"
16777217 file 10 1 ""
`

// deep is a tree of n directories below each other, each of the longest name.
func deep(n int) []api.Node {
	t := tree.New()
	for i := range n {
		f := api.Fid(i + 2)
		t[i].Kids = []api.Kid{{Name: strings.Repeat("n", api.MaxName), Fid: f}}
		t = append(t, api.Node{Fid: f, Kind: api.Dir, Links: 1})
	}
	return t
}

// wide is a tree of one file with as many entries in the root.
func wide(n int) []api.Node {
	t := append(tree.New(), api.Node{Fid: 2, Kind: api.File, Links: uint16(n)})
	for i := range n {
		t[0].Kids = append(t[0].Kids, api.Kid{Name: string(rune('a' + i)), Fid: 2})
	}
	return t
}

// byChance is a tree behind operations by chance.
func byChance(chance *rand.Rand, steps int) []api.Node {
	t := tree.New()
	fid := func() api.Fid { return t[chance.IntN(len(t))].Fid }
	name := func() string { return []string{"a", "b", "c.d", "-", "e_9", "zzzzzzzzzzzz"}[chance.IntN(6)] }
	for i := range steps {
		o := api.Op{Kind: api.OpKind(1 + chance.IntN(9)), Fid: fid()}
		switch o.Kind {
		case api.Create, api.Mkdir:
			o.Fid, o.At, o.Name = api.Fid(i+2), fid(), name()
		case api.Symlink:
			o.Fid, o.At, o.Name, o.Data = api.Fid(i+2), fid(), name(), "/"+name()
		case api.Hard:
			o.At, o.Name = fid(), name()
		case api.Unlink, api.Rmdir:
			o.Fid, o.At, o.Name = 0, fid(), name()
		case api.Rename:
			o.Fid, o.At, o.Name, o.To, o.Name2 = 0, fid(), name(), fid(), name()
		case api.Store:
			o.Data = string([]byte{byte(chance.IntN(256)), ' ', byte(chance.IntN(256))})
		case api.Chmod:
			o.Mode = uint16(chance.IntN(1 << 16))
		}
		t, _ = tree.Fold(t, []api.Op{o})
	}
	return t
}

// wrongTrees are nodes that are no tree.
func wrongTrees() map[string][]api.Node {
	change := func(f func(t []api.Node)) []api.Node {
		t := sample()
		f(t)
		return t
	}
	return map[string][]api.Node{
		"nothing":         nil,
		"empty":           {},
		"no root":         sample()[1:],
		"one less":        sample()[:5],
		"a node twice":    append(sample(), sample()[5]),
		"other order":     change(func(t []api.Node) { t[1], t[2] = t[2], t[1] }),
		"Links":           change(func(t []api.Node) { t[3].Links = 1 }),
		"Root's Links":    change(func(t []api.Node) { t[0].Links = 1 }),
		"no kind":         change(func(t []api.Node) { t[5].Kind = api.NoKind }),
		"other kind":      change(func(t []api.Node) { t[5].Kind = 4 }),
		"Data of a Dir":   change(func(t []api.Node) { t[2].Data = []byte("x") }),
		"Kids of a File":  change(func(t []api.Node) { t[5].Kids = []api.Kid{{Name: "x", Fid: 6}} }),
		"long Data":       change(func(t []api.Node) { t[5].Data = make([]byte, api.MaxData+1) }),
		"names fall":      change(func(t []api.Node) { slices.Reverse(t[1].Kids) }),
		"a wrong name":    change(func(t []api.Node) { t[1].Kids[0].Name = "B" }),
		"no name":         change(func(t []api.Node) { t[1].Kids[0].Name = "" }),
		"leads nowhere":   change(func(t []api.Node) { t[1].Kids[0].Fid = 5 }),
		"leads to Root":   change(func(t []api.Node) { t[1].Kids[0].Fid = 1 }),
		"a ring":          change(func(t []api.Node) { t[0].Kids[1].Fid = 6; t[4].Links = 2; t[2].Kids = []api.Kid{{Name: "x", Fid: 2}} }),
		"too many":        deep(api.MaxNodes),
		"too many Kids":   wide(api.MaxKids + 1),
		"a Dir and twice": change(func(t []api.Node) { t[1].Kids[1].Fid = 3; t[2].Links = 2; t[3].Links = 1 }),
	}
}

// written is the text of nodes, whether they are a tree or not.
func written(t []api.Node) string {
	text := ""
	for _, n := range t {
		text += lineOf(n) + "\n"
	}
	return text
}

func TestTree(t *testing.T) { // P15.1, example 1
	for want, x := range map[string][]api.Node{
		"1 dir 0 0 -\n": tree.New(),
		sampleText:      sample(),
		"1 dir 0 0 a=2,b=2,c=2\n2 file 0 3 \"\"\n": wide(3),
		"1 dir 0 0 nnnnnnnnnnnn=2\n2 dir 0 1 -\n":  deep(1),
		"1 dir 0 0 x=4294967295\n4294967295 link 65535 1 \"\"\n": {
			{Fid: 1, Kind: api.Dir, Kids: []api.Kid{{Name: "x", Fid: 1<<32 - 1}}}, {Fid: 1<<32 - 1, Kind: api.Link, Mode: 65535, Links: 1}},
	} {
		if got, err := Tree(x); got != want || err != api.OK {
			t.Errorf("Tree is %q, error %d, want %q", got, err, want)
		}
		if got, err := Read(want); !tree.Same(got, x) || err != api.OK {
			t.Errorf("Read(%q) = %v, error %d", want, got, err)
		}
	}
}

func TestTreeOfWrongNodes(t *testing.T) { // P15.1, P2
	for what, x := range wrongTrees() {
		if got, err := Tree(x); got != "" || err != api.ErrForm {
			t.Errorf("%s: Tree is %q, error %d", what, got, err)
		}
		if got := Paths(x); len(got) > 0 {
			t.Errorf("%s: Paths are %v", what, got)
		}
		// A line has no room for the Data of a Dir, or the Kids of a File.
		if s := written(x); s != sampleText {
			if got, err := Read(s); len(got) > 0 || err != api.ErrForm {
				t.Errorf("%s: Read is %v, error %d", what, got, err)
			}
		}
	}
}

func TestLine(t *testing.T) { // P15.1
	for want, n := range map[string]api.Node{
		"1 dir 0 0 -":                         {Fid: 1, Kind: api.Dir},
		"5 dir 9 3 a=1,b=5,c=4294967295":      {Fid: 5, Kind: api.Dir, Mode: 9, Links: 3, Kids: []api.Kid{{Name: "a", Fid: 1}, {Name: "b", Fid: 5}, {Name: "c", Fid: 1<<32 - 1}}},
		"4294967295 file 65535 65535 \"\"":    {Fid: 1<<32 - 1, Kind: api.File, Mode: 65535, Links: 65535},
		"1 file 0 0 \"x y\\ff\"":              {Fid: 1, Kind: api.File, Data: []byte("x y\xff")},
		"10 link 100 7 \"/a/b\"":              {Fid: 10, Kind: api.Link, Mode: 100, Links: 7, Data: []byte("/a/b")},
		"10 link 0 1 \"\"":                    {Fid: 10, Kind: api.Link, Links: 1, Data: []byte{}},
		"2 dir 0 1 -=3":                       {Fid: 2, Kind: api.Dir, Links: 1, Data: []byte{}, Kids: []api.Kid{{Name: "-", Fid: 3}}},
		"2 file 0 1 \"" + data(64, "d") + `"`: {Fid: 2, Kind: api.File, Links: 1, Data: []byte(data(64, "d")), Kids: []api.Kid{}},
	} {
		if got, err := Line(n); got != want || err != api.OK {
			t.Errorf("Line(%v) = %s, error %d, want %s", n, got, err, want)
		}
	}
}

// data are so many bytes alike.
func data(n int, b string) string {
	return strings.Repeat(b, n)
}

func TestLineOfWrongNodes(t *testing.T) { // P15.1, P2, P1
	for _, n := range []api.Node{
		{}, {Fid: 1}, {Kind: api.Dir}, {Fid: 1, Kind: 4}, {Fid: 1, Kind: 255},
		{Fid: 2, Kind: api.File, Data: []byte(data(65, "d"))}, {Fid: 2, Kind: api.Link, Data: []byte(data(65, "d"))},
		{Fid: 2, Kind: api.Dir, Data: []byte("x")},
		{Fid: 2, Kind: api.File, Kids: []api.Kid{{Name: "a", Fid: 3}}}, {Fid: 2, Kind: api.Link, Kids: []api.Kid{{Name: "a", Fid: 3}}},
		{Fid: 2, Kind: api.Dir, Kids: []api.Kid{{Name: "a"}}}, {Fid: 2, Kind: api.Dir, Kids: []api.Kid{{Fid: 3}}},
		{Fid: 2, Kind: api.Dir, Kids: []api.Kid{{Name: "a=1,b", Fid: 3}}}, {Fid: 2, Kind: api.Dir, Kids: []api.Kid{{Name: "..", Fid: 3}}},
		{Fid: 2, Kind: api.Dir, Kids: []api.Kid{{Name: "a", Fid: 3}, {Name: "a", Fid: 4}}},
		{Fid: 2, Kind: api.Dir, Kids: []api.Kid{{Name: "b", Fid: 3}, {Name: "a", Fid: 4}}},
		wide(13)[0],
	} {
		if got, err := Line(n); got != "" || err != api.ErrForm {
			t.Errorf("Line(%v) = %s, error %d", n, got, err)
		}
		if _, err := record.Node(n); err != api.ErrForm {
			t.Errorf("record takes %v", n)
		}
	}
}

func TestReadHasWhatIsInside(t *testing.T) { // P15.1: each node comes with its entries or its Data
	for s, want := range map[string][]api.Node{
		"1 dir 0 0 a=2\n2 file 0 1 \"x\"\n": {
			{Fid: 1, Kind: api.Dir, Kids: []api.Kid{{Name: "a", Fid: 2}}}, {Fid: 2, Kind: api.File, Links: 1, Data: []byte("x")}},
		"1 dir 0 0 a=2\n2 link 0 1 \"/a\"\n": {
			{Fid: 1, Kind: api.Dir, Kids: []api.Kid{{Name: "a", Fid: 2}}}, {Fid: 2, Kind: api.Link, Links: 1, Data: []byte("/a")}},
		"1 dir 0 0 a=2,b=3\n2 dir 9 1 -\n3 file 0 1 \"\\00\"\n": {
			{Fid: 1, Kind: api.Dir, Kids: []api.Kid{{Name: "a", Fid: 2}, {Name: "b", Fid: 3}}}, {Fid: 2, Kind: api.Dir, Mode: 9, Links: 1}, {Fid: 3, Kind: api.File, Links: 1, Data: []byte{0}}},
	} {
		if got, err := Read(s); !tree.Same(got, want) || err != api.OK {
			t.Errorf("Read(%q) = %v, error %d, want %v", s, got, err, want)
		}
	}
}

func TestReadOfWrongTexts(t *testing.T) { // P15.1, P5, P1
	for _, s := range []string{
		"", "\n", " ", "x", "x\n", "\xff\n", "1 dir 0 0 -", "1 dir 0 0 -\n\n", "\n1 dir 0 0 -\n", "1 dir 0 0 -\n1 dir 0 0 -\n", "1 dir 0 0 -\r\n", "1 dir 0 0 -\n ", "1 dir 0 0 -\nx",
		" 1 dir 0 0 -\n", "1  dir 0 0 -\n", "1 dir 0 0  -\n", "1 dir 0 0 - \n", "1 dir 0 0\n", "1 dir 0 0 \n", "1 dir 0 -\n", "1 dir 0 0 0 -\n", "1\tdir 0 0 -\n",
		"01 dir 0 0 -\n", "1 dir 00 0 -\n", "1 dir 0 00 -\n", "+1 dir 0 0 -\n", "1 dir -0 0 -\n", "1 dir 0 0x0 -\n", "1 dir  0 -\n", "1. dir 0 0 -\n",
		"1 dir 65536 0 -\n", "1 dir 0 65536 -\n", "4294967297 dir 0 0 -\n", "18446744073709551617 dir 0 0 -\n", "1 dir 18446744073709551616 0 -\n", "1 dir " + data(5000, "9") + " 0 -\n",
		"1 Dir 0 0 -\n", "1 file 0 0 -\n", "1 file 0 0 \"\"\n", "1 link 0 0 \"\"\n", "1  0 0 -\n", "1 dirs 0 0 -\n", "1 dir 0 0 \"\"\n", "1 dir 0 0 --\n", "1 dir 0 0 -,\n", "0 dir 0 0 -\n", "2 dir 0 0 -\n",
		"1 dir 0 0 a=2\n", "1 dir 0 0 a\n2 file 0 1 \"\"\n", "1 dir 0 0 a=\n2 file 0 1 \"\"\n", "1 dir 0 0 =2\n2 file 0 1 \"\"\n", "1 dir 0 0 a=02\n2 file 0 1 \"\"\n", "1 dir 0 0 a=2,\n2 file 0 1 \"\"\n",
		"1 dir 0 0 ,a=2\n2 file 0 1 \"\"\n", "1 dir 0 0 a=2 \n2 file 0 1 \"\"\n", "1 dir 0 0 a==2\n2 file 0 1 \"\"\n", "1 dir 0 0 a=2=2\n2 file 0 1 \"\"\n", "1 dir 0 0 a=2,,b=2\n2 file 0 2 \"\"\n",
		"1 dir 0 0 -,a=2\n2 file 0 1 \"\"\n", "1 dir 0 0 a=2, b=2\n2 file 0 2 \"\"\n", "1 dir 0 0 a=4294967298\n2 file 0 1 \"\"\n", "1 dir 0 0 A=2\n2 file 0 1 \"\"\n", "1 dir 0 0 b=2,a=2\n2 file 0 2 \"\"\n",
		"1 dir 0 0 a=2\n2 file 0 1 \n", "1 dir 0 0 a=2\n2 file 0 1\n", "1 dir 0 0 a=2\n2 file 0 1 x\n", "1 dir 0 0 a=2\n2 file 0 1 \"\n", "1 dir 0 0 a=2\n2 file 0 1 \"\\41\"\n", "1 dir 0 0 a=2\n2 file 0 1 \"\" \n",
		"1 dir 0 0 a=2\n2 file 0 1 -\n", "1 dir 0 0 a=2\n2 file 0 2 \"\"\n", "1 dir 0 0 a=2\n2 file 0 0 \"\"\n", "1 dir 0 0 a=2\n2 file 0 1 \"\n\"\n", "1 dir 0 0 a=2\n2 file 0 1 \"" + data(65, "d") + "\"\n",
		"2 file 0 1 \"\"\n1 dir 0 0 a=2\n", strings.Repeat("1 dir 0 0 -\n", 5000), "1 dir 0 0 " + strings.Repeat("a=2,", 5000) + "a=2\n",
	} {
		if got, err := Read(s); len(got) > 0 || err != api.ErrForm {
			t.Errorf("Read(%.60q) = %v, error %d", s, got, err)
		}
	}
}

func TestReadOfChangedTexts(t *testing.T) { // P15.1, P15.3
	right := 0
	want := func(s string) {
		x, err := Read(s)
		if err != api.OK {
			if len(x) > 0 || err != api.ErrForm {
				t.Errorf("Read(%q) = %v, error %d", s, x, err)
			}
			return
		}
		right++
		if back, err := Tree(x); back != s || err != api.OK {
			t.Errorf("Read(%q) is the tree of %q", s, back)
		}
	}
	for i := range len(sampleText) {
		want(sampleText[:i])
		want(sampleText[i:])
		want(sampleText[:i] + sampleText[i+1:])
		for b := range 256 {
			c := string([]byte{byte(b)})
			want(sampleText[:i] + c + sampleText[i+1:])
			want(sampleText[:i] + c + sampleText[i:])
		}
	}
	if right < 100 {
		t.Errorf("only %d texts were right", right)
	}
}

func TestLimits(t *testing.T) { // P15.1, P15.2
	for _, x := range [][]api.Node{deep(api.MaxNodes - 1), wide(api.MaxKids)} {
		s, err := Tree(x)
		if err != api.OK {
			t.Fatalf("Tree of %d nodes: error %d", len(x), err)
		}
		if got, err := Read(s); !tree.Same(got, x) || err != api.OK {
			t.Errorf("Read of %d nodes: error %d", len(x), err)
		}
	}
	x := sample()
	x[3].Data = []byte(data(api.MaxData, "\xff"))
	s, _ := Tree(x)
	if got, err := Read(s); !tree.Same(got, x) || err != api.OK {
		t.Errorf("Read of the longest Data: error %d", err)
	}
}

func TestReadOfTreeByChance(t *testing.T) { // P15.3, P15.4
	chance := rand.New(rand.NewPCG(15, 3))
	nodes := 0
	for range 400 {
		x := byChance(chance, chance.IntN(200))
		nodes = max(nodes, len(x))
		s, err := Tree(x)
		if err != api.OK || s != written(x) {
			t.Fatalf("Tree(%v): error %d", x, err)
		}
		back, err := Read(s)
		if err != api.OK || !tree.Same(back, x) {
			t.Fatalf("Read(%q) = %v, error %d", s, back, err)
		}
		wantPathsFound(t, x)
	}
	if nodes < 20 {
		t.Errorf("no tree has more than %d nodes", nodes)
	}
}

// wantPathsFound asks that there is a path for each entry, and that each leads where its names lead, if no Link is on its way.
func wantPathsFound(t *testing.T, x []api.Node) {
	t.Helper()
	entries := 0
	for _, n := range x {
		entries += len(n.Kids)
	}
	paths := Paths(x)
	if len(paths) != entries {
		t.Fatalf("%d paths of %d entries", len(paths), entries)
	}
	for i, p := range paths {
		if slices.Contains(paths[:i], p) {
			t.Fatalf("%s stands there twice", p)
		}
		want, linked := lead(t, x, p)
		if linked || len(p) > api.MaxPath {
			continue
		}
		if f, err := tree.Find(x, p); f != want || err != api.OK {
			t.Fatalf("Find(%s) = %d, error %d, want %d", p, f, err, want)
		}
	}
}

// lead is where names lead without following Links, and whether one is on the way.
func lead(t *testing.T, x []api.Node, s string) (at api.Fid, linked bool) {
	t.Helper()
	at = api.Root
	for _, name := range strings.Split(s, "/")[1:] {
		f, err := tree.Look(x, at, name)
		if err != api.OK {
			t.Fatalf("%s: there is no %s", s, name)
		}
		n, _ := tree.Get(x, f)
		at, linked = f, linked || n.Kind == api.Link
	}
	return at, linked
}

func TestPaths(t *testing.T) { // P15.2
	for _, c := range []struct {
		x    []api.Node
		want []string
	}{
		{tree.New(), nil},
		{sample(), []string{"/-", "/a", "/a/b", "/a/f", "/g", "/l"}}, // /l/b is not told, as Links are not followed
		{wide(3), []string{"/a", "/b", "/c"}},
		{deep(2), []string{"/nnnnnnnnnnnn", "/nnnnnnnnnnnn/nnnnnnnnnnnn"}},
	} {
		if got := Paths(c.x); !slices.Equal(got, c.want) {
			t.Errorf("Paths are %v, want %v", got, c.want)
		}
	}
}

func TestPathsInOrder(t *testing.T) { // P15.2: what is below /a comes ahead of /a-b, though - is ahead of / among bytes
	x, _ := tree.Fold(tree.New(), []api.Op{
		{Kind: api.Mkdir, Fid: 9, At: 1, Name: "a"},
		{Kind: api.Mkdir, Fid: 8, At: 1, Name: "a-b"},
		{Kind: api.Create, Fid: 7, At: 9, Name: "z"},
		{Kind: api.Create, Fid: 6, At: 8, Name: "z"},
		{Kind: api.Create, Fid: 5, At: 1, Name: "0"},
	})
	if got, want := Paths(x), []string{"/0", "/a", "/a/z", "/a-b", "/a-b/z"}; !slices.Equal(got, want) {
		t.Errorf("Paths are %v, want %v", got, want)
	}
}

func TestPathsOfADeepTree(t *testing.T) { // P15.2: of all entries, also where path takes no such text
	paths := Paths(deep(api.MaxNodes - 1))
	if len(paths) != api.MaxNodes-1 {
		t.Fatalf("there are %d paths", len(paths))
	}
	for i, p := range paths {
		if p != strings.Repeat("/nnnnnnnnnnnn", i+1) {
			t.Errorf("path %d is %s", i, p)
		}
		if _, err := path.Split(p); (err == api.OK) != (len(p) <= api.MaxPath) {
			t.Errorf("Split(%s): error %d", p, err)
		}
	}
}

func TestWhatIsHandedInStays(t *testing.T) { // P3
	x := append(sample(), api.Node{Fid: 77, Data: []byte("spare")})
	x[1].Kids = append(x[1].Kids, api.Kid{Name: "spare", Fid: 77})[:2]
	before := []string{written(x), x[1].Kids[:3][2].Name}
	Tree(x[:6])
	Paths(x[:6])
	Line(x[1])
	if after := []string{written(x), x[1].Kids[:3][2].Name}; !slices.Equal(before, after) {
		t.Errorf("what was handed in is %v now", after)
	}
}

func TestWhatIsAnsweredIsTheCallers(t *testing.T) { // P3, P6
	s, _ := Tree(sample())
	a, _ := Read(s)
	for i := range a {
		for j := range a[i].Data[:cap(a[i].Data)] {
			a[i].Data[:cap(a[i].Data)][j] = 'x'
		}
		kids := a[i].Kids[:cap(a[i].Kids)]
		for j := range kids {
			kids[j] = api.Kid{Name: "x" + strconv.Itoa(j)}
		}
	}
	if b, err := Read(s); !tree.Same(b, sample()) || err != api.OK {
		t.Errorf("Read is %v, error %d", b, err)
	}
	p := Paths(sample())
	p[0] = "x"
	if q := Paths(sample()); reflect.DeepEqual(p, q) {
		t.Error("what was answered is kept")
	}
}
