package cml

import (
	"math"
	"math/rand/v2"
	"slices"
	"strconv"
	"testing"

	"backwater/api"
	"backwater/tree"
)

// Records, in short. Each has seen a version of its own, so that no two are taken for one another.

func create(f, at api.Fid, name string) api.Record {
	return api.Record{Op: api.Op{Kind: api.Create, Fid: f, At: at, Name: name, Mode: 1}, Seen: 10}
}

func mkdir(f, at api.Fid, name string) api.Record {
	return api.Record{Op: api.Op{Kind: api.Mkdir, Fid: f, At: at, Name: name, Mode: 1}, Seen: 20}
}

func symlink(f, at api.Fid, name string) api.Record {
	return api.Record{Op: api.Op{Kind: api.Symlink, Fid: f, At: at, Name: name, Data: "/x"}, Seen: 30}
}

func hard(f, at api.Fid, name string) api.Record {
	return api.Record{Op: api.Op{Kind: api.Hard, Fid: f, At: at, Name: name}, Seen: 40}
}

func unlink(at api.Fid, name string) api.Record {
	return api.Record{Op: api.Op{Kind: api.Unlink, At: at, Name: name}, Seen: 50}
}

func rmdir(at api.Fid, name string) api.Record {
	return api.Record{Op: api.Op{Kind: api.Rmdir, At: at, Name: name}, Seen: 60}
}

func rename(at api.Fid, name string, to api.Fid, name2 string) api.Record {
	return api.Record{Op: api.Op{Kind: api.Rename, At: at, Name: name, To: to, Name2: name2}, Seen: 70}
}

func store(f api.Fid, data string) api.Record {
	return api.Record{Op: api.Op{Kind: api.Store, Fid: f, Data: data}, Seen: 80}
}

func chmod(f api.Fid, mode uint16) api.Record {
	return api.Record{Op: api.Op{Kind: api.Chmod, Fid: f, Mode: mode}, Seen: 90}
}

// equal says whether logs are alike, apart from the program's own.
func equal(a, b []api.Record) bool {
	if len(a) != len(b) {
		return false
	}
	for i := range a {
		if a[i] != b[i] {
			return false
		}
	}
	return true
}

// places are the records of a log at places.
func places(l []api.Record, at ...int) []api.Record {
	var list []api.Record
	for _, i := range at {
		list = append(list, l[i])
	}
	return list
}

// sample is a log with a bit of all.
func sample() []api.Record {
	return []api.Record{
		create(2, 1, "a"), store(2, "1"), mkdir(3, 1, "d"), hard(2, 3, "h"), rename(1, "a", 3, "b"),
		chmod(3, 7), unlink(3, "h"), symlink(4, 3, "l"), rmdir(1, "none"), store(2, "2"),
	}
}

func TestCutAndDrop(t *testing.T) { // P8.1
	l := sample()
	for _, n := range []int{math.MinInt, -2, -1, 0, 1, 5, 9, 10, 11, 100, math.MaxInt} {
		at := min(max(n, 0), len(l))
		if got := Cut(l, n); !equal(got, l[:at]) {
			t.Errorf("Cut(%d) has %d records", n, len(got))
		}
		if got := Drop(l, n); !equal(got, l[at:]) {
			t.Errorf("Drop(%d) has %d records", n, len(got))
		}
		if len(Cut(nil, n)) != 0 || len(Drop(nil, n)) != 0 {
			t.Errorf("of nothing, %d: something", n)
		}
	}
}

func TestOps(t *testing.T) { // P8.1
	if len(Ops(nil)) != 0 || len(Ops([]api.Record{})) != 0 {
		t.Error("Ops of nothing")
	}
	l := append(sample(), api.Record{}, api.Record{Op: api.Op{Kind: 77, Name: "/"}})
	ops := Ops(l)
	if len(ops) != len(l) {
		t.Fatalf("%d operations", len(ops))
	}
	for i, o := range ops {
		if o != l[i].Op {
			t.Errorf("operation %d is %v", i, o)
		}
	}
}

func TestTouches(t *testing.T) { // P8.1
	for i, r := range slices.Concat(sample(), []api.Record{{}, {Seen: 5}, {Op: api.Op{Kind: 77, Fid: 1<<32 - 1, At: 5, To: 4}}, {Op: api.Op{Kind: api.Store, To: 4}}}) {
		for _, f := range []api.Fid{0, 1, 2, 3, 4, 5, 6, 80, 1<<32 - 1} {
			want := f > 0 && (r.Op.Fid == f || r.Op.At == f || r.Op.To == f)
			if Touches(r, f) != want {
				t.Errorf("record %d: Touches(%d) is not %v", i, f, want)
			}
		}
	}
	for _, f := range []api.Fid{1, 3} {
		if !Touches(rename(1, "a", 3, "b"), f) {
			t.Errorf("a Rename does not touch %d", f)
		}
	}
	if Touches(store(2, "x"), 0) || Touches(api.Record{}, 0) || Touches(unlink(1, "a"), 2) {
		t.Error("what is not named is touched")
	}
}

func TestSame(t *testing.T) { // P8.1
	if !Same(nil, nil) || !Same(nil, []api.Record{}) || !Same(sample(), sample()) {
		t.Error("what is the same is not")
	}
	if Same(sample(), sample()[:9]) || Same(sample()[1:], sample()) || Same(nil, []api.Record{{}}) || Same(sample()[:2], []api.Record{sample()[1], sample()[0]}) {
		t.Error("other lists are the same")
	}
	for what, change := range map[string]func(r *api.Record){
		"Kind":  func(r *api.Record) { r.Op.Kind = api.Unlink },
		"Fid":   func(r *api.Record) { r.Op.Fid++ },
		"At":    func(r *api.Record) { r.Op.At++ },
		"Name":  func(r *api.Record) { r.Op.Name += "x" },
		"To":    func(r *api.Record) { r.Op.To++ },
		"Name2": func(r *api.Record) { r.Op.Name2 += "x" },
		"Mode":  func(r *api.Record) { r.Op.Mode++ },
		"Data":  func(r *api.Record) { r.Op.Data += "x" },
		"Seen":  func(r *api.Record) { r.Seen++ },
	} {
		l := sample()
		change(&l[4])
		if Same(l, sample()) || Same(sample(), l) {
			t.Errorf("another %s is the same", what)
		}
	}
}

// wantLeft asks for what Optimise leaves of a log: the records at places.
func wantLeft(t *testing.T, what string, l []api.Record, at ...int) {
	t.Helper()
	before := slices.Clone(l)
	want := places(l, at...)
	got := Optimise(l)
	if !equal(got, want) {
		t.Errorf("%s: left are\n%v, want\n%v", what, got, want)
	}
	if !equal(l, before) {
		t.Errorf("%s: what was handed in has changed", what)
	}
	if Clean(l) != (len(at) == len(l)) {
		t.Errorf("%s: Clean is %v", what, Clean(l))
	}
	if !Clean(got) || !equal(Optimise(got), got) {
		t.Errorf("%s: Optimise of Optimise is another log", what)
	}
}

func TestNotNeeded(t *testing.T) { // P8.1
	wantLeft(t, "nothing", nil)
	wantLeft(t, "an empty log", []api.Record{})
	wantLeft(t, "one Store", []api.Record{store(2, "1")}, 0)
	wantLeft(t, "two Stores", []api.Record{store(2, "1"), store(2, "2")}, 1)
	wantLeft(t, "the same Store twice", []api.Record{store(2, "1"), store(2, "1")}, 1)
	wantLeft(t, "three Stores", []api.Record{store(2, "1"), store(2, ""), store(2, "3")}, 2)
	wantLeft(t, "Stores of two", []api.Record{store(2, "1"), store(3, "1"), store(2, "2"), store(4, "1"), store(3, "2")}, 2, 3, 4)
	wantLeft(t, "Chmods", []api.Record{chmod(2, 1), chmod(3, 1), chmod(2, 2), chmod(2, 2)}, 1, 3)
	wantLeft(t, "a Store and a Chmod", []api.Record{store(2, "1"), chmod(2, 1)}, 0, 1)
	wantLeft(t, "Stores and Chmods", []api.Record{chmod(2, 1), store(2, "1"), chmod(2, 2), store(2, "2"), chmod(3, 2)}, 2, 3, 4)
	wantLeft(t, "others between", []api.Record{store(2, "1"), rename(1, "a", 1, "b"), hard(2, 1, "c"), mkdir(5, 1, "d"), store(2, "2")}, 1, 2, 3, 4)
	wantLeft(t, "the object is made anew between", []api.Record{store(2, "1"), unlink(1, "a"), create(2, 1, "a"), store(2, "2")}, 1, 2, 3)
	wantLeft(t, "others twice", []api.Record{hard(2, 1, "b"), hard(2, 1, "b"), unlink(1, "a"), unlink(1, "a"), rename(1, "a", 1, "b"), rename(1, "a", 1, "b"), create(2, 1, "b"), create(2, 1, "b")}, 0, 1, 2, 3, 4, 5, 6, 7)
}

func TestPairs(t *testing.T) { // P8.1, example 1
	wantLeft(t, "example 1", []api.Record{create(2, 1, "a"), store(2, "1"), store(2, "2"), unlink(1, "a")})
	wantLeft(t, "Create, Unlink", []api.Record{create(2, 1, "a"), unlink(1, "a")})
	wantLeft(t, "Symlink, Unlink", []api.Record{symlink(2, 1, "a"), chmod(2, 1), unlink(1, "a")})
	wantLeft(t, "Mkdir, Rmdir", []api.Record{mkdir(2, 1, "a"), chmod(2, 1), rmdir(1, "a")})
	wantLeft(t, "Create, Rmdir", []api.Record{create(2, 1, "a"), rmdir(1, "a")}, 0, 1)
	wantLeft(t, "Symlink, Rmdir", []api.Record{symlink(2, 1, "a"), rmdir(1, "a")}, 0, 1)
	wantLeft(t, "Mkdir, Unlink", []api.Record{mkdir(2, 1, "a"), unlink(1, "a")}, 0, 1)
	wantLeft(t, "Hard, Unlink", []api.Record{hard(2, 1, "a"), unlink(1, "a")}, 0, 1)
	wantLeft(t, "the other way round", []api.Record{unlink(1, "a"), create(2, 1, "a")}, 0, 1)
	wantLeft(t, "another name", []api.Record{create(2, 1, "a"), unlink(1, "b")}, 0, 1)
	wantLeft(t, "another directory", []api.Record{create(2, 1, "a"), unlink(3, "a")}, 0, 1)
	wantLeft(t, "others beside", []api.Record{store(5, "0"), create(2, 1, "a"), store(5, "1"), create(3, 1, "b"), chmod(2, 3), mkdir(4, 5, "a"), unlink(1, "a"), chmod(2, 4)}, 2, 3, 5, 7)
	wantLeft(t, "a Store ahead and one behind", []api.Record{chmod(2, 1), create(2, 1, "a"), unlink(1, "a"), store(2, "1")}, 0, 3)
	wantLeft(t, "with the first of two", []api.Record{create(2, 1, "a"), unlink(1, "a"), unlink(1, "a")}, 2)
	wantLeft(t, "one by one", []api.Record{create(2, 1, "a"), unlink(1, "a"), create(3, 1, "a"), store(3, "x"), unlink(1, "a")})
	wantLeft(t, "made twice", []api.Record{create(2, 1, "a"), create(3, 1, "a"), unlink(1, "a")}, 0)
	wantLeft(t, "the last one left", []api.Record{create(2, 1, "a"), unlink(1, "a"), create(2, 1, "a")}, 2)
	wantLeft(t, "in each other", []api.Record{create(2, 1, "a"), create(3, 1, "b"), store(2, "x"), store(3, "x"), unlink(1, "a"), unlink(1, "b")})
}

func TestWhatIsInTheWayOfAPair(t *testing.T) { // P8.1
	for what, between := range map[string]api.Record{
		"one more entry":             hard(2, 1, "b"),
		"the entry renamed":          rename(1, "a", 1, "b"),
		"the entry renamed away":     rename(1, "a", 3, "a"),
		"another one renamed to it":  rename(1, "b", 1, "a"),
		"one of elsewhere to it":     rename(3, "b", 1, "a"),
		"another maker of the entry": mkdir(3, 1, "a"),
		"another one at the entry":   hard(3, 1, "a"),
		"the object made elsewhere":  create(2, 3, "c"),
		"something made in it":       create(3, 2, "c"),
		"something taken out of it":  unlink(2, "c"),
		"something renamed into it":  rename(1, "b", 2, "c"),
		"something renamed from it":  rename(2, "b", 1, "c"),
		"the wrong end":              rmdir(1, "a"),
		"no operation, that touches": {Op: api.Op{Fid: 2}},
		"another one, that touches":  {Op: api.Op{Kind: 77, To: 2}},
		"a Store at it":              {Op: api.Op{Kind: api.Store, Fid: 3, At: 2}},
		"a Chmod of its entry":       {Op: api.Op{Kind: api.Chmod, Fid: 3, At: 1, Name: "a"}},
		"a Store to its entry":       {Op: api.Op{Kind: api.Store, Fid: 3, To: 1, Name2: "a"}},
	} {
		wantLeft(t, what, []api.Record{create(2, 1, "a"), between, unlink(1, "a")}, 0, 1, 2)
		wantLeft(t, what+", with Stores", []api.Record{create(2, 1, "a"), store(2, "x"), between, chmod(2, 3), unlink(1, "a")}, 0, 1, 2, 3, 4)
	}
	for what, between := range map[string]api.Record{
		"another entry":              unlink(1, "b"),
		"the name elsewhere":         unlink(3, "a"),
		"renamed beside":             rename(1, "b", 1, "c"),
		"the name elsewhere, to":     rename(3, "a", 4, "a"),
		"a name and no directory":    {Op: api.Op{Name: "a", Name2: "a"}},
		"made beside":                create(3, 1, "b"),
		"the directory changed":      chmod(1, 5),
		"the directory renamed":      rename(5, "x", 5, "y"),
		"At with the other name":     rename(1, "c", 3, "a"),
		"To with the other name":     rename(3, "a", 1, "c"),
		"nothing":                    {},
		"no operation, of something": {Op: api.Op{Kind: 77, Fid: 3, At: 1, Name: "b"}},
	} {
		wantLeft(t, what, []api.Record{create(2, 1, "a"), store(2, "x"), between, chmod(2, 3), unlink(1, "a")}, 2)
	}
	for what, between := range map[string]api.Record{
		"a Store of the object, at it":    {Op: api.Op{Kind: api.Store, Fid: 2, At: 2}},
		"a Chmod of the object, at entry": {Op: api.Op{Kind: api.Chmod, Fid: 2, At: 1, Name: "a"}},
	} {
		wantLeft(t, what, []api.Record{create(2, 1, "a"), between, unlink(1, "a")})
	}
}

func TestPairsInPairs(t *testing.T) { // P8.1: one that is taken out makes way for others
	wantLeft(t, "a file in a directory", []api.Record{mkdir(2, 1, "d"), create(3, 2, "f"), store(3, "x"), unlink(2, "f"), rmdir(1, "d")})
	wantLeft(t, "three deep", []api.Record{
		mkdir(2, 1, "d"), mkdir(3, 2, "e"), chmod(2, 1), symlink(4, 3, "f"), chmod(4, 1), store(9, "x"), unlink(3, "f"), chmod(3, 1), rmdir(2, "e"), rmdir(1, "d"),
	}, 5)
	wantLeft(t, "a file that stays", []api.Record{mkdir(2, 1, "d"), create(3, 2, "f"), rmdir(1, "d")}, 0, 1, 2)
	wantLeft(t, "the inner pair ends behind", []api.Record{mkdir(2, 1, "d"), create(3, 2, "f"), rmdir(1, "d"), unlink(2, "f")})
	wantLeft(t, "the inner pair begins ahead", []api.Record{create(3, 2, "f"), mkdir(2, 1, "d"), unlink(2, "f"), rmdir(1, "d")})
	wantLeft(t, "the same object twice", []api.Record{create(2, 1, "a"), create(2, 1, "b"), store(2, "x"), unlink(1, "b"), chmod(2, 1), unlink(1, "a")})
	wantLeft(t, "the same entry twice", []api.Record{create(2, 1, "a"), create(3, 1, "a"), unlink(1, "a"), unlink(1, "a")})
	wantLeft(t, "what is not needed is not in the way", []api.Record{
		create(2, 1, "a"), {Op: api.Op{Kind: api.Store, Fid: 3, At: 2}}, unlink(1, "a"), store(3, "x"),
	}, 3)
}

func TestNotNeededIsAskedFirst(t *testing.T) { // P8.1: of a Store whose later one goes with a pair nothing is left
	wantLeft(t, "a Store ahead of a pair", []api.Record{store(2, "1"), create(2, 1, "a"), store(2, "2"), unlink(1, "a")})
	wantLeft(t, "a Chmod ahead of a pair", []api.Record{chmod(2, 1), mkdir(2, 1, "a"), chmod(2, 2), rmdir(1, "a"), chmod(2, 3)}, 4)
}

func TestFidsOfNothing(t *testing.T) { // P1, P8.1: wrong records, with fids of 0
	wantLeft(t, "a maker of nothing", []api.Record{create(0, 1, "a"), chmod(5, 1), unlink(3, "x"), unlink(1, "a")}, 1, 2)
	wantLeft(t, "nothing at nothing", []api.Record{create(0, 0, ""), unlink(0, "")})
	wantLeft(t, "all of nothing", make([]api.Record, 5), 0, 1, 2, 3, 4)
}

// The document's words once more, record by record, with nothing remembered.

func slowNotNeeded(l []api.Record, i int) bool {
	o := l[i].Op
	if o.Kind != api.Store && o.Kind != api.Chmod {
		return false
	}
	return slices.ContainsFunc(l[i+1:], func(r api.Record) bool { return r.Op.Kind == o.Kind && r.Op.Fid == o.Fid })
}

func slowPair(l []api.Record, i, j int) bool {
	a, b := l[i].Op, l[j].Op
	file := (a.Kind == api.Create || a.Kind == api.Symlink) && b.Kind == api.Unlink
	dir := a.Kind == api.Mkdir && b.Kind == api.Rmdir
	if !file && !dir || a.At != b.At || a.Name != b.Name {
		return false
	}
	return !slices.ContainsFunc(l[i+1:j], func(r api.Record) bool {
		o := r.Op
		names := o.At == a.At && o.Name == a.Name || o.To == a.At && o.Name2 == a.Name
		change := (o.Kind == api.Store || o.Kind == api.Chmod) && o.Fid == a.Fid
		return (slowTouches(r, a.Fid) || names) && !change
	})
}

func slowTouches(r api.Record, f api.Fid) bool {
	return f != 0 && slices.Contains(tree.Names(r.Op), f)
}

func slowFirstPair(l []api.Record) (int, int, bool) {
	for i := range l {
		for j := i + 1; j < len(l); j++ {
			if slowPair(l, i, j) {
				return i, j, true
			}
		}
	}
	return 0, 0, false
}

func slowOptimise(l []api.Record) []api.Record {
	var left []api.Record
	for i, r := range l {
		if !slowNotNeeded(l, i) {
			left = append(left, r)
		}
	}
	for {
		i, j, ok := slowFirstPair(left)
		if !ok {
			return left
		}
		var next []api.Record
		for k, r := range left {
			if k != i && k != j && (k < i || k > j || !slowTouches(r, left[i].Op.Fid)) {
				next = append(next, r)
			}
		}
		left = next
	}
}

// anyRecord is one of few objects and names; whether it is right is left to chance.
func anyRecord(chance *rand.Rand) api.Record {
	fid := func() api.Fid { return api.Fid(chance.IntN(5)) }
	name := func() string { return []string{"a", "b", "c", ""}[chance.IntN(4)] }
	kinds := []api.OpKind{api.Create, api.Mkdir, api.Symlink, api.Unlink, api.Unlink, api.Rmdir, api.Rmdir, api.Store, api.Chmod, api.Hard, api.Rename, api.NoOp, 77}
	o := api.Op{Kind: kinds[chance.IntN(len(kinds))]}
	wrong := chance.IntN(20) == 0
	if wrong || o.Kind != api.Unlink && o.Kind != api.Rmdir && o.Kind != api.Rename {
		o.Fid = fid()
	}
	if wrong || o.Kind != api.Store && o.Kind != api.Chmod {
		o.At, o.Name = fid(), name()
	}
	if wrong || o.Kind == api.Rename {
		o.To, o.Name2 = fid(), name()
	}
	return api.Record{Op: o, Seen: chance.Uint64()}
}

func TestLikeTheDocument(t *testing.T) { // P8.1, P8.2
	shorter := 0
	for seed := range uint64(6000) {
		chance := rand.New(rand.NewPCG(seed, 8))
		var l []api.Record
		for range chance.IntN(api.MaxLog*2 + 1) {
			l = append(l, anyRecord(chance))
		}
		got, want := Optimise(l), slowOptimise(l)
		if !equal(got, want) {
			t.Fatalf("seed %d: of\n%v\nleft are\n%v, want\n%v", seed, l, got, want)
		}
		if again := Optimise(got); !equal(again, got) || !Clean(got) || len(got) > len(l) {
			t.Fatalf("seed %d: Optimise of Optimise is another log", seed)
		}
		if Clean(l) != equal(l, want) {
			t.Fatalf("seed %d: Clean is %v", seed, Clean(l))
		}
		if len(got) < len(l) {
			shorter++
		}
	}
	if shorter < 1000 {
		t.Errorf("only %d logs were made shorter", shorter)
	}
}

// doable is an operation of chance that a tree can bear, most of them on few objects and names.
func doable(t []api.Node, chance *rand.Rand) (api.Op, []api.Node) {
	fid := func() api.Fid { return api.Fid(1 + chance.IntN(8)) }
	name := func() string { return string(rune('a' + chance.IntN(4))) }
	for {
		o := api.Op{Kind: api.OpKind(1 + chance.IntN(9))}
		switch o.Kind {
		case api.Create, api.Mkdir, api.Symlink, api.Hard:
			o.Fid, o.At, o.Name = fid(), fid(), name()
		case api.Unlink, api.Rmdir:
			o.At, o.Name = fid(), name()
		case api.Rename:
			if chance.IntN(3) > 0 {
				continue
			}
			o.At, o.Name, o.To, o.Name2 = fid(), name(), fid(), name()
		case api.Store:
			o.Fid, o.Data = fid(), strconv.Itoa(chance.IntN(1000))
		case api.Chmod:
			o.Fid, o.Mode = fid(), uint16(chance.IntN(1000))
		}
		if next, err := tree.Apply(t, o); err == api.OK {
			return o, next
		}
	}
}

func TestTheSameTree(t *testing.T) { // P8.3, P8.2
	shorter := 0
	for seed := range uint64(1500) {
		chance := rand.New(rand.NewPCG(seed, 3))
		start := tree.New()
		for range chance.IntN(12) {
			_, start = doable(start, chance)
		}
		var l []api.Record
		end := start
		for range 1 + chance.IntN(api.MaxLog) {
			o, next := doable(end, chance)
			l, end = append(l, api.Record{Op: o, Seen: chance.Uint64N(9)}), next
		}
		left := Optimise(l)
		got, errs := tree.Fold(start, Ops(left))
		if i := slices.IndexFunc(errs, func(e api.Errno) bool { return e != api.OK }); i >= 0 {
			t.Fatalf("seed %d: of\n%v\nthe record %v can't be done: %d", seed, l, left[i], errs[i])
		}
		if !tree.Same(got, end) {
			t.Fatalf("seed %d: of\n%v\nthere is\n%v, want\n%v", seed, l, got, end)
		}
		if len(left) > len(l) || !Clean(left) {
			t.Fatalf("seed %d: not as short as can be", seed)
		}
		if len(left) < len(l) {
			shorter++
		}
	}
	if shorter < 500 {
		t.Errorf("only %d logs were made shorter", shorter)
	}
}

func TestLongLogs(t *testing.T) { // P1: it ends, however long a log is
	var beside, nested, alone []api.Record
	for i := range 2000 {
		f, name := api.Fid(i+2), strconv.Itoa(i)
		beside = append(beside, create(f, 1, name), store(f, name), unlink(1, name))
		nested = append(nested, mkdir(f, f-1, "d"))
		alone = append(alone, create(f, 1, name), store(2, name))
	}
	for i := range 2000 {
		nested = append(nested, rmdir(api.Fid(2000-i), "d"))
	}
	for what, l := range map[string][]api.Record{"beside": beside, "nested": nested, "both": slices.Concat(nested, beside)} {
		if left := Optimise(l); len(left) != 0 {
			t.Errorf("%s: %d records are left", what, len(left))
		}
	}
	if left := Optimise(alone); len(left) != 2001 {
		t.Errorf("%d records are left", len(left))
	}
}

func TestAnswersAreTheCallers(t *testing.T) { // P3
	room := append(sample(), store(9, "behind the end"))
	l := room[:len(room)-1]
	before := slices.Clone(room)
	for what, call := range map[string]func() []api.Record{
		"Optimise":         func() []api.Record { return Optimise(l) },
		"Optimise of half": func() []api.Record { return Optimise(l[2:5]) },
		"Cut":              func() []api.Record { return Cut(l, 4) },
		"Cut of all":       func() []api.Record { return Cut(l, 99) },
		"Drop":             func() []api.Record { return Drop(l, 4) },
		"Drop of none":     func() []api.Record { return Drop(l, 0) },
		"Drop below 0":     func() []api.Record { return Drop(l, -1) },
	} {
		a, b := call(), call()
		want := slices.Clone(b)
		clear(a[:cap(a)])
		_ = append(a, store(1, "more"))
		if !equal(room, before) {
			t.Fatalf("%s: what is answered lies in what was handed in", what)
		}
		if !equal(b, want) {
			t.Fatalf("%s: what is answered lies in what was answered", what)
		}
	}
	ops, again := Ops(l), Ops(l)
	clear(ops[:cap(ops)])
	Clean(l)
	Same(l, l)
	Touches(l[0], 1)
	if !equal(room, before) || again[0] != l[0].Op {
		t.Error("what was handed in has changed")
	}
}
