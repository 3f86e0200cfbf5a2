package client

import (
	"math"
	"math/rand/v2"
	"slices"
	"strconv"
	"strings"
	"testing"

	"backwater/api"
	"backwater/disk"
	"backwater/journal"
	"backwater/tree"
)

func TestOperations(t *testing.T) { // P13.2
	versions := map[api.Fid]uint64{}
	for _, v := range sample(t).base.Versions {
		versions[v.Fid] = v.Version
	}
	for _, w := range []struct {
		kind        api.OpKind
		path, other string
		want        api.Op
	}{
		{api.Create, "/a/n", "", api.Op{Kind: api.Create, Fid: mine(1), At: fidA, Name: "n", Mode: 7}},
		{api.Create, "/a/b/../b//./n", "/g", api.Op{Kind: api.Create, Fid: mine(1), At: fidB, Name: "n", Mode: 7}},
		{api.Mkdir, "/n", "nonsense", api.Op{Kind: api.Mkdir, Fid: mine(1), At: 1, Name: "n", Mode: 7}},
		{api.Symlink, "/n", "", api.Op{Kind: api.Symlink, Fid: mine(1), At: 1, Name: "n", Mode: 7, Data: "data"}},
		{api.Hard, "/l", "/a/b/n", api.Op{Kind: api.Hard, Fid: fidF, At: fidB, Name: "n"}},
		{api.Unlink, "/l", "", api.Op{Kind: api.Unlink, At: 1, Name: "l"}}, // the last Link is not followed
		{api.Unlink, "/a/h", "/x", api.Op{Kind: api.Unlink, At: fidA, Name: "h"}},
		{api.Rmdir, "/a/b", "", api.Op{Kind: api.Rmdir, At: fidA, Name: "b"}},
		{api.Rename, "/l", "/a/b/n", api.Op{Kind: api.Rename, At: 1, Name: "l", To: fidB, Name2: "n"}},
		{api.Rename, "/a/f", "/a/n", api.Op{Kind: api.Rename, At: fidA, Name: "f", To: fidA, Name2: "n"}},
		{api.Store, "/l", "", api.Op{Kind: api.Store, Fid: fidF, Data: "data"}},
		{api.Chmod, "/", "", api.Op{Kind: api.Chmod, Fid: 1, Mode: 7}},
		{api.Chmod, "/a/h", "/", api.Op{Kind: api.Chmod, Fid: fidG, Mode: 7}},
	} {
		c := sample(t)
		want, _ := tree.Apply(c.View(), w.want)
		if err := c.Do(w.kind, w.path, w.other, 7, "data"); err != api.OK {
			t.Errorf("%v: error %d", w.want, err)
		}
		wantLog(t, c, rec(w.want, versions[w.want.Fid]))
		if !tree.Same(c.View(), want) {
			t.Errorf("%v: the client sees %v", w.want, c.View())
		}
		if !sameKept(Open(2, c.Disk()), c) {
			t.Errorf("%v: it is not kept", w.want)
		}
	}
}

func TestSeen(t *testing.T) { // P13.2
	c := sample(t)
	for _, v := range c.base.Versions {
		if v.Version < 2 && v.Fid != 1 {
			t.Fatalf("the versions are %v", c.base.Versions)
		}
	}
	version := c.base.Versions[3].Version
	wantDo(t, c, api.Store, "/a/f", "x", api.OK)
	wantDo(t, c, api.Store, "/a/f", "y", api.OK) // it is the BASE's, whatever was done since
	wantDo(t, c, api.Create, "/n", "", api.OK)
	wantDo(t, c, api.Chmod, "/n", "", api.OK)
	wantDo(t, c, api.Unlink, "/g", "", api.OK)
	wantErr(t, c.Do(api.Hard, "/a/f", "/o", 0, ""), api.OK)
	var seen []uint64
	for _, r := range c.Log() {
		seen = append(seen, r.Seen)
	}
	if want := []uint64{version, version, 0, 0, 0, version}; !slices.Equal(seen, want) || c.base.Versions[3].Fid != fidF {
		t.Errorf("seen are %v, want %v", seen, want)
	}
}

func TestNumbersOfFids(t *testing.T) { // P13.2
	c := sample(t)
	wantDo(t, c, api.Create, "/1", "", api.OK)
	wantDo(t, c, api.Create, "/1", "", api.ErrExist)
	wantDo(t, c, api.Store, "/1", "x", api.OK)
	wantDo(t, c, api.Mkdir, "/2", "", api.OK)
	wantDo(t, c, api.Unlink, "/1", "", api.OK)
	wantDo(t, c, api.Symlink, "/3", "", api.OK)
	c = Open(2, c.Disk())
	c.Link(true)
	wantDo(t, c, api.Create, "/4", "", api.OK)
	var fids []api.Fid
	for _, n := range c.View() {
		if n.Fid > 100 {
			fids = append(fids, n.Fid)
		}
	}
	if !slices.Equal(fids, []api.Fid{mine(2), mine(3), mine(4)}) {
		t.Errorf("the fids are %v", fids)
	}
	o := Open(3, disk.New(100))
	o.Link(true)
	wantDo(t, o, api.Create, "/f", "", api.OK)
	if f := o.View()[1].Fid; f != 3<<24+1 {
		t.Errorf("the fid is %d", f)
	}
}

func TestTheLastFid(t *testing.T) { // P13.2: ErrSpace, if bits.Make has an error
	c := Open(2, holding(t, kept(t, 0, 0, 1<<24-1, "\x00", "\x00")))
	c.Link(true)
	wantDo(t, c, api.Create, "/f", "", api.OK)
	if f := c.View()[1].Fid; f != mine(1<<24-1) {
		t.Errorf("the fid is %d", f)
	}
	ahead := c.Fork()
	for range 2 {
		for _, k := range []api.OpKind{api.Create, api.Mkdir, api.Symlink} {
			wantDo(t, c, k, "/g", "", api.ErrSpace)
			wantDo(t, c, k, "/f", strings.Repeat("x", 65), api.ErrSpace) // ahead of ErrForm and ErrExist
			wantDo(t, c, k, "/x/g", "", api.ErrNoent)
			wantDo(t, c, k, "/", "", api.ErrForm)
		}
		wantSame(t, c, ahead)
		c, ahead = Open(2, c.Disk()), Open(2, c.Disk())
		c.Link(true)
		ahead.Link(true)
	}
	wantDo(t, c, api.Chmod, "/f", "", api.OK)
}

// wantNoDo asks that an operation has an error, and that nothing changes but what is at hand.
func wantNoDo(t *testing.T, c *Client, k api.OpKind, path, other, data string, want api.Errno) {
	t.Helper()
	ahead := c.Fork()
	if err := c.Do(k, path, other, 7, data); err != want {
		t.Errorf("operation %d at %q, %q: error %d, want %d", k, path, other, err, want)
	}
	wantHandless(t, c, ahead)
	wantDirty(t, c, slices.DeleteFunc(ahead.cache.List(), func(f api.Fid) bool { return !ahead.cache.Dirty(f) })...)
	for step := range 2 {
		if err := c.Torn(k, path, other, 7, data, step, []int{0, 1, 2, 3}); err != want {
			t.Errorf("Torn, operation %d at %q, %q: error %d, want %d", k, path, other, err, want)
		}
		wantHandless(t, c, ahead)
	}
	if c.Linked() != ahead.Linked() {
		t.Error("a Torn with an error is not done")
	}
}

func TestErrorsOfPaths(t *testing.T) { // P13.2
	long := "/" + strings.Repeat("a/", 60)
	for _, k := range []api.OpKind{api.Create, api.Mkdir, api.Symlink, api.Unlink, api.Rmdir, api.Rename} {
		c := sample(t)
		for s, want := range map[string]api.Errno{
			"": api.ErrForm, "a": api.ErrForm, "/": api.ErrForm, "/a/..": api.ErrForm, "/A": api.ErrForm, long: api.ErrForm, "/\xff": api.ErrForm,
			"/x/y": api.ErrNoent, "/g/y/z": api.ErrNotdir, "/l/y/z": api.ErrNotdir, "/x/y/z": api.ErrNoent,
		} {
			wantNoDo(t, c, k, s, "/n", "", want)
			wantNoDo(t, c, k, s, "nonsense", "", want)
		}
		wantHand(t, c)
	}
	for _, k := range []api.OpKind{api.Store, api.Chmod, api.Hard} {
		c := sample(t)
		for s, want := range map[string]api.Errno{
			"": api.ErrForm, "a": api.ErrForm, "/A": api.ErrForm, long: api.ErrForm, "/x": api.ErrNoent, "/g/y": api.ErrNotdir, "/x/y": api.ErrNoent,
		} {
			wantNoDo(t, c, k, s, "", "", want)
			wantNoDo(t, c, k, s, "/n", strings.Repeat("x", 65), want)
		}
		wantHand(t, c)
	}
	c := sample(t)
	for s, want := range map[string]api.Errno{"": api.ErrForm, "/": api.ErrForm, "/x/y": api.ErrNoent, "/g/y/z": api.ErrNotdir} {
		wantNoDo(t, c, api.Rename, "/g", s, "", want)
		wantNoDo(t, c, api.Rename, "/none", s, "", want) // what is not there is told by the tree, later
		wantNoDo(t, c, api.Hard, "/g", s, "", want)
		wantNoDo(t, c, api.Hard, "/a", s, "", want)
	}
	wantHand(t, c)
}

func TestOtherKinds(t *testing.T) { // P13.2
	c := sample(t)
	for k := range 256 {
		if k >= int(api.Create) && k <= int(api.Chmod) {
			continue
		}
		wantNoDo(t, c, api.OpKind(k), "/x/y", "/n", "", api.ErrForm)
		wantNoDo(t, c, api.OpKind(k), "/g", "/n", "", api.ErrForm)
	}
	wantHand(t, c)
}

func TestLongData(t *testing.T) { // P13.2: ErrForm, unless it is RightOp, ahead of what is at hand
	c := sample(t)
	c.Link(false)
	for _, k := range []api.OpKind{api.Store, api.Symlink} {
		wantNoDo(t, c, k, "/g", "", strings.Repeat("x", 65), api.ErrForm)
		wantNoDo(t, c, k, "/g", "", strings.Repeat("x", 64), api.ErrTimeout)
	}
	wantHand(t, c)
	c.Link(true)
	wantDo(t, c, api.Store, "/g", strings.Repeat("x", 64), api.OK)
	wantDo(t, c, api.Symlink, "/n", strings.Repeat("\xff", 64), api.OK)
	wantDo(t, c, api.Create, "/o", strings.Repeat("x", 65), api.OK) // it names no data
	if got, err := c.Read("/o"); got != "" || err != api.OK {
		t.Errorf("/o has %q, error %d", got, err)
	}
}

func TestWhatHasToBeAtHand(t *testing.T) { // P13.2, P13.7
	for _, w := range []struct {
		kind        api.OpKind
		path, other string
		hand        []api.Fid // in the order in which they are asked for
	}{
		{api.Create, "/a/n", "", []api.Fid{fidA}},
		{api.Mkdir, "/n", "", []api.Fid{1}},
		{api.Symlink, "/a/b/n", "", []api.Fid{fidB}},
		{api.Hard, "/l", "/a/n", []api.Fid{fidF, fidA}},
		{api.Unlink, "/a/f", "", []api.Fid{fidA}},
		{api.Rmdir, "/a/b", "", []api.Fid{fidA}},
		{api.Rename, "/a/f", "/a/b/n", []api.Fid{fidA, fidB}},
		{api.Rename, "/a/f", "/n", []api.Fid{fidA, 1}},
		{api.Rename, "/a/f", "/a/n", []api.Fid{fidA}},
		{api.Store, "/l", "", []api.Fid{fidF}},
		{api.Chmod, "/a", "", []api.Fid{fidA}},
	} {
		c := sample(t)
		wantErr(t, c.Do(w.kind, w.path, w.other, 0, ""), api.OK)
		wantHand(t, c, w.hand...)
		wantDirty(t, c, slices.Sorted(slices.Values(w.hand))...)
		for i, missing := range w.hand {
			c := sample(t)
			for _, f := range w.hand {
				if f != missing {
					c.cache.Put(f)
				}
			}
			c.cache.Put(fidL)
			c.Link(false)
			wantNoDo(t, c, w.kind, w.path, w.other, "", api.ErrTimeout)
			wantHand(t, c, slices.Concat(w.hand[i+1:], []api.Fid{fidL}, w.hand[:i])...) // those ahead of it were used
			wantDirty(t, c)
		}
		c = sample(t)
		for _, f := range w.hand {
			c.cache.Put(f)
		}
		c.Link(false)
		wantErr(t, c.Do(w.kind, w.path, w.other, 0, ""), api.OK)
		wantDirty(t, c, slices.Sorted(slices.Values(w.hand))...)
	}
}

func TestAtHandIsAskedAheadOfTheTree(t *testing.T) { // P13.2
	c := sample(t)
	c.Link(false)
	for _, w := range []struct {
		kind        api.OpKind
		path, other string
		want        api.Errno
	}{
		{api.Create, "/g", "", api.ErrExist}, {api.Unlink, "/none", "", api.ErrNoent}, {api.Unlink, "/a", "", api.ErrIsdir},
		{api.Rmdir, "/a", "", api.ErrNotempty}, {api.Rmdir, "/g", "", api.ErrNotdir}, {api.Rename, "/a", "/a/b/c", api.ErrLoop},
		{api.Rename, "/none", "/n", api.ErrNoent}, {api.Rename, "/g", "/a", api.ErrIsdir}, {api.Rename, "/a/b", "/g", api.ErrNotdir},
		{api.Store, "/a", "", api.ErrIsdir}, {api.Hard, "/a", "/n", api.ErrIsdir}, {api.Hard, "/g", "/l", api.ErrExist},
		{api.Create, "/g/x", "", api.ErrNotdir}, {api.Unlink, "/l/x", "", api.ErrNotdir}, {api.Rename, "/none", "/g/x", api.ErrNoent},
		{api.Rename, "/a", "/g/x", api.ErrNotdir}, {api.Hard, "/a", "/g/x", api.ErrIsdir}, {api.Hard, "/g", "/g/x", api.ErrNotdir},
	} {
		wantNoDo(t, c, w.kind, w.path, w.other, "", api.ErrTimeout)
		on := c.Fork()
		on.Link(true)
		wantNoDo(t, on, w.kind, w.path, w.other, "", w.want)
		if len(on.cache.List()) == 0 {
			t.Errorf("operation %d at %s: nothing is at hand behind its error", w.kind, w.path)
		}
	}
	wantHand(t, c)
}

func TestDirtyIsWhatTheCacheHas(t *testing.T) { // P13.2
	c := sample(t)
	for i := range 11 { // as many dirty objects as leave room for one alone
		c.cache.Put(api.Fid(100 + i))
		c.cache.Mark(api.Fid(100+i), true)
	}
	wantErr(t, c.Do(api.Rename, "/g", "/a/b/g", 0, ""), api.OK)
	if !c.cache.Has(fidB) || c.cache.Has(1) || !c.cache.Dirty(fidB) {
		t.Error(handOf(c)) // the second one took the place of the first one
	}
	wantErr(t, c.Do(api.Rename, "/a/f", "/f", 0, ""), api.ErrSpace)
}

func TestMaxLog(t *testing.T) { // P13.2
	c := sample(t)
	for i := range api.MaxLog {
		wantErr(t, c.Do(api.Chmod, "/g", "", uint16(i), ""), api.OK)
	}
	wantNoDo(t, c, api.Chmod, "/g", "", "", api.ErrSpace)
	wantNoDo(t, c, api.Create, "/n", "", "", api.ErrSpace)
	wantNoDo(t, c, api.Create, "/l", "", "", api.ErrExist) // the tree's errors are ahead of it
	wantHand(t, c, fidG, 1)
	c.Request() // which makes the log shorter
	wantLog(t, c, rec(api.Op{Kind: api.Chmod, Fid: fidG, Mode: 23}, c.base.Versions[4].Version))
	wantDo(t, c, api.Create, "/n", "", api.OK)
}

func TestTreeLimits(t *testing.T) { // P13.8, E6
	c := opened(t)
	s := serverOf(t)
	done := 0
	for i := range 3 {
		wantDo(t, c, api.Mkdir, "/"+strconv.Itoa(i), "", api.OK)
		for j := range api.MaxKids {
			want := api.OK
			if done+i+2 > api.MaxNodes-1 {
				want = api.ErrSpace
			}
			wantDo(t, c, api.Create, "/"+strconv.Itoa(i)+"/"+strconv.Itoa(j), "", want)
			if want == api.OK {
				done++
			}
			settle(t, c, s)
		}
	}
	if len(c.View()) != api.MaxNodes {
		t.Errorf("%d nodes", len(c.View()))
	}
	wantDo(t, c, api.Create, "/0/x", "", api.ErrSpace)
}

func TestNoRoom(t *testing.T) { // P13.2: its error; then nothing was done but in the cache
	c := sample(t)
	size := journal.Need(c.group())
	c = Open(2, holdingOn(t, 2+2*size, c.group()))
	c.Link(true)
	long := strings.Repeat("x", api.MaxData)
	wantNoDo(t, c, api.Store, "/g", "", long, api.ErrSpace)
	wantNoDo(t, c, api.Symlink, "/n", "", long, api.ErrSpace)
	wantHand(t, c, fidG, 1)
	wantDirty(t, c)
	if c.next != 1 {
		t.Error("a number was taken")
	}
	small := Open(1, disk.New(8)) // no state has room
	small.Link(true)
	wantNoDo(t, small, api.Mkdir, "/a", "", "", api.ErrSpace)
	wantHand(t, small, 1)
	if small.Linked() {
		wantErr(t, small.Torn(api.Mkdir, "/a", "", 0, "", 2, nil), api.ErrRange)
	}
}

func TestTornSteps(t *testing.T) { // P13.6: ErrRange ahead of all others
	c := sample(t)
	ahead := c.Fork()
	for _, step := range []int{-1, 2, 3, math.MaxInt, math.MinInt} {
		wantErr(t, c.Torn(api.Mkdir, "/n", "", 0, "", step, nil), api.ErrRange)
		wantErr(t, c.Torn(api.NoOp, "", "", 0, "", step, nil), api.ErrRange)
		wantErr(t, c.Torn(api.Mkdir, "/a", "", 0, "", step, []int{0, 1}), api.ErrRange)
	}
	wantSame(t, c, ahead)
}

// allBut are the numbers of all sectors but one.
func allBut(size, one int) []int {
	var l []int
	for i := range size {
		if i != one {
			l = append(l, i)
		}
	}
	return l
}

func TestTorn(t *testing.T) { // P13.6, P13.9, E4
	const size = 120
	c := Open(2, disk.New(size))
	for round := range 4 { // so that both areas come in turn
		c.Link(true)
		c.Hoard("/", 7)
		path := "/" + string(rune('a'+round))
		behind := c.Fork()
		wantDo(t, behind, api.Mkdir, path, "", api.OK)
		wantTorn(t, c, path, 0, nil, c)
		wantTorn(t, c, path, 1, nil, c)
		wantTorn(t, c, path, 0, allBut(size, -1), c)
		wantTorn(t, c, path, 1, allBut(size, -1), behind)
		head := (round + 1) % 2
		for i := range size {
			wantTorn(t, c, path, 0, []int{i}, c)
			wantTorn(t, c, path, 0, allBut(size, i), c)
			wantTorn(t, c, path, 1, []int{i}, map[bool]*Client{true: behind, false: c}[i == head])
			wantTorn(t, c, path, 1, allBut(size, i), map[bool]*Client{true: behind, false: c}[i != head])
		}
		c = behind
	}
}

// wantTorn tears an operation off a fork, and asks what that keeps then: the power came back, and the disk tells it.
func wantTorn(t *testing.T, c *Client, path string, step int, keep []int, want *Client) {
	t.Helper()
	f := c.Fork()
	wantErr(t, f.Torn(api.Mkdir, path, "", 0, "", step, keep), api.OK)
	wantSame(t, f, Open(2, f.Disk()))
	if !sameKept(f, want) {
		t.Fatalf("step %d, %v: the client is %v, want %v", step, keep, f.state, want.state)
	}
	if f.Linked() || len(f.cache.List()) > 0 || f.cache.Dear(1) > 0 || len(f.Disk().Loose()) > 0 {
		t.Fatal("something is left of ahead")
	}
	f.Link(true)
	err := f.Do(api.Mkdir, path, "", 0, "")
	if err != map[bool]api.Errno{true: api.OK, false: api.ErrExist}[want == c] {
		t.Fatalf("once more: error %d", err)
	}
}

func TestTornByChance(t *testing.T) { // P13.9, E4
	chance := rand.New(rand.NewPCG(13, 9))
	ahead, done := 0, 0
	c := worn(t)
	size := c.Disk().Size()
	for i := range 300 {
		c.Link(true)
		path := "/" + strconv.Itoa(i)
		behind := c.Fork()
		wantDo(t, behind, api.Create, path, "", api.OK)
		var keep []int
		for range chance.IntN(2 * size) {
			keep = append(keep, chance.IntN(size+2)-1)
		}
		was := c.Fork()
		wantErr(t, c.Torn(api.Create, path, "", 0, "", chance.IntN(2), keep), api.OK)
		switch {
		case sameKept(c, was):
			ahead++
		case sameKept(c, behind):
			done++
			c = was
		default:
			t.Fatalf("the client is %v", c.state)
		}
	}
	if ahead < 50 || done < 20 {
		t.Errorf("%d were not done, %d were", ahead, done)
	}
}

func TestAnyArguments(t *testing.T) { // P1
	texts := []string{"", "/", "//", "/a", "/a/f", "/l", "/n", "/a/b/../n", "/\x00", "\xff\xfe", strings.Repeat("/a", 70), "/" + strings.Repeat("x", 13), strings.Repeat("z", 70)}
	c := sample(t)
	for k := range api.OpKind(12) {
		for _, s := range texts {
			for _, o := range texts {
				for _, d := range []string{"", "\x00\xff", strings.Repeat("d", 65)} {
					f := c.Fork()
					f.Do(k, s, o, math.MaxUint16, d)
					f.Torn(k, s, o, 1, d, 1, []int{-1, math.MaxInt, 0})
				}
			}
			c.Read(s)
			c.List(s)
			c.Stat(s)
			c.Hoard(s, math.MinInt)
			c.Take(s)
		}
	}
}
