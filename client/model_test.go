package client

import (
	"fmt"
	"math/rand/v2"
	"slices"
	"strconv"
	"testing"

	"backwater/api"
	"backwater/bits"
	"backwater/cache"
	"backwater/cml"
	"backwater/disk"
	"backwater/path"
	"backwater/record"
	"backwater/server"
	"backwater/tree"
)

// model is a client by the document's words, line by line; what it keeps never meets a disk.
type model struct {
	number   uint8
	base     api.Snapshot
	log      []api.Record
	frozen   int
	done     uint32
	next     uint32
	verdicts []api.Verdict
	linked   bool
	cache    *cache.Cache
}

func newModel(number uint8) *model {
	m := &model{number: number, next: 1}
	m.base = api.Snapshot{Tree: tree.New(), Versions: []api.Stamp{{Fid: 1, Version: 1}}}
	m.reopen()
	return m
}

// reopen is what Open leaves of a client.
func (m *model) reopen() {
	m.linked, m.cache = false, cache.New(12)
}

func (m *model) view() []api.Node {
	nodes, _ := tree.Fold(m.base.Tree, cml.Ops(m.log))
	return nodes
}

// atHand asks whether an object is at hand.
func (m *model) atHand(f api.Fid) api.Errno {
	if _, ok := tree.Get(m.base.Tree, f); !ok {
		return api.OK
	}
	if m.cache.Has(f) {
		m.cache.Touch(f)
		return api.OK
	}
	if !m.linked {
		return api.ErrTimeout
	}
	if _, err := m.cache.Put(f); err != api.OK {
		return api.ErrSpace
	}
	return api.OK
}

// op is the operation that Do does.
func (m *model) op(k api.OpKind, s, other string, mode uint16, data string) (o api.Op, err api.Errno) {
	o.Kind = k
	then := func(step func() api.Errno) {
		if err == api.OK {
			err = step()
		}
	}
	entry := func(s string, at *api.Fid, name *string) {
		then(func() (e api.Errno) { *name, e = path.Dir(s); return e })
		then(func() (e api.Errno) { *at, e = tree.Find(m.view(), *name); return e })
		then(func() (e api.Errno) { *name, e = path.Base(s); return e })
	}
	find := func() { then(func() (e api.Errno) { o.Fid, e = tree.Find(m.view(), s); return e }) }
	made := k == api.Create || k == api.Mkdir || k == api.Symlink
	if made || k == api.Unlink || k == api.Rmdir || k == api.Rename {
		entry(s, &o.At, &o.Name)
	}
	if k == api.Rename {
		entry(other, &o.To, &o.Name2)
	}
	if k == api.Hard || k == api.Store || k == api.Chmod {
		find()
	}
	if k == api.Hard {
		entry(other, &o.At, &o.Name)
	}
	if made {
		then(func() api.Errno {
			f, e := bits.Make(m.number, m.next)
			if e != api.OK {
				return api.ErrSpace
			}
			o.Fid = f
			return api.OK
		})
	}
	if made || k == api.Chmod {
		o.Mode = mode
	}
	if k == api.Symlink || k == api.Store {
		o.Data = data
	}
	then(func() api.Errno {
		if k < api.Create || k > api.Chmod || !tree.RightOp(o) {
			return api.ErrForm
		}
		return api.OK
	})
	return o, err
}

// do is Do.
func (m *model) do(k api.OpKind, s, other string, mode uint16, data string) api.Errno {
	o, err := m.op(k, s, other, mode, data)
	if err != api.OK {
		return err
	}
	view := m.view()
	for _, f := range tree.Names(o) {
		if _, ok := tree.Get(view, f); ok {
			if err := m.atHand(f); err != api.OK {
				return err
			}
		}
	}
	if _, err := tree.Apply(view, o); err != api.OK {
		return err
	}
	if len(m.log) == 24 {
		return api.ErrSpace
	}
	r := api.Record{Op: o}
	for _, v := range m.base.Versions {
		if v.Fid == o.Fid {
			r.Seen = v.Version
		}
	}
	m.log = append(slices.Clone(m.log), r)
	if k <= api.Symlink {
		m.next++
	}
	for _, f := range tree.Names(o) {
		if m.cache.Has(f) {
			m.cache.Mark(f, true)
		}
	}
	return api.OK
}

// node is the node of Read, List and Stat.
func (m *model) node(s string) (api.Node, api.Errno) {
	f, err := tree.Find(m.view(), s)
	if err == api.OK {
		err = m.atHand(f)
	}
	if err != api.OK {
		return api.Node{}, err
	}
	n, _ := tree.Get(m.view(), f)
	return n, api.OK
}

// hoard is Hoard.
func (m *model) hoard(s string, dear int) api.Errno {
	f, err := tree.Find(m.view(), s)
	if err == api.OK {
		err = m.cache.Hoard(f, dear)
	}
	if err != api.OK || !m.linked {
		return err
	}
	for _, f := range m.cache.Walk() {
		if _, err := m.cache.Put(f); err != api.OK {
			break
		}
	}
	return api.OK
}

// request is Request.
func (m *model) request() (string, api.Errno) {
	if !m.linked {
		return "", api.ErrTimeout
	}
	if len(m.log) > 0 && m.frozen == 0 {
		m.log = cml.Optimise(m.log)
		m.frozen = min(6, len(m.log))
	}
	if len(m.log) == 0 {
		return "F", api.OK
	}
	b, _ := record.Records(m.log[:m.frozen])
	first := m.done + 1
	return "S" + string([]byte{byte(first >> 24), byte(first >> 16), byte(first >> 8), byte(first)}) + string(b), api.OK
}

// take is Take of what a server answers.
func (m *model) take(body string) api.Errno {
	ahead := 5
	switch {
	case body[0] == 'f' && len(m.log) == 0:
	case body[0] == 's' && m.frozen > 0 && int(body[1]) == m.frozen:
		ahead += 1 + m.frozen
	default:
		return api.ErrForm
	}
	m.base, _ = record.ReadSnapshot([]byte(body[ahead:]))
	for i, r := range m.log[:m.frozen] {
		m.done++
		if err := api.Errno(body[2+i]); err != api.OK {
			m.verdicts = append(slices.Clone(m.verdicts), api.Verdict{Client: m.number, Number: m.done, Err: err, Record: r})
			m.verdicts = m.verdicts[max(0, len(m.verdicts)-64):]
		}
	}
	m.log, m.frozen = m.log[m.frozen:], 0
	for _, f := range m.cache.List() {
		touched := false
		for _, r := range m.log {
			touched = touched || r.Op.Fid == f || r.Op.At == f || r.Op.To == f
		}
		if !touched {
			m.cache.Mark(f, false)
		}
	}
	return api.OK
}

// is tells whether a client is as its model.
func (m *model) is(c *Client) bool {
	like := &Client{hand: hand{cache: m.cache, linked: m.linked}}
	return tree.Same(c.View(), m.view()) && slices.Equal(c.Log(), m.log) && c.Frozen() == m.frozen && c.Done() == m.done &&
		slices.Equal(c.Refused(), m.verdicts) && c.next == m.next && tree.Same(c.base.Tree, m.base.Tree) &&
		slices.Equal(c.base.Versions, m.base.Versions) && handOf(c) == handOf(like)
}

// couple is a client, its model, and what it was answered last but has not taken yet.
type couple struct {
	client *Client
	model  *model
	answer string
}

// chosenPath is a path by chance.
func chosenPath(chance *rand.Rand) string {
	s := "/" + string(rune('a'+chance.IntN(5)))
	if chance.IntN(2) == 0 {
		s += "/" + string(rune('a'+chance.IntN(5)))
	}
	switch chance.IntN(20) {
	case 0:
		s = "/"
	case 1:
		s += "/c/d"
	case 2:
		s = "x"
	}
	return s
}

// step does something by chance at a client and at its model, and tells it; what they answer must be alike.
func (p *couple) step(t *testing.T, s *server.Server, chance *rand.Rand) string {
	t.Helper()
	c, m := p.client, p.model
	path, other := chosenPath(chance), chosenPath(chance)
	switch chance.IntN(16) {
	case 0:
		on := chance.IntN(4) > 0
		m.linked = on
		wantErr(t, c.Link(on), api.OK)
		return fmt.Sprint("link ", on)
	case 1:
		dear := chance.IntN(12) - 1
		wantErr(t, c.Hoard(path, dear), m.hoard(path, dear))
		return fmt.Sprint("hoard ", path, dear)
	case 2, 3:
		got, err := c.Stat(path)
		want, like := m.node(path)
		wantErr(t, err, like)
		if !tree.Same([]api.Node{got}, []api.Node{want}) {
			t.Errorf("%s is %v, want %v", path, got, want)
		}
		return "stat " + path
	case 4, 5, 6:
		body, err := c.Request()
		want, like := m.request()
		wantErr(t, err, like)
		if body != want {
			t.Errorf("it asks %q, want %q", body, want)
		}
		if err == api.OK && chance.IntN(4) > 0 {
			p.answer = s.Serve(c.number, body)
		}
		return "request"
	case 7, 8:
		if p.answer != "" {
			wantErr(t, c.Take(p.answer), m.take(p.answer))
		}
		return "take"
	case 9:
		if chance.IntN(8) == 0 {
			return p.tear(t, path, chance)
		}
	}
	k := []api.OpKind{api.Create, api.Mkdir, api.OpKind(1 + chance.IntN(9))}[chance.IntN(3)]
	data := []string{"", "x", "/a", "/b/c", string(make([]byte, 65))}[chance.IntN(5)]
	mode := uint16(chance.IntN(9))
	wantErr(t, c.Do(k, path, other, mode, data), m.do(k, path, other, mode, data))
	return fmt.Sprint("do ", k, path, other)
}

// tear is a Torn, or an Open, at a client and at its model.
func (p *couple) tear(t *testing.T, path string, chance *rand.Rand) string {
	t.Helper()
	if chance.IntN(2) == 0 {
		p.client = Open(p.client.number, p.client.Disk())
		p.model.reopen()
		return "open"
	}
	behind := *p.model
	behind.cache = p.model.cache.Fork()
	err := behind.do(api.Mkdir, path, "", 3, "")
	step := chance.IntN(2)
	var keep []int
	if chance.IntN(2) == 0 {
		keep = []int{0, 1}
	}
	wantErr(t, p.client.Torn(api.Mkdir, path, "", 3, "", step, keep), err)
	if err != api.OK || step == 1 && keep != nil {
		*p.model = behind
	}
	if err == api.OK {
		p.model.reopen()
	}
	return "torn " + path
}

func TestLikeTheModel(t *testing.T) { // P13.1 to P13.6, P13.9
	var refused, full, stale int
	for seed := range uint64(40) {
		chance := rand.New(rand.NewPCG(seed, 13))
		s := server.Open(disk.New(api.MaxSectors))
		var all []*couple
		for number := range uint8(3) {
			all = append(all, &couple{client: Open(number+1, disk.New(1200)), model: newModel(number + 1)})
		}
		for i := range 600 {
			p := all[chance.IntN(3)]
			what := p.step(t, s, chance)
			if !p.model.is(p.client) {
				t.Fatalf("seed %d, step %d, %s: the client is %v, %s, want %v", seed, i, what, p.client.state, handOf(p.client), p.model)
			}
			if t.Failed() {
				t.Fatalf("seed %d, step %d, %s", seed, i, what)
			}
			full += len(p.client.cache.List()) / 12
			if !sameKept(Open(p.client.number, p.client.Disk()), p.client) && p.model.next > 1 {
				t.Fatalf("seed %d, step %d, %s: kept is something else", seed, i, what)
			}
		}
		for _, p := range all {
			refused += len(p.client.Refused())
			for _, v := range p.client.Refused() {
				if v.Err == api.ErrStale {
					stale++
				}
			}
		}
	}
	if refused == 0 || full == 0 || stale == 0 {
		t.Errorf("%d were refused, %d of them stale, %d times a hand was full", refused, stale, full)
	}
}

func TestDoIsTheTrees(t *testing.T) { // P13.8, E7
	errs := map[api.Errno]int{}
	for seed := range uint64(20) {
		chance := rand.New(rand.NewPCG(seed, 138))
		c, s := Open(1, disk.New(api.MaxSectors)), server.Open(disk.New(api.MaxSectors))
		c.Link(true)
		for range 200 {
			k, path, other := api.OpKind(1+chance.IntN(9)), chosenPath(chance), chosenPath(chance)
			view, log := c.View(), c.Log()
			o, err := (&model{number: 1, base: c.base, log: log, next: c.next}).op(k, path, other, 0, "/a")
			want := view
			if err == api.OK {
				want, err = tree.Apply(view, o)
			}
			if err != api.OK {
				want = view
			}
			if got := c.Do(k, path, other, 0, "/a"); got != err || !tree.Same(c.View(), want) {
				t.Fatalf("seed %d: operation %d at %s, %s: error %d, want %d", seed, k, path, other, got, err)
			}
			if err != api.OK && !slices.Equal(c.Log(), log) {
				t.Fatal("what was not done is in the log")
			}
			errs[err]++
			if chance.IntN(8) == 0 || len(log) > 20 {
				settle(t, c, s)
			}
		}
	}
	for _, err := range []api.Errno{api.OK, api.ErrForm, api.ErrNoent, api.ErrExist, api.ErrNotdir, api.ErrIsdir, api.ErrNotempty, api.ErrLoop} {
		if errs[err] == 0 {
			t.Errorf("the error %s never came: %v", strconv.Itoa(int(err)), errs)
		}
	}
}
