package cache

import (
	"math"
	"math/rand/v2"
	"slices"
	"testing"

	"backwater/api"
)

// last is the greatest fid that can be.
const last api.Fid = 1<<32 - 1

// made is a cache of so many; the test ends if there is none.
func made(t *testing.T, most int) *Cache {
	t.Helper()
	c := New(most)
	if c == nil {
		t.Fatalf("New(%d) is nil", most)
	}
	return c
}

// filled is a cache that is full of fids, put in that order.
func filled(t *testing.T, fids ...api.Fid) *Cache {
	t.Helper()
	c := made(t, len(fids))
	for _, f := range fids {
		wantPut(t, c, f, 0)
	}
	return c
}

// wantPut puts an object, and asks for the one that goes for it.
func wantPut(t *testing.T, c *Cache, f, gone api.Fid) {
	t.Helper()
	if g, err := c.Put(f); g != gone || err != api.OK {
		t.Errorf("Put(%d) answers %d, error %d, want %d", f, g, err, gone)
	}
}

// wantNext asks for the one that would go; 0: none.
func wantNext(t *testing.T, c *Cache, want api.Fid) {
	t.Helper()
	if f, ok := c.Next(); f != want || ok != (want != 0) {
		t.Errorf("Next answers %d, %v, want %d", f, ok, want)
	}
}

// wantErr asks for an error.
func wantErr(t *testing.T, got, want api.Errno) {
	t.Helper()
	if got != want {
		t.Errorf("error %d, want %d", got, want)
	}
}

// wantOK asks for no error.
func wantOK(t *testing.T, err api.Errno) {
	t.Helper()
	wantErr(t, err, api.OK)
}

// wantList asks for what is at hand.
func wantList(t *testing.T, c *Cache, want ...api.Fid) {
	t.Helper()
	if got := c.List(); !slices.Equal(got, want) {
		t.Errorf("at hand are %v, want %v", got, want)
	}
	for _, f := range want {
		if !c.Has(f) {
			t.Errorf("%d is listed, and not at hand", f)
		}
	}
}

// wantWalk asks for what is dear and not at hand.
func wantWalk(t *testing.T, c *Cache, want ...api.Fid) {
	t.Helper()
	if got := c.Walk(); !slices.Equal(got, want) {
		t.Errorf("Walk answers %v, want %v", got, want)
	}
}

// wantDear asks for how dear one is.
func wantDear(t *testing.T, c *Cache, f api.Fid, want int) {
	t.Helper()
	if got := c.Dear(f); got != want {
		t.Errorf("%d is dear by %d, want %d", f, got, want)
	}
}

func TestNew(t *testing.T) { // P9.1
	for _, most := range []int{1, 2, 12, api.MaxCached - 1, api.MaxCached} {
		c := made(t, most)
		wantList(t, c)
		wantWalk(t, c)
		wantNext(t, c, 0)
		for i := range most {
			wantPut(t, c, api.Fid(100-i), 0)
		}
		wantPut(t, c, 101, 100)
		if len(c.List()) != most {
			t.Errorf("%d at hand of %d", len(c.List()), most)
		}
	}
	for _, most := range []int{0, -1, -40, api.MaxCached + 1, 100, math.MaxInt, math.MinInt, 1 << 32, 1<<32 + 1} {
		if New(most) != nil {
			t.Errorf("New(%d) is not nil", most)
		}
	}
}

func TestNil(t *testing.T) { // P1, P9.1
	var c *Cache
	for _, f := range []api.Fid{0, 1, last} {
		if g, err := c.Put(f); g != 0 || err != api.ErrNil {
			t.Error("Put:", g, err)
		}
		wantErr(t, c.Drop(f), api.ErrNil)
		wantErr(t, c.Mark(f, true), api.ErrNil)
		wantErr(t, c.Hoard(f, 5), api.ErrNil)
		wantErr(t, c.Hoard(f, 101), api.ErrNil)
		if c.Touch(f) || c.Has(f) || c.Dirty(f) || c.Dear(f) != 0 {
			t.Error("something is at hand")
		}
	}
	wantNext(t, c, 0)
	wantList(t, c)
	wantWalk(t, c)
	if c.Fork() != nil {
		t.Error("the Fork of nil is not nil")
	}
}

func TestPut(t *testing.T) { // P9.1, P9.4
	c := made(t, 3)
	if g, err := c.Put(0); g != 0 || err != api.ErrRange {
		t.Error("Put(0) answers", g, err)
	}
	wantList(t, c)
	wantPut(t, c, last, 0)
	wantPut(t, c, 1, 0)
	wantPut(t, c, 9, 0)
	wantList(t, c, 1, 9, last)
	if g, err := c.Put(0); g != 0 || err != api.ErrRange { // of a full one too
		t.Error("Put(0) answers", g, err)
	}
	wantPut(t, c, last, 0) // it is there: it is used, and nothing goes
	wantList(t, c, 1, 9, last)
	wantPut(t, c, 5, 1)
	wantList(t, c, 5, 9, last)
	wantPut(t, c, 1, 9)
	wantPut(t, c, 9, last) // what went comes back, and counts as used
	wantPut(t, c, 2, 5)
	wantPut(t, c, 3, 1)
	wantList(t, c, 2, 3, 9)
}

func TestPutKeepsDirt(t *testing.T) { // P9.1, P9.3
	c := filled(t, 1, 2)
	wantOK(t, c.Mark(1, true))
	wantPut(t, c, 1, 0) // to be used changes nothing of it
	if !c.Dirty(1) || c.Dirty(2) {
		t.Error("Put has changed what is dirty")
	}
	if !c.Touch(1) || !c.Dirty(1) {
		t.Error("Touch has changed what is dirty")
	}
	wantPut(t, c, 3, 2)
	if c.Dirty(3) {
		t.Error("what comes in is dirty")
	}
	wantOK(t, c.Mark(1, false))
	wantOK(t, c.Drop(1))
	wantPut(t, c, 1, 0)
	if c.Dirty(1) {
		t.Error("what comes back is dirty")
	}
}

func TestNoRoom(t *testing.T) { // P9.1, P9.2, P9.3, example 1
	c := filled(t, 5)
	wantOK(t, c.Mark(5, true))
	wantNext(t, c, 0)
	if g, err := c.Put(6); g != 0 || err != api.ErrSpace {
		t.Error("Put(6) answers", g, err)
	}
	wantList(t, c, 5)
	if c.Has(6) || !c.Dirty(5) {
		t.Error("an error has changed something")
	}
	wantPut(t, c, 5, 0) // what is there needs no room
	wantOK(t, c.Mark(5, false))
	wantPut(t, c, 6, 5)
	wantList(t, c, 6)
}

func TestTouch(t *testing.T) { // P9.1, P9.2
	c := filled(t, 1, 2, 3)
	wantNext(t, c, 1)
	if !c.Touch(1) || !c.Touch(2) {
		t.Error("Touch of what is at hand is false")
	}
	wantNext(t, c, 3)
	if c.Touch(4) || c.Touch(0) || c.Touch(last) {
		t.Error("Touch of what is not at hand is true")
	}
	wantList(t, c, 1, 2, 3)
	wantNext(t, c, 3)
	wantPut(t, c, 4, 3)
	if c.Touch(3) {
		t.Error("Touch of what went is true")
	}
	wantNext(t, c, 1)
	wantOK(t, c.Hoard(7, 3))
	if c.Touch(7) { // dear, and not at hand
		t.Error("Touch of what is dear alone is true")
	}
}

func TestOnlyPutAndTouchUse(t *testing.T) { // P9.1, P9.2
	c := filled(t, 1, 2)
	wantOK(t, c.Mark(1, true))
	wantOK(t, c.Mark(1, false))
	wantOK(t, c.Hoard(1, 4))
	wantOK(t, c.Hoard(1, 0))
	c.Has(1)
	c.Dirty(1)
	c.Dear(1)
	c.List()
	c.Walk()
	c.Next()
	c.Fork()
	wantNext(t, c, 1)
}

func TestDrop(t *testing.T) { // P9.1
	c := filled(t, 1, 2)
	wantErr(t, c.Drop(3), api.ErrNoent)
	wantErr(t, c.Drop(0), api.ErrNoent)
	wantOK(t, c.Mark(1, true))
	wantErr(t, c.Drop(1), api.ErrBusy)
	wantList(t, c, 1, 2)
	wantOK(t, c.Hoard(2, 7))
	wantOK(t, c.Drop(2))
	wantErr(t, c.Drop(2), api.ErrNoent)
	wantList(t, c, 1)
	wantDear(t, c, 2, 7) // that stays
	wantWalk(t, c, 2)
	wantPut(t, c, 3, 0) // there is room again
	wantOK(t, c.Mark(1, false))
	wantOK(t, c.Drop(1))
	wantOK(t, c.Drop(3))
	wantList(t, c)
	wantNext(t, c, 0)
}

func TestMark(t *testing.T) { // P9.1, P9.2
	c := filled(t, 1, 2)
	wantErr(t, c.Mark(3, true), api.ErrNoent)
	wantErr(t, c.Mark(3, false), api.ErrNoent)
	wantErr(t, c.Mark(0, true), api.ErrNoent)
	wantOK(t, c.Hoard(3, 1))
	wantErr(t, c.Mark(3, true), api.ErrNoent) // dear, and not at hand
	wantList(t, c, 1, 2)
	for _, dirty := range []bool{true, true, false, false, true} {
		wantOK(t, c.Mark(2, dirty))
		if c.Dirty(2) != dirty || c.Dirty(1) || c.Dirty(3) || c.Dirty(0) {
			t.Error("Dirty is not what was Marked:", dirty)
		}
	}
	wantNext(t, c, 1)
	wantOK(t, c.Mark(1, true))
	wantNext(t, c, 0)
}

func TestHoard(t *testing.T) { // P9.1, P9.2
	c := filled(t, 1)
	for _, dear := range []int{-1, 101, math.MaxInt, math.MinInt, 1 << 32, 1<<32 + 5} {
		wantErr(t, c.Hoard(1, dear), api.ErrRange)
		wantDear(t, c, 1, 0)
	}
	for _, dear := range []int{0, 5, 100} {
		wantErr(t, c.Hoard(0, dear), api.ErrRange)
	}
	wantDear(t, c, 0, 0)
	for _, dear := range []int{1, 100, 50, 0, 0, 3} {
		for _, f := range []api.Fid{1, 2, last} { // at hand or not
			wantOK(t, c.Hoard(f, dear))
			wantDear(t, c, f, dear)
		}
	}
	wantErr(t, c.Hoard(1, 101), api.ErrRange)
	wantDear(t, c, 1, 3)
	wantList(t, c, 1)
	wantWalk(t, c, 2, last)
	wantOK(t, c.Hoard(2, 0))
	wantWalk(t, c, last)
}

func TestHoardIsFull(t *testing.T) { // P9.1
	c := filled(t, 1, 2)
	for f := api.Fid(1); f <= api.MaxHoard; f++ {
		wantOK(t, c.Hoard(f, 10))
	}
	wantErr(t, c.Hoard(20, 1), api.ErrSpace)
	wantErr(t, c.Hoard(20, 100), api.ErrSpace)
	wantErr(t, c.Hoard(20, 101), api.ErrRange) // named first
	wantErr(t, c.Hoard(0, 1), api.ErrRange)
	wantDear(t, c, 20, 0)
	wantOK(t, c.Hoard(20, 0)) // that makes nothing dear
	wantOK(t, c.Hoard(3, 11)) // that one is dear already
	wantDear(t, c, 3, 11)
	wantOK(t, c.Hoard(4, 0))
	wantOK(t, c.Hoard(4, 0)) // it frees one place, not two
	wantOK(t, c.Hoard(20, 1))
	wantErr(t, c.Hoard(4, 1), api.ErrSpace)
	wantWalk(t, c, 3, 5, 6, 7, 8, 20)
}

func TestNext(t *testing.T) { // P9.2, P9.5
	c := filled(t, 9, 4, 7, 2)
	wantNext(t, c, 9) // used longest ago, whatever its fid is
	wantOK(t, c.Hoard(9, 1))
	wantNext(t, c, 4)
	wantOK(t, c.Mark(4, true))
	wantNext(t, c, 7)
	wantOK(t, c.Hoard(7, 5))
	wantOK(t, c.Hoard(2, 5))
	wantNext(t, c, 9) // the least dear one, though others were used since
	c.Touch(9)
	wantNext(t, c, 9)
	wantOK(t, c.Hoard(9, 5))
	wantNext(t, c, 7)
	c.Touch(7)
	wantNext(t, c, 2)
	wantPut(t, c, 3, 2)
	wantNext(t, c, 3) // not dear, and the only clean one of those
	wantPut(t, c, 2, 3)
	wantNext(t, c, 9) // what came back is as dear as it was
	wantList(t, c, 2, 4, 7, 9)
}

func TestHoardedAheadComesInDear(t *testing.T) { // P9.1, P9.2
	c := made(t, 2)
	wantOK(t, c.Hoard(6, 2))
	wantPut(t, c, 6, 0)
	wantPut(t, c, 5, 0)
	wantWalk(t, c)
	wantNext(t, c, 5)
	wantOK(t, c.Hoard(6, 0))
	wantNext(t, c, 6)
}

func TestWalk(t *testing.T) { // P9.2, P6
	for range 20 { // whatever the order of a map is
		c := filled(t, 3, 30)
		for _, h := range []struct {
			f    api.Fid
			dear int
		}{{8, 9}, {7, 20}, {last, 100}, {3, 50}, {2, 9}, {30, 1}, {500, 9}, {6, 1}} {
			wantOK(t, c.Hoard(h.f, h.dear))
		}
		wantWalk(t, c, last, 7, 2, 8, 500, 6)
		wantOK(t, c.Drop(3))
		wantWalk(t, c, last, 3, 7, 2, 8, 500, 6)
		wantPut(t, c, 7, 0)
		wantWalk(t, c, last, 3, 2, 8, 500, 6)
	}
}

func TestList(t *testing.T) { // P9.2, P6
	for range 20 {
		c := made(t, api.MaxCached)
		var want []api.Fid
		for i := range api.Fid(api.MaxCached) {
			f := (i*17%41 + 1) << 20
			wantPut(t, c, f, 0)
			want = append(want, f)
		}
		wantNext(t, c, want[0])
		slices.Sort(want)
		wantList(t, c, want...)
	}
}

func TestFork(t *testing.T) { // P9.2, P4
	for name, change := range map[string]func(c *Cache){
		"put":     func(c *Cache) { c.Put(4) },
		"use":     func(c *Cache) { c.Touch(1); c.Touch(2) },
		"drop":    func(c *Cache) { c.Drop(1); c.Drop(2) },
		"mark":    func(c *Cache) { c.Mark(1, true); c.Mark(3, false) },
		"hoard":   func(c *Cache) { c.Hoard(1, 50); c.Hoard(9, 0); c.Hoard(8, 4) },
		"of many": func(c *Cache) { c.Mark(3, false); c.Put(7); c.Put(6); c.Put(5); c.Hoard(6, 1) },
	} {
		for _, mine := range []bool{false, true} {
			c := filled(t, 1, 2, 3)
			c.Mark(3, true)
			c.Hoard(2, 5)
			c.Hoard(9, 6)
			f := c.Fork()
			if mine {
				c, f = f, c
			}
			change(c)
			t.Log(name)
			wantList(t, f, 1, 2, 3)
			wantWalk(t, f, 9)
			wantNext(t, f, 1)
			if f.Dirty(1) || f.Dirty(2) || !f.Dirty(3) {
				t.Error("what is dirty is not the same")
			}
			wantDear(t, f, 1, 0)
			wantDear(t, f, 2, 5)
			wantDear(t, f, 9, 6)
			wantPut(t, f, 4, 1) // it is as full, and its uses go on
			wantPut(t, f, 5, 4)
		}
	}
}

func TestWhatIsAnswered(t *testing.T) { // P3
	c := filled(t, 1, 2, 3)
	wantOK(t, c.Hoard(8, 2))
	wantOK(t, c.Hoard(9, 3))
	list, walk := c.List(), c.Walk()
	clear(list[:cap(list)])
	clear(walk[:cap(walk)])
	wantList(t, c, 1, 2, 3)
	wantWalk(t, c, 9, 8)
	wantNext(t, c, 1)
}

// model is a cache by the document's words: what is at hand stands in the order of its uses, the last one behind.
type model struct {
	most   int
	atHand []api.Fid
	dirty  []api.Fid
	dear   [10]int
}

// take takes a fid out of a list.
func take(l []api.Fid, f api.Fid) []api.Fid {
	return slices.DeleteFunc(l, func(g api.Fid) bool { return g == f })
}

func (m *model) has(f api.Fid) bool     { return slices.Contains(m.atHand, f) }
func (m *model) isDirty(f api.Fid) bool { return slices.Contains(m.dirty, f) }

// next is the one that would go: for each way of being dear, from 0 on, those used longest ago come first.
func (m *model) next() api.Fid {
	for dear := 0; dear <= 100; dear++ {
		for _, f := range m.atHand {
			if m.dear[f] == dear && !m.isDirty(f) {
				return f
			}
		}
	}
	return 0
}

func (m *model) put(f api.Fid) (api.Fid, api.Errno) {
	var gone api.Fid
	switch {
	case f == 0:
		return 0, api.ErrRange
	case m.has(f) || len(m.atHand) < m.most:
	case m.next() == 0:
		return 0, api.ErrSpace
	default:
		gone = m.next()
	}
	m.atHand = append(take(take(m.atHand, gone), f), f)
	return gone, api.OK
}

func (m *model) drop(f api.Fid) api.Errno {
	switch {
	case !m.has(f):
		return api.ErrNoent
	case m.isDirty(f):
		return api.ErrBusy
	}
	m.atHand = take(m.atHand, f)
	return api.OK
}

func (m *model) mark(f api.Fid, dirty bool) api.Errno {
	if !m.has(f) {
		return api.ErrNoent
	}
	m.dirty = take(m.dirty, f)
	if dirty {
		m.dirty = append(m.dirty, f)
	}
	return api.OK
}

func (m *model) hoard(f api.Fid, dear int) api.Errno {
	many := 0
	for _, d := range m.dear {
		many += min(d, 1)
	}
	switch {
	case f == 0 || dear < 0 || dear > 100:
		return api.ErrRange
	case dear != 0 && m.dear[f] == 0 && many == api.MaxHoard:
		return api.ErrSpace
	}
	m.dear[f] = dear
	return api.OK
}

func (m *model) walk() []api.Fid {
	var list []api.Fid
	for dear := 100; dear > 0; dear-- {
		for f := range api.Fid(len(m.dear)) {
			if m.dear[f] == dear && !m.has(f) {
				list = append(list, f)
			}
		}
	}
	return list
}

// step does one thing to a cache and to its model.
func (m *model) step(t *testing.T, c *Cache, chance *rand.Rand) {
	t.Helper()
	f := api.Fid(chance.IntN(len(m.dear)))
	switch chance.IntN(8) {
	case 0, 1, 2:
		clean := m.clean()
		want, wantErrno := m.put(f)
		got, err := c.Put(f)
		if got != want || err != wantErrno {
			t.Fatalf("Put(%d) answers %d, error %d, want %d, %d", f, got, err, want, wantErrno)
		}
		m.wantWorthIt(t, got, clean)
	case 3:
		want := m.has(f)
		if want {
			m.put(f)
		}
		if c.Touch(f) != want {
			t.Fatalf("Touch(%d) is not %v", f, want)
		}
	case 4:
		wantErr(t, c.Drop(f), m.drop(f))
	case 5, 6:
		dirty := chance.IntN(3) == 0
		wantErr(t, c.Mark(f, dirty), m.mark(f, dirty))
	case 7:
		dear := []int{-1, 0, 0, 1, 2, 50, 99, 100, 101}[chance.IntN(9)]
		wantErr(t, c.Hoard(f, dear), m.hoard(f, dear))
	}
}

// clean are those at hand that are not dirty.
func (m *model) clean() []api.Fid {
	return slices.DeleteFunc(slices.Clone(m.atHand), m.isDirty)
}

// wantWorthIt asks that what went was clean, and no dearer than what was clean with it.
func (m *model) wantWorthIt(t *testing.T, gone api.Fid, clean []api.Fid) {
	t.Helper()
	if gone == 0 {
		return
	}
	if !slices.Contains(clean, gone) {
		t.Fatalf("%d went, and was not clean at hand", gone)
	}
	for _, f := range clean {
		if m.dear[f] < m.dear[gone] {
			t.Fatalf("%d went, and %d is less dear", gone, f)
		}
	}
}

// compare holds a cache against its model.
func (m *model) compare(t *testing.T, c *Cache) {
	t.Helper()
	for f := range api.Fid(len(m.dear)) {
		if c.Has(f) != m.has(f) || c.Dirty(f) != m.isDirty(f) || c.Dear(f) != m.dear[f] {
			t.Fatalf("%d is at hand: %v, dirty: %v, dear: %d", f, c.Has(f), c.Dirty(f), c.Dear(f))
		}
	}
	wantNext(t, c, m.next())
	wantList(t, c, slices.Sorted(slices.Values(m.atHand))...)
	wantWalk(t, c, m.walk()...)
	if len(c.List()) > m.most {
		t.Fatalf("%d are at hand, of %d", len(c.List()), m.most)
	}
	if t.Failed() {
		t.FailNow()
	}
}

func TestLikeTheModel(t *testing.T) { // P9.1 to P9.5, P2
	for seed := range uint64(300) {
		chance := rand.New(rand.NewPCG(seed, 9))
		most := 1 + chance.IntN(6)
		c, m := made(t, most), &model{most: most}
		for range 200 {
			m.step(t, c, chance)
			m.compare(t, c)
			if chance.IntN(10) == 0 { // the other one is left to what becomes of it
				other := c
				c = c.Fork()
				other.Put(1)
				other.Mark(1, true)
				other.Hoard(2, 77)
				other.Drop(3)
			}
		}
	}
}
