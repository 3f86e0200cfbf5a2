package world

import (
	"fmt"
	"math/rand/v2"
	"slices"
	"testing"

	"backwater/api"
	"backwater/disk"
	"backwater/server"
	"backwater/tree"
)

// watch looks on at a world. It ships each record that was done there once, and in order, to a server that nothing ever
// happens to: so long as both servers have the same, no record was done twice or passed over.
type watch struct {
	world    *World
	chance   *rand.Rand
	ideal    *server.Server
	numbered map[uint8]map[uint32]api.Record // of each client the records that were frozen, by their numbers
	verdicts map[uint8][]api.Verdict         // of each client all that were refused
	seen     map[string]int                  // how often what came up
}

func newWatch(clients int, seed uint64) *watch {
	v := &watch{
		world: New(clients), chance: rand.New(rand.NewPCG(seed, 14)), ideal: server.Open(disk.New(api.MaxSectors)),
		numbered: map[uint8]map[uint32]api.Record{}, verdicts: map[uint8][]api.Verdict{}, seen: map[string]int{},
	}
	for number := range v.world.there() {
		v.numbered[number] = map[uint32]api.Record{}
		v.world.Link(number, true)
	}
	return v
}

// client is one of the clients, by chance.
func (v *watch) client() uint8 {
	return uint8(1 + v.chance.IntN(len(v.world.nodes)))
}

// path is one by chance.
func (v *watch) path() string {
	s := "/" + string(rune('a'+v.chance.IntN(4)))
	for v.chance.IntN(3) == 0 {
		s += "/" + string(rune('a'+v.chance.IntN(4)))
	}
	return s
}

// act does something by chance, and tells what; at most so much of it is bad luck, of 100.
func (v *watch) act(t *testing.T, luck int) string {
	t.Helper()
	w, c := v.world, v.client()
	if v.chance.IntN(100) < luck {
		return v.suffer(t)
	}
	switch v.chance.IntN(12) {
	case 0, 1, 2, 3:
		k, path, other := api.OpKind(1+v.chance.IntN(9)), v.path(), v.path()
		mode, data := uint16(v.chance.IntN(9)), []string{"x", "/a", "/b/c", ""}[v.chance.IntN(4)]
		return fmt.Sprint("do ", c, k, path, other, w.Do(c, k, path, other, mode, data))
	case 4:
		path := v.path()
		w.Read(c, path)
		w.List(c, path)
		return fmt.Sprint("read ", c, path)
	case 5:
		path := v.path()
		return fmt.Sprint("hoard ", c, path, w.Hoard(c, path, v.chance.IntN(9)))
	case 6:
		return fmt.Sprint("link ", c, w.Link(c, v.chance.IntN(5) > 0))
	case 7, 8:
		return fmt.Sprint("tick ", c, w.Tick(c))
	}
	if n := len(w.Packets()); n > 0 {
		return fmt.Sprint("deliver ", w.Deliver(v.chance.IntN(n)))
	}
	return "nothing"
}

// suffer lets something bad happen by chance.
func (v *watch) suffer(t *testing.T) string {
	t.Helper()
	w, c := v.world, v.client()
	n := len(w.Packets())
	switch v.chance.IntN(8) {
	case 0, 1:
		if n > 0 {
			return fmt.Sprint("drop ", w.Drop(v.chance.IntN(n)))
		}
	case 2, 3, 4:
		if n > 0 {
			return fmt.Sprint("double ", w.Double(v.chance.IntN(n)))
		}
	case 5:
		return fmt.Sprint("part ", c, w.Part(c, v.chance.IntN(3) == 0))
	case 6:
		return v.crash(t, c)
	case 7:
		return v.crash(t, 0)
	}
	return "nothing"
}

// crash crashes a client, or the server: nothing that was answered may be lost (P14.7).
func (v *watch) crash(t *testing.T, node uint8) string {
	t.Helper()
	ahead := v.world.Fork()
	wantErr(t, v.world.Crash(node), api.OK)
	for number := range v.world.there() {
		if !sameNode(v.world, ahead, number) {
			t.Errorf("a crash of %d has changed client %d", node, number)
		}
	}
	if !sameServer(v.world, ahead) || !slices.Equal(v.world.Packets(), ahead.Packets()) {
		t.Errorf("a crash of %d has changed the server or the net", node)
	}
	return fmt.Sprint("crash ", node)
}

// look looks at what has become of a world behind a step.
func (v *watch) look(t *testing.T) {
	t.Helper()
	for number, n := range v.world.there() {
		v.number(t, number)
		applied, done := v.world.Applied(number), v.world.Done(number)
		if applied != done && applied != done+uint32(n.Frozen()) { // P14.5
			t.Errorf("of client %d %d were applied, %d are done, %d are frozen", number, applied, done, n.Frozen())
		}
		v.ship(t, number, applied)
		want := slices.DeleteFunc(slices.Clone(v.verdicts[number]), func(w api.Verdict) bool { return w.Number > done })
		if got := n.Refused(); !slices.Equal(got, want[max(0, len(want)-64):]) { // E2
			t.Errorf("of client %d refused are %v, want %v", number, got, want)
		}
		if !tree.Right(n.View()) || len(n.Log()) > api.MaxLog { // E6
			t.Errorf("client %d sees no tree", number)
		}
	}
	got, want := v.world.host.Snapshot(), v.ideal.Snapshot()
	if !tree.Same(got.Tree, want.Tree) || !slices.Equal(got.Versions, want.Versions) || !tree.Right(got.Tree) {
		t.Errorf("the server has %v, want %v", got, want)
	}
	if len(v.world.Packets()) > api.MaxPackets {
		t.Errorf("%d packets are under way", len(v.world.Packets()))
	}
}

// number writes down which records have got numbers: each keeps it, whatever happens.
func (v *watch) number(t *testing.T, client uint8) {
	t.Helper()
	n := v.world.nodes[client-1]
	for i, r := range n.Log()[:n.Frozen()] {
		number := n.Done() + 1 + uint32(i)
		if old, ok := v.numbered[client][number]; ok && old != r {
			t.Errorf("record %d of client %d was %v, and is %v", number, client, old, r)
		}
		v.numbered[client][number] = r
	}
}

// ship ships to the ideal server what was applied of a client.
func (v *watch) ship(t *testing.T, client uint8, applied uint32) {
	t.Helper()
	first := v.ideal.Applied(client) + 1
	if applied+1 == first {
		return
	}
	var l []api.Record
	for number := first; number <= applied; number++ {
		l = append(l, v.numbered[client][number])
	}
	errs, err := v.ideal.Ship(client, first, l)
	if err != api.OK {
		t.Fatalf("from %d on %v can't be shipped: error %d", first, l, err)
	}
	for i, err := range errs {
		if err != api.OK {
			v.verdicts[client] = append(v.verdicts[client], api.Verdict{Client: client, Number: first + uint32(i), Err: err, Record: l[i]})
			v.seen["refused"]++
		}
		v.seen["done"]++
	}
}

// comeHome lets nothing more be done, and packets come, in any order (P14.6, E5).
func (v *watch) comeHome(t *testing.T) {
	t.Helper()
	w := v.world
	for number := range w.there() {
		w.Part(number, false)
	}
	for range 20 {
		for number := range w.there() {
			w.Link(number, true)
			w.Tick(number)
		}
		for n := len(w.Packets()); n > 0; n = len(w.Packets()) {
			wantErr(t, w.Deliver(v.chance.IntN(n)), api.OK)
			v.look(t)
		}
	}
	for number := range w.there() {
		if len(w.Log(number)) > 0 || w.Done(number) != w.Applied(number) || !tree.Same(w.View(number), w.Tree()) {
			t.Errorf("client %d did not come home: %v", number, w.Log(number))
		}
	}
}

// run lets a world run, and then come home.
func run(t *testing.T, clients int, seed uint64, steps, luck int) *watch {
	t.Helper()
	v := newWatch(clients, seed)
	for i := range steps {
		what := v.act(t, luck)
		v.look(t)
		if t.Failed() {
			t.Fatalf("seed %d, step %d: %s", seed, i, what)
		}
	}
	v.comeHome(t)
	return v
}

func TestByChance(t *testing.T) { // P14.5, P14.6, P14.7, E2, E4, E5, E6, E7
	done, refused := 0, 0
	for seed := range uint64(300) {
		v := run(t, 1+int(seed%3), seed, 300, []int{0, 20, 50}[seed/3%3])
		if t.Failed() {
			t.Fatalf("seed %d", seed)
		}
		done += v.seen["done"]
		refused += v.seen["refused"]
	}
	if done < 1000 || refused < 50 {
		t.Errorf("%d records were done, %d of them refused", done, refused)
	}
}

func TestARunCanBeRunAgain(t *testing.T) { // P6
	a, b := run(t, 3, 99, 400, 30), run(t, 3, 99, 400, 30)
	wantSame(t, a.world, b.world)
}
