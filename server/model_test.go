package server

import (
	"maps"
	"math/rand/v2"
	"slices"
	"testing"

	"backwater/alike"
	"backwater/api"
	"backwater/disk"
	"backwater/tree"
)

// model is a server by the document's words.
type model struct {
	nodes    []api.Node
	stamps   map[api.Fid]api.Stamp
	version  uint64
	logs     map[uint8][]api.Record // of each client all that was done
	verdicts []api.Verdict
}

func newModel() *model {
	return &model{
		nodes: tree.New(), stamps: map[api.Fid]api.Stamp{1: stamp(1, 1, 0)},
		version: 1, logs: map[uint8][]api.Record{},
	}
}

// copied is a model with the same.
func (m *model) copied() *model {
	return &model{
		nodes: m.nodes, stamps: maps.Clone(m.stamps), version: m.version,
		logs: maps.Clone(m.logs), verdicts: slices.Clone(m.verdicts),
	}
}

// ship does records, as the document says; they are all right.
func (m *model) ship(client uint8, first uint32, l []api.Record) []api.Errno {
	var errs []api.Errno
	for i, r := range l {
		number := first + uint32(i)
		if number > uint32(len(m.logs[client])) {
			errs = append(errs, m.do(client, r))
			continue
		}
		err := api.OK
		for _, v := range m.verdicts {
			if v.Client == client && v.Number == number {
				err = v.Err
			}
		}
		errs = append(errs, err)
	}
	return errs
}

// do does a record, as the document says.
func (m *model) do(client uint8, r api.Record) api.Errno {
	m.logs[client] = append(slices.Clone(m.logs[client]), r)
	nodes, err := tree.Apply(m.nodes, r.Op)
	sets := r.Op.Kind == api.Store || r.Op.Kind == api.Chmod
	last, there := m.stamps[r.Op.Fid]
	if sets && there && r.Seen != 0 && r.Seen != last.Version && client != last.Writer {
		err = api.ErrStale
	}
	if err != api.OK {
		m.verdicts = append(m.verdicts, api.Verdict{Client: client, Number: uint32(len(m.logs[client])), Err: err, Record: r})
		m.verdicts = m.verdicts[max(0, len(m.verdicts)-64):]
		return err
	}
	m.nodes = nodes
	if sets || r.Op.Kind >= api.Create && r.Op.Kind <= api.Symlink {
		m.version++
		m.stamps[r.Op.Fid] = stamp(r.Op.Fid, m.version, client)
	}
	maps.DeleteFunc(m.stamps, func(f api.Fid, _ api.Stamp) bool {
		_, ok := tree.Get(m.nodes, f)
		return !ok
	})
	return api.OK
}

// is tells whether a server stands as a model says.
func (m *model) is(s *Server) bool {
	var stamps []api.Stamp
	for _, f := range slices.Sorted(maps.Keys(m.stamps)) {
		stamps = append(stamps, m.stamps[f])
	}
	got := s.Snapshot()
	for client := range uint8(6) {
		if s.Applied(client) != uint32(len(m.logs[client])) {
			return false
		}
	}
	return tree.Same(got.Tree, m.nodes) && slices.Equal(got.Versions, stamps) && slices.Equal(s.Rejected(), m.verdicts) && s.version == m.version
}

// chosenRecord is a record by chance, mostly of objects that may be there.
func chosenRecord(chance *rand.Rand) api.Record {
	fid := func() api.Fid { return api.Fid(1 + chance.IntN(9)) }
	name := func() string { return "abcde"[chance.IntN(5):][:1] }
	var o api.Op
	switch kind := api.OpKind(1 + chance.IntN(9)); kind {
	case api.Create, api.Mkdir, api.Symlink:
		o = api.Op{Kind: kind, Fid: 1 + fid(), At: fid(), Name: name(), Mode: uint16(chance.IntN(9))}
		if chance.IntN(2) == 0 {
			o.At = api.Root
		}
	case api.Hard:
		o = api.Op{Kind: kind, Fid: fid(), At: fid(), Name: name()}
	case api.Unlink, api.Rmdir:
		o = api.Op{Kind: kind, At: fid(), Name: name()}
	case api.Rename:
		o = api.Op{Kind: kind, At: fid(), Name: name(), To: fid(), Name2: name()}
	case api.Store:
		o = api.Op{Kind: kind, Fid: fid(), Data: name()}
	case api.Chmod:
		o = api.Op{Kind: kind, Fid: fid(), Mode: uint16(chance.IntN(9))}
	}
	return rec(o, 0)
}

// chosenShip is what a client may ship: what was done already as it was, and new records behind it.
func (m *model) chosenShip(chance *rand.Rand) (client uint8, first uint32, l []api.Record) {
	client = uint8(1 + chance.IntN(api.MaxClients))
	log := slices.Clone(m.logs[client])
	from := max(0, len(log)-chance.IntN(6))
	for range chance.IntN(5) {
		r := chosenRecord(chance)
		if last, ok := m.stamps[r.Op.Fid]; ok {
			r.Seen = []uint64{0, last.Version, uint64(1 + chance.IntN(int(m.version)))}[chance.IntN(3)]
		}
		log = append(log, r)
	}
	return client, uint32(from + 1), log[from:min(len(log), from+api.MaxChunk)]
}

// step ships something to a server and to its model, and answers what the server is then.
func (m *model) step(t *testing.T, s *Server, chance *rand.Rand) {
	t.Helper()
	client, first, l := m.chosenShip(chance)
	if chance.IntN(3) > 0 {
		wantShip(t, s, client, first, l, m.ship(client, first, l)...)
		return
	}
	var keep []int
	for i := range s.Disk().Size() {
		if chance.IntN(2) == 0 {
			keep = append(keep, i)
		}
	}
	wantErr(t, s.Torn(client, first, l, chance.IntN(2), keep), api.OK)
	if behind := m.copied(); !m.is(s) { // then it is as behind all of it
		behind.ship(client, first, l)
		*m = *behind
	}
}

func TestLikeTheModel(t *testing.T) { // P12.2, P12.3, P12.5, P12.6, E2, E4
	stale, forgotten := 0, 0
	for seed := range uint64(60) {
		chance := rand.New(rand.NewPCG(seed, 12))
		s, m := Open(disk.New(800)), newModel()
		for range 120 {
			m.step(t, s, chance)
			if !m.is(s) {
				t.Fatalf("the server has %v, %v, want %v, %v", s.Snapshot(), s.Rejected(), m.nodes, m.verdicts)
			}
			if chance.IntN(8) == 0 {
				s = Open(s.Disk())
			}
			if t.Failed() {
				t.FailNow()
			}
		}
		for _, v := range s.Rejected() {
			if v.Err == api.ErrStale {
				stale++
			}
		}
		if len(s.Rejected()) == alike.MostVerdicts {
			forgotten++
		}
	}
	if stale == 0 || forgotten == 0 {
		t.Errorf("%d were stale, %d servers have forgotten something", stale, forgotten)
	}
}
