package cml

import "backwater/api"

// Optimise is a log without what does not matter.
func Optimise(l []api.Record) []api.Record {
	kept := without(l, notNeeded(l))
	return without(kept, paired(kept))
}

// setting is what a Store or a Chmod sets; only the last one of a log counts.
type setting struct {
	kind api.OpKind
	of   api.Fid
}

// notNeeded tells by their places which records of a log are set anew behind them.
func notNeeded(l []api.Record) func(i int) bool {
	last := map[setting]int{}
	for i, r := range l {
		last[setting{r.Op.Kind, r.Op.Fid}] = i
	}
	return func(i int) bool {
		o := l[i].Op
		return sets(o.Kind) && last[setting{o.Kind, o.Fid}] > i
	}
}

// paired tells by their places which records of a log go with its PAIRs.
func paired(l []api.Record) func(i int) bool {
	s := newSearch(l)
	for {
		first, second, ok := s.pair()
		if !ok {
			return func(i int) bool { return s.gone[i] }
		}
		object := l[first].Op.Fid
		s.takeOut(first, second, func(r api.Record) bool { return Touches(r, object) })
	}
}

// search looks for the PAIRs of a log.
type search struct {
	log  []api.Record
	gone []bool // by places: was the record taken out?
	// By the places of makers: where to look on for the end of what each makes. What stands ahead is not in its way,
	// and never will be, so that it need not be asked again whenever something was taken out.
	next []int
}

func newSearch(l []api.Record) *search {
	s := &search{log: l, gone: make([]bool, len(l)), next: make([]int, len(l))}
	for i := range s.next {
		s.next[i] = i + 1
	}
	return s
}

// pair is where the first PAIR of what is left stands.
func (s *search) pair() (first, second int, ok bool) {
makers:
	for i := range s.log {
		maker := &s.log[i].Op
		if s.gone[i] || !makes(maker.Kind) {
			continue
		}
		for ; s.next[i] < len(s.log); s.next[i]++ {
			j := s.next[i]
			switch {
			case s.gone[j]:
			case unmakes(&s.log[j].Op, maker):
				return i, j, true
			case inTheWay(&s.log[j], maker):
				continue makers
			}
		}
	}
	return 0, 0, false
}

// takeOut takes out two records, and of those between all that a function asks for.
func (s *search) takeOut(first, second int, also func(r api.Record) bool) {
	s.gone[first], s.gone[second] = true, true
	for i := first + 1; i < second; i++ {
		if also(s.log[i]) {
			s.gone[i] = true
		}
	}
}

// sets tells whether operations of a kind set anew what others of that kind have set.
func sets(k api.OpKind) bool {
	return k == api.Store || k == api.Chmod
}

// makes tells whether operations of a kind make an object.
func makes(k api.OpKind) bool {
	return k == api.Create || k == api.Mkdir || k == api.Symlink
}

// unmakes tells whether an operation takes away the entry that a maker made, as one of the maker's kind is taken away.
func unmakes(o, maker *api.Op) bool {
	kind := api.Unlink
	if maker.Kind == api.Mkdir {
		kind = api.Rmdir
	}
	return o.Kind == kind && o.At == maker.At && o.Name == maker.Name
}

// inTheWay tells whether a record keeps a maker from making a PAIR with anything behind.
func inTheWay(r *api.Record, maker *api.Op) bool {
	if sets(r.Op.Kind) && r.Op.Fid == maker.Fid {
		return false
	}
	return Touches(*r, maker.Fid) || namesEntry(&r.Op, maker.At, maker.Name)
}

// namesEntry tells whether an operation speaks of an entry.
func namesEntry(o *api.Op, at api.Fid, name string) bool {
	return o.At == at && o.Name == name || o.To == at && o.Name2 == name
}
