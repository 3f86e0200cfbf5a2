// Package alike is what the server and its clients have alike: how bodies begin, the snapshot that there is at first,
// how many verdicts are held, and the bytes of all that.
package alike

import (
	"slices"

	"backwater/api"
	"backwater/tree"
)

// FirstVersion is the one of the root at first.
const FirstVersion = 1

// MostVerdicts is how many are held.
const MostVerdicts = 64

// The first byte of a body tells what it is.
const (
	Fetch   = "F" // a client asks for the snapshot
	Fetched = "f"
	Ship    = "S" // it asks for records to be done
	Shipped = "s"
	Refused = "e" // the answer to what is not done
)

// FirstSnapshot is the snapshot at first: a root that nobody made.
func FirstSnapshot() api.Snapshot {
	root := api.Stamp{Fid: api.Root, Version: FirstVersion}
	return api.Snapshot{Tree: tree.New(), Versions: []api.Stamp{root}}
}

// AddVerdict is a new list of verdicts with one more behind all; of too many the eldest one goes.
func AddVerdict(l []api.Verdict, v api.Verdict) []api.Verdict {
	all := append(slices.Clone(l), v)
	return slices.Delete(all, 0, max(0, len(all)-MostVerdicts))
}

// IsRefusal tells whether a verdict may be one on a record that was refused, of a client of whose records so many were done.
func IsRefusal(v api.Verdict, done uint32) bool {
	return v.Number >= 1 && v.Number <= done && v.Err != api.OK
}
