package tell

import (
	"math"
	"strconv"
	"strings"

	"backwater/api"
	"backwater/digits"
)

const (
	lineEnd     = "\n"
	blank       = " "
	between     = "," // entries
	leadsTo     = "=" // of an entry
	noKids      = "-"
	partsOfLine = 5
)

// lineOf is the line of a node that is right by itself.
func lineOf(n api.Node) string {
	parts := [partsOfLine]string{
		inDigits(uint32(n.Fid)), wordOf(n.Kind), inDigits(uint32(n.Mode)), inDigits(uint32(n.Links)), insideOf(n),
	}
	return strings.Join(parts[:], blank)
}

// inDigits is a number as digits.
func inDigits(n uint32) string {
	return strconv.FormatUint(uint64(n), 10)
}

// wordOf is what a kind is called.
func wordOf(k api.Kind) string {
	switch k {
	case api.File:
		return "file"
	case api.Dir:
		return "dir"
	case api.Link:
		return "link"
	}
	return ""
}

// insideOf is what a node has inside.
func insideOf(n api.Node) string {
	switch {
	case n.Kind != api.Dir:
		return Quote(string(n.Data))
	case len(n.Kids) == 0:
		return noKids
	}
	var kids []string
	for _, k := range n.Kids {
		kids = append(kids, k.Name+leadsTo+inDigits(uint32(k.Fid)))
	}
	return strings.Join(kids, between)
}

// readLine is the node of a line; false, if it is of none. Whether the node is right is not asked here.
func readLine(s string) (api.Node, bool) {
	parts := strings.SplitN(s, blank, partsOfLine)
	if len(parts) != partsOfLine {
		return api.Node{}, false
	}
	fid, okFid := digits.Read(parts[0], math.MaxUint32)
	kind, okKind := kindOf(parts[1])
	mode, okMode := digits.Read(parts[2], math.MaxUint16)
	links, okLinks := digits.Read(parts[3], math.MaxUint16)
	data, kids, okInside := readInside(kind, parts[4])
	if !okFid || !okKind || !okMode || !okLinks || !okInside {
		return api.Node{}, false
	}
	return api.Node{Fid: api.Fid(fid), Kind: kind, Mode: uint16(mode), Links: uint16(links), Data: data, Kids: kids}, true
}

// kindOf is the kind that a word calls; false, if there is none.
func kindOf(word string) (api.Kind, bool) {
	for k := api.File; k <= api.Link; k++ {
		if wordOf(k) == word {
			return k, true
		}
	}
	return api.NoKind, false
}

// readInside is what a text says that a node of a kind has inside; false, if that says nothing of the kind.
func readInside(k api.Kind, s string) (data []byte, kids []api.Kid, ok bool) {
	if k == api.Dir {
		kids, ok = readKids(s)
		return nil, kids, ok
	}
	data, ok = readData(s)
	return data, nil, ok
}

// readData are the bytes that a text has in quotes; false, if it is not in quotes.
func readData(s string) ([]byte, bool) {
	data, err := Unquote(s)
	if err != api.OK {
		return nil, false
	}
	return bytesOf(data), true
}

// readKids are the entries that a text says; false, if it says something else, or more than a node may have.
func readKids(s string) ([]api.Kid, bool) {
	if s == noKids {
		return nil, true
	}
	var kids []api.Kid
	for more := true; more; {
		var entry string
		entry, s, more = strings.Cut(s, between)
		k, ok := readKid(entry)
		if !ok || len(kids) == api.MaxKids {
			return nil, false
		}
		kids = append(kids, k)
	}
	return kids, true
}

// bytesOf is a text, copied into bytes.
func bytesOf(s string) []byte {
	b := make([]byte, len(s))
	copy(b, s)
	return b
}

// readKid is the entry that a text says; false, if it says none.
func readKid(s string) (api.Kid, bool) {
	name, number, _ := strings.Cut(s, leadsTo)
	fid, ok := digits.Read(number, math.MaxUint32)
	// A copy, so that the answer does not hold on to the text that was handed in.
	return api.Kid{Name: strings.Clone(name), Fid: api.Fid(fid)}, ok
}
