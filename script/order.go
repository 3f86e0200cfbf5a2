package script

import (
	"math"

	"backwater/digits"
)

// order is what a line asks for.
type order struct {
	verb   string
	node   uint8
	path   string
	other  string // another path, a link's target, or what is to be stored
	number int    // a mode, how dear, which packet, or how many times
}

// What the words behind a verb are.
const (
	aNode   = 'n'
	aPath   = 'p'
	another = 'o'
	aMode   = 'm'
	aNumber = 'k'
	times   = 't'
)

const (
	mostTimes  = 50
	mostNumber = 99999 // of 5 digits
)

// formOf is what words a verb has behind it, a letter each; false, if there is no such verb.
func formOf(verb string) (string, bool) {
	switch verb {
	case "tree", "net":
		return "", true
	case "link", "unlink", "tick", "part", "heal", "crash", "log":
		return "n", true
	case "send", "drop", "double":
		return "k", true
	case "run":
		return "t", true
	case "make", "mkdir", "del", "rmdir", "read", "ls":
		return "np", true
	case "ln", "mv", "sym", "put":
		return "npo", true
	case "mode":
		return "npm", true
	case "hoard":
		return "npk", true
	}
	return "", false
}

// readOrder is the order that words give; false, if they give none.
func readOrder(words []string) (order, bool) {
	form, ok := formOf(words[0])
	if !ok || len(words) != 1+len(form) {
		return order{}, false
	}
	o := order{verb: words[0]}
	for i, part := range form {
		if !o.take(part, words[1+i]) {
			return order{}, false
		}
	}
	return o, true
}

// take puts a word into an order as the part that it is; false, if it can't be that.
func (o *order) take(part rune, word string) bool {
	switch part {
	case aPath:
		o.path = word
		return true
	case another:
		o.other = word
		return true
	}
	number, ok := digits.Read(word, mostOf(part))
	if part == aNode {
		o.node = uint8(number)
	} else {
		o.number = int(number)
	}
	return ok && (part != times || number > 0)
}

// mostOf is the greatest number that a part may be.
func mostOf(part rune) uint32 {
	switch part {
	case aNode:
		return math.MaxUint8
	case aMode:
		return math.MaxUint16
	case times:
		return mostTimes
	}
	return mostNumber
}
