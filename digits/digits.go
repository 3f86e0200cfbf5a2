// Package digits is numbers as digits, as they stand in all texts: without noughts ahead.
package digits

// Read is the number that a text says; false, unless it is digits, without noughts ahead, of a number of at most most.
func Read(s string, most uint32) (uint32, bool) {
	if s == "" || s[0] == '0' && s != "0" {
		return 0, false
	}
	n := uint64(0)
	for _, r := range s {
		if r < '0' || r > '9' {
			return 0, false
		}
		n = n*10 + uint64(r-'0')
		// Asked digit by digit, so that digits without end don't go round.
		if n > uint64(most) {
			return 0, false
		}
	}
	return uint32(n), true
}
