package digits

import (
	"math"
	"strconv"
	"strings"
	"testing"
)

func TestRead(t *testing.T) { // P5
	for _, n := range []uint32{0, 1, 9, 10, 99, 100, 255, 256, 65535, 65536, 99999, 1 << 31, math.MaxUint32 - 1, math.MaxUint32} {
		s := strconv.FormatUint(uint64(n), 10)
		for _, most := range []uint32{n, math.MaxUint32} {
			if got, ok := Read(s, most); got != n || !ok {
				t.Errorf("Read(%s, %d) = %d, %v", s, most, got, ok)
			}
		}
		if n > 0 {
			wantNone(t, s, n-1)
		}
		for _, wrong := range []string{"0" + s, "+" + s, "-" + s, s + " ", " " + s, s + "x", s + "\n", s + "\xff", s + ".", "0x" + s} {
			wantNone(t, wrong, math.MaxUint32)
		}
	}
}

// wantNone asks that a text says no number that may be.
func wantNone(t *testing.T, s string, most uint32) {
	t.Helper()
	if got, ok := Read(s, most); got != 0 || ok {
		t.Errorf("Read(%q, %d) = %d, %v", s, most, got, ok)
	}
}

func TestReadOfWrongTexts(t *testing.T) { // P5, P1
	for _, s := range []string{"", " ", "-", "a", "/", ":", "00", "01", "000000000000000000001", "1e3", "1_0", "\x00", "\xff", "٣", "１",
		"4294967296", "4294967297", "18446744073709551615", "18446744073709551616", "18446744073709551617", strings.Repeat("9", 100000), "0" + strings.Repeat("0", 100000)} {
		wantNone(t, s, math.MaxUint32)
	}
}
