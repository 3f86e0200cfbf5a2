package tell

import (
	"strings"

	"backwater/api"
)

const (
	quote     = '"'
	escape    = '\\'
	hexDigits = "0123456789abcdef"
)

// Quote is a text in quotes.
func Quote(s string) string {
	var text strings.Builder
	text.WriteByte(quote)
	for i := range len(s) {
		if b := s[i]; isPlain(b) {
			text.WriteByte(b)
		} else {
			text.Write([]byte{escape, hexDigits[b>>4], hexDigits[b&15]})
		}
	}
	text.WriteByte(quote)
	return text.String()
}

// isPlain tells whether a byte stands in quotes as it is.
func isPlain(b byte) bool {
	return b >= 32 && b <= 126 && b != quote && b != escape
}

// Unquote is what is in quotes.
func Unquote(s string) (string, api.Errno) {
	if len(s) < 2 || s[0] != quote || s[len(s)-1] != quote {
		return "", api.ErrForm
	}
	var text strings.Builder
	for rest := s[1 : len(s)-1]; rest != ""; {
		b, size, ok := firstByte(rest)
		if !ok {
			return "", api.ErrForm
		}
		text.WriteByte(b)
		rest = rest[size:]
	}
	return text.String(), api.OK
}

// firstByte is the byte that a text within quotes begins with, and how many bytes it stands in; false, if there is none.
func firstByte(s string) (b byte, size int, ok bool) {
	if s[0] != escape {
		return s[0], 1, isPlain(s[0])
	}
	if len(s) < 3 {
		return 0, 0, false
	}
	high, low := strings.IndexByte(hexDigits, s[1]), strings.IndexByte(hexDigits, s[2])
	if high < 0 || low < 0 {
		return 0, 0, false
	}
	b = byte(high<<4 | low)
	// What is plain has but one form.
	return b, 3, !isPlain(b)
}
