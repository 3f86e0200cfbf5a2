package tell

import (
	"fmt"
	"math/rand/v2"
	"regexp"
	"strings"
	"testing"

	"backwater/api"
)

// quoted is what stands in quotes, told another way than by Quote.
var quoted = regexp.MustCompile(`^"([ !#-\[\]-~]|\\([01][0-9a-f]|22|5c|7f|[89a-f][0-9a-f]))*"$`)

func TestQuoteOfEachByte(t *testing.T) { // P15.1
	for b := range 256 {
		want := fmt.Sprintf(`"\%02x"`, b)
		if b >= 32 && b <= 126 && b != '"' && b != '\\' {
			want = `"` + string(rune(b)) + `"`
		}
		s := string([]byte{byte(b)})
		if got := Quote(s); got != want {
			t.Errorf("Quote of byte %d is %s, want %s", b, got, want)
		}
		if got, err := Unquote(want); got != s || err != api.OK {
			t.Errorf("Unquote(%s) = %q, error %d", want, got, err)
		}
	}
}

func TestQuote(t *testing.T) { // P15.1
	for s, want := range map[string]string{
		"":               `""`,
		"hi there":       `"hi there"`,
		`"`:              `"\22"`,
		`\`:              `"\5c"`,
		`\22`:            `"\5c22"`,
		"a\nb\x00\x7f":   `"a\0ab\00\7f"`,
		"~ !#[]":         `"~ !#[]"`,
		"\x1f\x80\xff":   `"\1f\80\ff"`,
		"ü":              `"\c3\bc"`,
		"\xc3":           `"\c3"`,
		"\ufffd":         `"\ef\bf\bd"`,
		`""`:             `"\22\22"`,
		"tab\tand\rback": `"tab\09and\0dback"`,
	} {
		if got := Quote(s); got != want {
			t.Errorf("Quote(%q) = %s, want %s", s, got, want)
		}
		if got, err := Unquote(want); got != s || err != api.OK {
			t.Errorf("Unquote(%s) = %q, error %d", want, got, err)
		}
	}
}

func TestUnquoteOfWrongTexts(t *testing.T) { // P15.1, P2
	for _, s := range []string{
		"", `"`, `a`, `""a`, `a""`, ` ""`, `"" `, `"a`, `a"`, `"""`, `"a"b"`, `"\"`, `"\2"`, `"\"22"`, `"\22`, `\22"`,
		`"\41"`, `"\20"`, `"\7e"`, `"\21"`, `"\23"`, `"\5b"`, `"\5d"`, // plain bytes stand as they are
		`"\5C"`, `"\0A"`, `"\FF"`, `"\0g"`, `"\g0"`, `"\ 0"`, `"\0 "`, `"\+1"`, `"\n"`, `"\\"`, `"\x0a"`,
		"\"\n\"", "\"\x00\"", "\"\x7f\"", "\"\x80\"", "\"ü\"", "'a'", "\xff", "\"\xff\"", "\"\\0\xff\"",
	} {
		if got, err := Unquote(s); got != "" || err != api.ErrForm {
			t.Errorf("Unquote(%q) = %q, error %d", s, got, err)
		}
	}
}

// wantUnquote asks Unquote of a text for what the pattern says of it.
func wantUnquote(t *testing.T, s string) {
	t.Helper()
	got, err := Unquote(s)
	switch {
	case !quoted.MatchString(s):
		if got != "" || err != api.ErrForm {
			t.Fatalf("Unquote(%q) = %q, error %d", s, got, err)
		}
	case err != api.OK || Quote(got) != s:
		t.Fatalf("Unquote(%q) = %q, error %d", s, got, err)
	}
}

func TestUnquoteOfShortTexts(t *testing.T) { // P15.1
	letters := []byte("\"\\0257afcA \n\xff")
	var try func(s string, more int)
	try = func(s string, more int) {
		wantUnquote(t, s)
		wantUnquote(t, `"`+s+`"`)
		if more == 0 {
			return
		}
		for _, b := range letters {
			try(s+string([]byte{b}), more-1)
		}
	}
	try("", 4)
}

func TestQuoteByChance(t *testing.T) { // P15.1, P1
	chance := rand.New(rand.NewPCG(15, 1))
	for range 3000 {
		b := make([]byte, chance.IntN(50))
		for i := range b {
			b[i] = byte(chance.IntN(256))
		}
		s := string(b)
		if got, err := Unquote(Quote(s)); got != s || err != api.OK {
			t.Fatalf("Unquote of Quote(%q) = %q, error %d", s, got, err)
		}
		wantUnquote(t, s)
		q := []byte(Quote(s))
		q[chance.IntN(len(q))] = byte(chance.IntN(256))
		wantUnquote(t, string(q))
	}
	long := strings.Repeat("a\n", 100000)
	if got, err := Unquote(Quote(long)); got != long || err != api.OK {
		t.Errorf("a long text is not the same, error %d", err)
	}
}
