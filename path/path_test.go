package path

import (
	"slices"
	"strings"
	"testing"

	"backwater/api"
)

const longName = "abcdefghijkl" // of MaxName bytes

// longPath is a path's text of n bytes: names of MaxName bytes, and a last one that fills it up.
func longPath(n int) string {
	return (strings.Repeat("/"+longName, n/len(longName)+1))[:n]
}

// wrongTexts are no paths' texts.
var wrongTexts = []string{
	"", "a", ".", "..", "a/b", " /a", "./a", "../a", "\\a", "\x00", "é",
	"/A", "/a b", "/a/B", "/a\x00", "/\x00", "/a\n", "/a,b", "/a:b", "/a=b", "/a\\b", "/~", "/a+", "/`", "/{", "/@",
	"/é", "/a/é/b", "/\xff", "/a\xc3", "/\xef\xbf\xbd", "/日本", "/\u0661",
	"/" + longName + "m", "/a/" + longName + "m/..", "/" + longName + "m/../a", "/A/..", "/.............",
	"/a/" + strings.Repeat("x", 5000), strings.Repeat("a", 5000),
}

func TestLimitsAreAsTheTestsTakeThem(t *testing.T) {
	if len(longName) != api.MaxName || len(longPath(api.MaxPath)) != api.MaxPath {
		t.Fatal("the tests' names and paths don't reach the limits")
	}
}

func TestName(t *testing.T) { // P2.1
	for _, s := range []string{"a", "z", "m", "0", "9", "5", "-", "_", "...", "....", ".a", "a.", "..a", "a..", ".-", "a-b_c.d", "0.9", longName, "............"} {
		if !Name(s) {
			t.Errorf("%q is no name", s)
		}
	}
	for _, s := range []string{"", ".", "..", "/", "a/b", "/a", "a/", " ", "a ", " a", "A", "Z", "aB", ",", "a,b", "a\x00", "\x00", "é", "aé", "\xff", "a\xff", "\xc3", "\ufffd", "\u0661", "ａ", longName + "m", longName + "M", ".............", strings.Repeat("a", 100000)} {
		if Name(s) {
			t.Errorf("%q is a name", s)
		}
	}
}

func TestNameOfEachByte(t *testing.T) { // P2.1
	const letters = "abcdefghijklmnopqrstuvwxyz0123456789.-_"
	for b := range 256 {
		c := string([]byte{byte(b)})
		want := strings.Contains(letters, c)
		for _, s := range []string{"a" + c, c + "a", "a" + c + "a"} {
			if got := Name(s); got != want {
				t.Errorf("Name(%q) = %v", s, got)
			}
		}
		if got := Name(c); got != (want && c != ".") {
			t.Errorf("Name(%q) = %v", c, got)
		}
	}
}

func TestNameOfEachLength(t *testing.T) { // P2.1
	for n := range 3 * api.MaxName {
		if got, want := Name(strings.Repeat("x", n)), n >= 1 && n <= api.MaxName; got != want {
			t.Errorf("Name of %d bytes is %v", n, got)
		}
	}
}

func TestSplit(t *testing.T) { // P2.1
	for s, want := range map[string][]string{
		"/":                      nil,
		"//":                     nil,
		"///":                    nil,
		"/.":                     nil,
		"/./":                    nil,
		"/..":                    nil,
		"/../..":                 nil,
		"/../../a":               {"a"},
		"/a":                     {"a"},
		"/a/":                    {"a"},
		"//a":                    {"a"},
		"/a/b":                   {"a", "b"},
		"/a//b":                  {"a", "b"},
		"/a/./b//../c":           {"a", "c"},
		"/a/..":                  nil,
		"/a/../..":               nil,
		"/a/../../b":             {"b"},
		"/a/b/../..":             nil,
		"/a/b/../../../../c/d/.": {"c", "d"},
		"/a/a/a":                 {"a", "a", "a"},
		"/.../....":              {"...", "...."},
		"/..a/.b/c..":            {"..a", ".b", "c.."},
		"/-/_/0":                 {"-", "_", "0"},
		"/" + longName:           {longName},
		"/" + longName + "/..":   nil,
	} {
		if got, e := Split(s); !slices.Equal(got, want) || e != api.OK {
			t.Errorf("Split(%q) = %q, %d, want %q", s, got, e, want)
		}
	}
}

func TestSplitOfWrongTexts(t *testing.T) { // P2.1, P2
	for _, s := range wrongTexts {
		if got, e := Split(s); len(got) != 0 || e != api.ErrForm {
			t.Errorf("Split(%q) = %q, %d", s, got, e)
		}
	}
}

func TestSplitAtMaxPath(t *testing.T) { // P2.1
	for _, fill := range []string{"/", "/a", "/.", "/../", "/a/..", "/" + longName} {
		for n := api.MaxPath - 2; n <= api.MaxPath+2; n++ {
			s := strings.Repeat(fill, n)[:n]
			want := api.OK
			if n > api.MaxPath {
				want = api.ErrForm
			}
			if got, e := Split(s); e != want || e != api.OK && len(got) != 0 {
				t.Errorf("Split(%q), of %d bytes, = %q, %d", s, n, got, e)
			}
		}
	}
	got, e := Split(longPath(api.MaxPath))
	if e != api.OK || len(got) != 10 || got[0] != longName || got[8] != longName || got[9] != "ab" {
		t.Errorf("Split of the longest one is %q, %d", got, e)
	}
}

func TestJoin(t *testing.T) { // P2.1
	for _, c := range []struct {
		names []string
		text  string
		err   api.Errno
	}{
		{nil, "/", api.OK},
		{[]string{}, "/", api.OK},
		{[]string{"a"}, "/a", api.OK},
		{[]string{"a", "b"}, "/a/b", api.OK},
		{[]string{"...", "-", "_.0"}, "/.../-/_.0", api.OK},
		{[]string{longName}, "/" + longName, api.OK},
		{[]string{""}, "", api.ErrForm},
		{[]string{"."}, "", api.ErrForm},
		{[]string{".."}, "", api.ErrForm},
		{[]string{"/"}, "", api.ErrForm},
		{[]string{"/a"}, "", api.ErrForm},
		{[]string{"a/b"}, "", api.ErrForm},
		{[]string{"a", ""}, "", api.ErrForm},
		{[]string{"", "a"}, "", api.ErrForm},
		{[]string{"a", "..", "b"}, "", api.ErrForm},
		{[]string{"a", "B"}, "", api.ErrForm},
		{[]string{"a", "\xff"}, "", api.ErrForm},
		{[]string{longName + "m"}, "", api.ErrForm},
	} {
		if got, e := Join(c.names...); got != c.text || e != c.err {
			t.Errorf("Join(%q) = %q, %d, want %q, %d", c.names, got, e, c.text, c.err)
		}
	}
	if got, e := Join(); got != "/" || e != api.OK {
		t.Errorf("Join of nothing is %q, %d", got, e)
	}
}

func TestJoinAtMaxPath(t *testing.T) { // P2.1, P2
	nine := slices.Repeat([]string{longName}, 9) // 117 bytes with their /
	for last, want := range map[string]api.Errno{"a": api.OK, "ab": api.OK, "abc": api.ErrForm, "abcd": api.ErrForm} {
		got, e := Join(append(slices.Clone(nine), last)...)
		text := strings.Repeat("/"+longName, 9) + "/" + last
		if want != api.OK {
			text = ""
		}
		if got != text || e != want {
			t.Errorf("Join of nine and %q = %q, %d", last, got, e)
		}
	}
	for n, want := range map[int]api.Errno{59: api.OK, 60: api.OK, 61: api.ErrForm, 100000: api.ErrForm} {
		got, e := Join(slices.Repeat([]string{"a"}, n)...)
		if e != want || want == api.OK && got != strings.Repeat("/a", n) || want != api.OK && got != "" {
			t.Errorf("Join of %d names = %q, %d", n, got, e)
		}
	}
}

func TestClean(t *testing.T) { // P2.1
	for s, want := range map[string]string{
		"/": "/", "//": "/", "/.": "/", "/..": "/", "/../..": "/", "/a": "/a", "/a/": "/a", "//x": "/x",
		"/a/./b//../c": "/a/c", "/a/../../../b": "/b", "/...": "/...", longPath(api.MaxPath): longPath(api.MaxPath),
	} {
		if got, e := Clean(s); got != want || e != api.OK {
			t.Errorf("Clean(%q) = %q, %d, want %q", s, got, e, want)
		}
	}
	for _, s := range append(wrongTexts, longPath(api.MaxPath+1)) {
		if got, e := Clean(s); got != "" || e != api.ErrForm {
			t.Errorf("Clean(%q) = %q, %d", s, got, e)
		}
	}
}

func TestDirAndBase(t *testing.T) { // P2.2
	for s, want := range map[string][2]string{
		"/a":                  {"/", "a"},
		"/a/":                 {"/", "a"},
		"/a/b":                {"/a", "b"},
		"/a/b/c":              {"/a/b", "c"},
		"/a/b/c/..":           {"/a", "b"},
		"/../a":               {"/", "a"},
		"//a/.//b/.":          {"/a", "b"},
		"/a/../b":             {"/", "b"},
		longPath(api.MaxPath): {longPath(117), "ab"},
	} {
		dir, e := Dir(s)
		base, f := Base(s)
		if dir != want[0] || base != want[1] || e != api.OK || f != api.OK {
			t.Errorf("Dir, Base of %q = %q, %d, %q, %d, want %q", s, dir, e, base, f, want)
		}
	}
	for _, s := range append([]string{"/", "//", "/.", "/..", "/../..", "/a/..", "/a/b/../..", "/./", longPath(api.MaxPath + 1)}, wrongTexts...) {
		if dir, e := Dir(s); dir != "" || e != api.ErrForm {
			t.Errorf("Dir(%q) = %q, %d", s, dir, e)
		}
		if base, e := Base(s); base != "" || e != api.ErrForm {
			t.Errorf("Base(%q) = %q, %d", s, base, e)
		}
	}
}

func TestBelow(t *testing.T) { // P2.2
	for _, c := range []struct {
		s, above string
		want     bool
	}{
		{"/a", "/", true},
		{"/a/b", "/", true},
		{"/a/b", "/a", true},
		{"/a/b/c", "/a", true},
		{"/a/b/c", "/a/b", true},
		{"/a/b", "/a/x/..", true},
		{"/a/b", "/../a/", true},
		{"/x/../a/b/.", "/a", true},
		{"/a/b", "/..", true},
		{"/", "/", false},
		{"/a", "/a", false},
		{"/a/", "/a", false},
		{"/a/b/..", "/a", false},
		{"/a/..", "/a", false},
		{"/a/../b", "/a", false},
		{"/", "/a", false},
		{"/a", "/a/b", false},
		{"/ab", "/a", false},
		{"/b/a", "/a", false},
		{"/a/c", "/a/b", false},
		{"/b/b/c", "/a/b", false},
		{"/a/c/d", "/a/b", false},
	} {
		if got := Below(c.s, c.above); got != c.want {
			t.Errorf("Below(%q, %q) = %v", c.s, c.above, got)
		}
	}
	for _, s := range append([]string{longPath(api.MaxPath + 1)}, wrongTexts...) {
		if Below(s, "/") || Below("/a", s) || Below(s, s) {
			t.Errorf("%q is below something, or something below it", s)
		}
	}
}

func TestSame(t *testing.T) { // P2.2
	for _, c := range []struct {
		a, b []string
		want bool
	}{
		{nil, nil, true},
		{nil, []string{}, true},
		{[]string{"a"}, []string{"a"}, true},
		{[]string{"a", "b"}, []string{"a", "b"}, true},
		{[]string{"", "..", "A\xff"}, []string{"", "..", "A\xff"}, true},
		{nil, []string{""}, false},
		{nil, []string{"a"}, false},
		{[]string{"a"}, []string{"b"}, false},
		{[]string{"a"}, []string{"a", "a"}, false},
		{[]string{"a", "b"}, []string{"b", "a"}, false},
		{[]string{"a", "b"}, []string{"a", "c"}, false},
		{[]string{"a", "b"}, []string{"c", "b"}, false},
		{[]string{"ab"}, []string{"a", "b"}, false},
		{[]string{"a", "bc"}, []string{"ab", "c"}, false},
		{[]string{"\xff"}, []string{"\xfe"}, false},
	} {
		if Same(c.a, c.b) != c.want || Same(c.b, c.a) != c.want {
			t.Errorf("Same(%q, %q) is not %v", c.a, c.b, c.want)
		}
	}
}

// reckon says Split by the document's words, in another way: by the library.
func reckon(s string) ([]string, bool) {
	if len(s) > 120 || len(s) == 0 || s[0] != '/' {
		return nil, false
	}
	var names []string
	for _, p := range strings.Split(s[1:], "/") {
		if p == ".." && len(names) > 0 {
			names = slices.Delete(names, len(names)-1, len(names))
		}
		if p == "" || p == "." || p == ".." {
			continue
		}
		if len(p) > 12 || strings.Trim(p, "abcdefghijklmnopqrstuvwxyz0123456789.-_") != "" {
			return nil, false
		}
		names = append(names, p)
	}
	return names, true
}

// texts yields all texts of at most n pieces out of parts.
func texts(n int, parts []string, yield func(string)) {
	var grow func(string, int)
	grow = func(s string, left int) {
		yield(s)
		if left == 0 {
			return
		}
		for _, p := range parts {
			grow(s+p, left-1)
		}
	}
	grow("", n)
}

func TestAllSmallTexts(t *testing.T) { // P2.1 to P2.4, P1
	texts(6, []string{"/", ".", "a", "b", "A", "\xff"}, func(s string) { holds(t, s) })
	texts(6, []string{"/", "/.", "/..", "/a", "/-b", "/" + longName, "m"}, func(s string) { holds(t, s) })
}

func TestLongTexts(t *testing.T) { // P2.3, P2.4
	for n := 1; n <= api.MaxPath+3; n++ {
		holds(t, longPath(n))
		holds(t, strings.Repeat("/", n))
		holds(t, strings.Repeat("/a/..", n)[:n])
		holds(t, strings.Repeat("/.././bc", n)[:n])
	}
}

// holds asks of one text all that the document says of texts.
func holds(t *testing.T, s string) {
	t.Helper()
	want, ok := reckon(s)
	names, e := Split(s)
	if ok != (e == api.OK) || !Same(names, want) {
		t.Fatalf("Split(%q) = %q, %d, want %q, %v", s, names, e, want, ok)
	}
	clean, e := Clean(s)
	if !ok {
		if clean != "" || e != api.ErrForm {
			t.Fatalf("Clean(%q) = %q, %d", s, clean, e)
		}
		return
	}
	if clean != "/"+strings.Join(want, "/") || e != api.OK {
		t.Fatalf("Clean(%q) = %q, %d", s, clean, e)
	}
	if again, e := Clean(clean); again != clean || e != api.OK {
		t.Fatalf("Clean of Clean of %q is %q, %d", s, again, e)
	}
	joined, e := Join(names...)
	if back, f := Split(joined); joined != clean || e != api.OK || f != api.OK || !Same(back, names) {
		t.Fatalf("Split of Join of %q is %q, %d, %d", names, back, e, f)
	}
	dir, e := Dir(s)
	base, f := Base(s)
	if len(want) == 0 {
		if dir != "" || base != "" || e != api.ErrForm || f != api.ErrForm {
			t.Fatalf("Dir, Base of %q = %q, %d, %q, %d", s, dir, e, base, f)
		}
		return
	}
	above, _ := Split(dir)
	if whole, g := Join(append(above, base)...); whole != clean || e != api.OK || f != api.OK || g != api.OK {
		t.Fatalf("Dir and Base of %q, joined, are %q", s, whole)
	}
	if !Below(s, dir) || Below(dir, s) || Below(s, clean) {
		t.Fatalf("%q does not lie below its Dir alone", s)
	}
}

func TestPathLeavesWhatIsHandedIn(t *testing.T) { // P3
	room := []string{"a", "b", "c", "spare", "room"}
	kept := slices.Clone(room)
	if s, e := Join(room[:3]...); s != "/a/b/c" || e != api.OK {
		t.Errorf("Join = %q, %d", s, e)
	}
	if !Same(room[:3], kept[:3]) || Same(room[:2], room[:3]) {
		t.Error("Same goes by the room behind")
	}
	if !slices.Equal(room, kept) {
		t.Errorf("%q became %q", kept, room)
	}
}

func TestSplitAnswersTheCallersOwn(t *testing.T) { // P3, P6
	const s = "/a/b/../c"
	first, _ := Split(s)
	second, _ := Split(s)
	first[0] = "x"
	first = append(first, "y", "z")
	third, _ := Split(s)
	if want := []string{"a", "c"}; !slices.Equal(second, want) || !slices.Equal(third, want) {
		t.Errorf("changed with another answer: %q, %q (%q)", second, third, first)
	}
	if c, e := Clean(s); c != "/a/c" || e != api.OK {
		t.Errorf("Clean = %q, %d", c, e)
	}
}
