package script

import (
	"fmt"
	"slices"
	"strings"
	"testing"

	"backwater/api"
	"backwater/cml"
	"backwater/world"
)

// wantRun runs a script of lines with their answers behind a ; and asks for these. A line without ; answers nothing.
func wantRun(t *testing.T, lines ...string) {
	t.Helper()
	text, want := "", ""
	for _, line := range lines {
		asked, answer, ok := strings.Cut(line, ";")
		text += asked + "\n"
		if ok {
			want += answer + "\n"
		}
	}
	if got := Run(text); got != want {
		t.Errorf("Run(%q) =\n%s, want\n%s", text, got, want)
	}
}

func TestWords(t *testing.T) { // P16.1, P1
	for line, want := range map[string][]string{
		"":                       nil,
		" ":                      nil,
		"     ":                  nil,
		"a":                      {"a"},
		"  a b ":                 {"a", "b"},
		"a  b":                   {"a", "b"},
		"link 1":                 {"link", "1"},
		"a\tb":                   {"a\tb"},
		"a\nb c":                 {"a\nb", "c"},
		"\t":                     {"\t"},
		"\r \v":                  {"\r", "\v"},
		"a\u00a0b \u3000":        {"a\u00a0b", "\u3000"},
		"\xff \xc3 \xe2\x80":     {"\xff", "\xc3", "\xe2\x80"},
		"\xe2 \x80":              {"\xe2", "\x80"},
		"ü é":                    {"ü", "é"},
		"\x00 \x00":              {"\x00", "\x00"},
		" put 1 /a \"b\"  tree ": {"put", "1", "/a", "\"b\"", "tree"},
	} {
		if got := Words(line); !slices.Equal(got, want) {
			t.Errorf("Words(%q) = %q, want %q", line, got, want)
		}
	}
	if got := Words(strings.Repeat(" x", 100000)); len(got) != 100000 {
		t.Errorf("%d words", len(got))
	}
}

func TestCount(t *testing.T) { // P16.1, P1
	for text, want := range map[string]int{
		"": 0, " ": 1, "a": 1, "a b": 1, "\n": 2, "a\n": 2, "\na": 2, "a\nb": 2, "a\nb\n": 3, "\n\n\n": 4, "a\r\nb": 2, "\r": 1, "\u2028": 1, "\xff\n\xff": 2, "\xe2\n": 2,
	} {
		if got := Count(text); got != want {
			t.Errorf("Count(%q) = %d, want %d", text, got, want)
		}
	}
	if got := Count(strings.Repeat("\n", 100000)); got != 100001 {
		t.Errorf("%d lines", got)
	}
}

func TestExample(t *testing.T) { // example 1
	if got := Run("link 1\nmkdir 1 /a\nrun 3\ntree"); got != "ok\nok\nok\n/a\n" {
		t.Errorf("it answers %q", got)
	}
}

func TestRunOfLinesWithoutWords(t *testing.T) { // P16.1
	for _, text := range []string{"", "\n", " ", "  \n \n\n   ", strings.Repeat("\n", api.MaxScript), strings.Repeat(" ", api.MaxScript)} {
		if got := Run(text); got != "" {
			t.Errorf("Run(%.20q) = %q", text, got)
		}
	}
	wantRun(t, "", "  net  ;0", "    ", "net;0", "", "   tree;-")
}

func TestRunOfLongScripts(t *testing.T) { // P16.1
	fill := strings.Repeat(" ", api.MaxScript-len("net\nlink 1\n"))
	if got := Run("net\nlink 1\n" + fill); got != "0\nok\n" {
		t.Errorf("a script of %d bytes answers %q", api.MaxScript, got)
	}
	for _, text := range []string{"net\nlink 1\n" + fill + " ", strings.Repeat("\n", api.MaxScript+1), strings.Repeat("tree\n", 100000), strings.Repeat("\xff", api.MaxScript+1)} {
		if got := Run(text); got != "long\n" {
			t.Errorf("a script of %d bytes answers %q", len(text), got)
		}
	}
}

// verbs are all lines that there are, such as can be done in the world of made.
var verbs = []string{
	"make 1 /x", "mkdir 1 /x", "del 1 /f", "rmdir 1 /e", "ln 1 /f /x", "mv 1 /f /x", "sym 1 /x /y", "put 1 /f x", "mode 1 /f 7", "read 1 /f", "ls 1 /", "link 1", "unlink 1", "hoard 1 /f 9",
	"tick 1", "send 0", "drop 0", "double 0", "part 1", "heal 1", "crash 1", "run 1", "log 1", "tree", "net",
}

// made is a beginning: a file /f, an empty directory /e, a packet under way.
var made = []string{"link 1;ok", "make 1 /f;ok", "mkdir 1 /e;ok", "run 3;ok", "make 1 /g;ok", "tick 1;ok"}

func TestEachLineHasItsWords(t *testing.T) { // P16.1
	if len(verbs) != 25 {
		t.Errorf("%d lines", len(verbs))
	}
	for _, line := range verbs {
		ahead := strings.Join(plain(made), "\n") + "\n"
		begun := Run(ahead)
		if got := strings.TrimPrefix(Run(ahead+line), begun); got == "word\n" || strings.HasPrefix(got, "error") || got == "" {
			t.Errorf("%s answers %s", line, got)
		}
		words := strings.Split(line, " ")
		for i := range words[1:] {
			wantRun(t, append(made[:len(made):len(made)], strings.Join(words[:i+1], " ")+";word")...)
		}
		for _, wrong := range []string{line + " x", line + " 1", "x " + line, strings.ToUpper(line), line[:1] + " " + line[1:], "x" + line, words[0] + "x " + strings.Join(words[1:], " ")} {
			wantRun(t, append(made[:len(made):len(made)], wrong+";word")...)
		}
		if got := strings.TrimPrefix(Run(ahead+"   "+strings.ReplaceAll(line, " ", "    ")+"   "), begun); got != strings.TrimPrefix(Run(ahead+line), begun) {
			t.Errorf("%s with more blanks answers %s", line, got)
		}
	}
}

// plain are lines without their answers.
func plain(lines []string) []string {
	var l []string
	for _, line := range lines {
		asked, _, _ := strings.Cut(line, ";")
		l = append(l, asked)
	}
	return l
}

func TestNumbers(t *testing.T) { // P16.1, P5
	for _, number := range []string{"01", "00", "000001", "-1", "+1", "-0", "x", "1x", "0x1", "1.0", "1e1", "100000", "999999", "4294967296", "4294967297", "18446744073709551617", "١", "1\t", "\xff"} {
		for _, line := range []string{"link N", "unlink N", "tick N", "part N", "heal N", "crash N", "log N", "send N", "drop N", "double N", "run N", "make N /a", "mkdir N /a", "del N /a", "rmdir N /a",
			"ln N /a /b", "mv N /a /b", "sym N /a /b", "put N /a x", "mode N /a 1", "mode 1 /a N", "read N /a", "ls N /", "hoard N / 1", "hoard 1 / N"} {
			wantRun(t, strings.Replace(line, "N", number, 1)+";word")
		}
	}
	wantRun(t,
		"link 0;error 2", "link 3;error 2", "link 255;error 2", "link 256;word", "link 257;word", "link 1000;word", "unlink 0;error 2", "unlink 256;word",
		"part 0;error 2", "part 3;error 2", "part 255;error 2", "part 256;word", "heal 255;error 2", "heal 256;word",
		"tick 0;error 2", "tick 3;error 2", "tick 256;word", "crash 0;ok", "crash 2;ok", "crash 3;error 2", "crash 255;error 2", "crash 256;word",
		"log 0;0", "log 3;0", "log 255;0", "log 256;word",
		"make 3 /a;error 2", "make 256 /a;word", "read 3 /;error 2", "read 256 /;word", "ls 0 /;error 2", "ls 256 /;word", "mv 0 /a /b;error 2", "mv 256 /a /b;word", "put 3 /a x;error 2", "put 257 /a x;word",
		"send 0;error 2", "send 24;error 2", "send 99999;error 2", "send 100000;word", "drop 0;error 2", "drop 99999;error 2", "double 255;error 2", "double 256;error 2", "double 99999;error 2",
		"run 0;word", "run 1;ok", "run 50;ok", "run 51;word", "run 99999;word",
		"link 1;ok", "mode 1 / 0;ok", "mode 1 / 65535;ok", "mode 1 / 65536;word", "mode 1 / 99999;word", "mode 255 / 65535;error 2", "mode 256 / 1;word",
		"hoard 1 / 0;ok", "hoard 1 / 100;ok", "hoard 1 / 101;error 2", "hoard 1 / 65536;error 2", "hoard 1 / 99999;error 2", "hoard 1 / 100000;word", "hoard 0 / 1;error 2", "hoard 256 / 1;word",
	)
}

func TestOperations(t *testing.T) { // P16.1, E1
	wantRun(t,
		"make 1 /f;error 11", "link 1;ok", "make 1 /f;ok", "make 1 /f;error 6", "mkdir 1 /d;ok", "mkdir 1 /d;error 6", "make 1 f;error 3", "make 1 /;error 3", "make 1 /x/y;error 5", "make 1 /f/y;error 7",
		"read 1 /f;\"\"", "put 1 /f hi;ok", "read 1 /f;\"hi\"", "put 1 /f \"\\\x7fü;ok", "read 1 /f;\"\\22\\5c\\7f\\c3\\bc\"", "put 1 /d x;error 8", "put 1 /x x;error 5", "read 1 /d;error 8", "read 1 /x;error 5",
		"put 1 /f "+strings.Repeat("x", 64)+";ok", "put 1 /f "+strings.Repeat("x", 65)+";error 3", "put 1 /f /g;ok",
		"ls 1 /;d f", "ls 1 /d;-", "ls 1 /f;error 7", "ls 1 /x;error 5", "ls 1 x;error 3",
		"ln 1 /f /d/g;ok", "read 1 /d/g;\"/g\"", "ln 1 /f /d/g;error 6", "ln 1 /d /e;error 8", "ln 1 /x /e;error 5", "ls 1 /d;g",
		"sym 1 /s /d;ok", "ls 1 /s;g", "read 1 /s/g;\"/g\"", "sym 1 /s /d;error 6", "sym 1 /r d;ok", "read 1 /r;error 5", "sym 1 /l /l;ok", "read 1 /l;error 14", "put 1 /l x;error 14",
		"mv 1 /f /d/h;ok", "ls 1 /d;g h", "mv 1 /f /y;error 5", "mv 1 /d /d/x;error 10", "mv 1 /d/h /d;error 8", "mkdir 1 /e;ok", "mv 1 /e /d/h;error 7", "mv 1 /e /d;error 9", "mv 1 /d /e;ok", "ls 1 /e;g h",
		"rmdir 1 /e;error 9", "rmdir 1 /e/g;error 7", "rmdir 1 /x;error 5", "del 1 /e;error 8", "del 1 /x;error 5", "del 1 /e/g;ok", "read 1 /e/h;\"/g\"", "del 1 /e/h;ok", "rmdir 1 /e;ok", "ls 1 /;l r s",
		"mode 1 /;word", "mode 1 / 5;ok", "mode 1 /s 5;error 5", "mode 1 s 5;error 3",
	)
}

func TestOperationsInTheLog(t *testing.T) { // P16.1: also what no line tells, such as modes
	w := world.New(2)
	want := []api.Op{
		{Kind: api.Create, Fid: 1<<24 + 1, At: 1, Name: "f"},
		{Kind: api.Mkdir, Fid: 1<<24 + 2, At: 1, Name: "d"},
		{Kind: api.Symlink, Fid: 1<<24 + 3, At: 1, Name: "s", Data: "/f"},
		{Kind: api.Hard, Fid: 1<<24 + 1, At: 1<<24 + 2, Name: "g"},
		{Kind: api.Rename, At: 1<<24 + 2, Name: "g", To: 1, Name2: "h"},
		{Kind: api.Store, Fid: 1<<24 + 1, Data: "hi"},
		{Kind: api.Chmod, Fid: 1<<24 + 1, Mode: 65535},
		{Kind: api.Chmod, Fid: 1, Mode: 7},
		{Kind: api.Unlink, At: 1, Name: "h"},
		{Kind: api.Rmdir, At: 1, Name: "d"},
	}
	lines := "link 1\nmake 1 /f\nmkdir 1 /d\nsym 1 /s /f\nln 1 /f /d/g\nmv 1 /d/g /h\nput 1 /f hi\nmode 1 /f 65535\nmode 1 / 7\ndel 1 /h\nrmdir 1 /d"
	for _, line := range strings.Split(lines, "\n") {
		if got := answer(w, Words(line)); got != "ok" {
			t.Errorf("%s answers %s", line, got)
		}
	}
	if got := cml.Ops(w.Log(1)); !slices.Equal(got, want) {
		t.Errorf("the log has %v, want %v", got, want)
	}
}

func TestWhatOperationsSend(t *testing.T) { // P16.1: what each kind names comes to the server
	wantRun(t,
		"link 1;ok", "link 2;ok", "mkdir 1 /d;ok", "make 1 /d/f;ok", "put 1 /d/f one;ok", "ln 1 /d/f /g;ok", "sym 1 /s /d/f;ok", "log 1;5", "run 1;ok", "log 1;0",
		"tree;/d /d/f /g /s", "run 1;ok", "read 2 /d/f;\"one\"", "read 2 /g;\"one\"", "read 2 /s;\"one\"", "ls 2 /;d g s",
		"mv 2 /d/f /d/h;ok", "del 2 /g;ok", "log 2;2", "run 2;ok", "tree;/d /d/h /s", "read 1 /s;error 5", "put 1 /d/h two;ok", "run 2;ok", "read 2 /d/h;\"two\"",
		"del 2 /d/h;ok", "rmdir 2 /d;ok", "del 2 /s;ok", "run 1;ok", "tree;-", "run 1;ok", "ls 1 /;-",
	)
}

func TestLinks(t *testing.T) { // P16.1
	wantRun(t,
		"tick 1;error 11", "link 1;ok", "tick 1;ok", "net;1", "unlink 1;ok", "tick 1;error 11", "net;1",
		"link 1;ok", "tick 1;ok", "net;1", "tick 1;ok", "net;1", "tick 1;ok", "net;2", "unlink 1;ok", "read 1 /x;error 5", "ls 1 /;error 11", "link 1;ok", "ls 1 /;-", "unlink 1;ok", "ls 1 /;-",
	)
}

func TestPackets(t *testing.T) { // P16.1
	wantRun(t,
		"link 1;ok", "link 2;ok", "make 1 /a;ok", "make 2 /b;ok", "tick 1;ok", "tick 2;ok", "net;2",
		"part 2;ok", "send 1;error 11", "net;2", "double 1;ok", "double 0;ok", "net;4", "drop 1;ok", "net;3", "send 3;error 2",
		"send 0;ok", "tree;/a", "net;3", "log 1;1", "send 2;ok", "log 1;0", "net;2", "send 1;ok", "net;2", "tree;/a", "send 0;error 11",
		"heal 2;ok", "send 0;ok", "tree;/a /b", "send 0;ok", "log 2;1", "send 0;ok", "log 2;0", "net;0",
	)
}

func TestRunUpToWhatDoesNotCome(t *testing.T) { // P16.1: packets come from the first one on, as long as that has no error
	wantRun(t,
		"link 1;ok", "link 2;ok", "make 1 /a;ok", "make 2 /b;ok", "part 1;ok", "run 1;ok", "net;2", "tree;-", "log 2;1",
		"drop 0;ok", "run 1;ok", "tree;/b", "log 2;0", "log 1;1", "heal 1;ok", "run 3;ok", "tree;/a /b", "net;0",
		"part 2;ok", "make 1 /c;ok", "run 1;ok", "tree;/a /b /c", "net;2", "log 1;1",
	)
}

func TestRunOfR(t *testing.T) { // P16.1: R times, as if R lines asked for it once
	for _, times := range []int{2, 3, 7, 50} {
		for seed := range uint64(20) {
			w := newWriter(seed)
			ahead := "link 1\nlink 2\n" + w.script(80) + "\n"
			behind := "tree\nnet\nlog 1\nlog 2\nls 1 /\nls 2 /\nread 1 /a\ntick 1\ntick 2\nnet"
			one := Run(ahead + fmt.Sprint("run ", times, "\n") + behind)
			many := Run(ahead + strings.Repeat("run 1\n", times) + behind)
			begun := Run(ahead)
			if strings.TrimPrefix(one, begun+"ok\n") != strings.TrimPrefix(many, begun+strings.Repeat("ok\n", times)) {
				t.Fatalf("run %d of seed %d answers\n%s, and one by one\n%s", times, seed, one, many)
			}
		}
	}
}

func TestALinkThatNobodyAnswers(t *testing.T) { // P16.1, E1: it is given up behind 6 times
	lines := []string{"link 1;ok", "ls 1 /;-", "make 1 /a;ok", "part 1;ok"}
	for range 10 {
		lines = append(lines, "run 1;ok") // the time goes on by two
	}
	lines = append(lines, "net;5", "run 1;ok", "net;6", "tick 1;error 11", "read 1 /a;\"\"", "mkdir 1 /b;ok", "heal 1;ok", "run 1;ok", "tree;/a", "log 1;2", "link 1;ok", "run 4;ok", "tree;/a /b", "log 1;0")
	wantRun(t, lines...)
}

func TestCrash(t *testing.T) { // P16.1
	wantRun(t,
		"link 1;ok", "make 1 /a;ok", "crash 1;ok", "log 1;1", "ls 1 /;error 11", "read 1 /a;\"\"", "tick 1;error 11", "link 1;ok", "ls 1 /;a", "tick 1;ok", "send 0;ok", "crash 0;ok", "tree;/a",
		"crash 1;ok", "send 0;ok", "log 1;1", "link 1;ok", "run 1;ok", "log 1;0", "tree;/a",
	)
}

func TestHoard(t *testing.T) { // P16.1
	lines := []string{"link 1;ok", "link 2;ok", "mkdir 1 /d;ok"}
	for i := range 12 {
		lines = append(lines, fmt.Sprintf("make 1 /d/f%02d;ok", i))
	}
	lines = append(lines, "run 9;ok", "hoard 2 /d/f05 9;ok", "hoard 2 /d/f06;word", "hoard 2 /x 9;error 5")
	for i := range 12 {
		lines = append(lines, fmt.Sprintf("read 2 /d/f%02d;\"\"", i))
	}
	// 12 are at hand: /d/f00 went for /d, which came last.
	lines = append(lines, "ls 2 /d;f00 f01 f02 f03 f04 f05 f06 f07 f08 f09 f10 f11", "read 2 /;error 8", "unlink 2;ok", "read 2 /d/f05;\"\"", "read 2 /d/f00;error 11", "read 2 /d/f01;error 11", "read 2 /d/f02;\"\"")
	wantRun(t, lines...)
}

func TestBeginnings(t *testing.T) { // P16.2
	for seed := range uint64(40) {
		w := newWriter(1000 + seed)
		lines := strings.Split("link 1\nlink 2\n"+w.script(60), "\n")
		whole := Run(strings.Join(lines, "\n"))
		for i := range lines {
			if begun := Run(strings.Join(lines[:i], "\n")); !strings.HasPrefix(whole, begun) {
				t.Fatalf("the first %d lines of seed %d answer\n%s, all of them\n%s", i, seed, begun, whole)
			}
		}
	}
}

func TestLinesThatChangeNothing(t *testing.T) { // P16.3, E7
	asking := []string{"log 1", "log 2", "log 3", "tree", "net"}
	wrong := []string{"foo", "link 01", "run 51", "mv 1 /a", "make 256 /a", "tree 1"}
	refused := []string{"make 3 /a", "send 99999", "drop 24", "double 24", "part 3", "heal 0", "crash 3", "link 0", "tick 3", "read 0 /", "hoard 1 / 101", "make 1 a", "put 1 a b"}
	for seed := range uint64(60) {
		w := newWriter(2000 + seed)
		lines := strings.Split("link 1\nlink 2\n"+w.script(100), "\n")
		more := append(asking, append(wrong, refused...)...)
		var longer, marked []string
		for _, line := range lines {
			added := more[w.IntN(len(more))]
			longer = append(longer, added, line)
			marked = append(marked, added)
		}
		if got, want := without(t, longer, marked), Run(strings.Join(lines, "\n")); got != want {
			t.Fatalf("seed %d answers\n%s, without what changes nothing\n%s", seed, got, want)
		}
	}
}

// without are the answers of a script whose every second line was put in, but for the answers of those.
func without(t *testing.T, lines, added []string) string {
	t.Helper()
	answers := strings.Split(Run(strings.Join(lines, "\n")), "\n")
	kept := ""
	for i, line := range lines {
		if len(Words(line)) == 0 {
			continue
		}
		if i%2 == 1 {
			kept += answers[0] + "\n"
		} else if line != added[i/2] {
			t.Fatalf("%s is not what was put in", line)
		}
		answers = answers[1:]
	}
	return kept
}

func TestRunKeepsNothing(t *testing.T) { // P6, P1
	for seed := range uint64(20) {
		text := "link 1\nlink 2\n" + newWriter(3000+seed).script(150)
		if a, b := Run(text), Run(text); a != b {
			t.Errorf("seed %d answers\n%s, and once more\n%s", seed, a, b)
		}
	}
}

func TestRunOfAnyBytes(t *testing.T) { // P1
	for seed := range uint64(300) {
		w := newWriter(4000 + seed)
		b := []byte("link 1\n" + w.script(60))
		for range w.IntN(60) {
			b[w.IntN(len(b))] = byte(w.IntN(256))
		}
		text := string(b)
		if got, want := strings.Count(Run(text), "\n"), countWithWords(text); got != want {
			t.Fatalf("%q has %d answers, want %d", text, got, want)
		}
	}
}

// countWithWords is how many lines of a text have words.
func countWithWords(text string) int {
	count := 0
	for _, line := range strings.Split(text, "\n") {
		if strings.Trim(line, " ") != "" {
			count++
		}
	}
	return count
}
