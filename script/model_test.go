package script

import (
	"math/rand/v2"
	"regexp"
	"strconv"
	"strings"
	"testing"

	"backwater/api"
	"backwater/tell"
	"backwater/world"
)

// rule is a line of the document's table: what it looks like (its words with one blank between), and what it answers.
type rule struct {
	form *regexp.Regexp
	most []int // of the numbers among its words
	do   func(w *world.World, l []string, n []int) string
}

// numbers stand in rules as N, words as W.
func ruleOf(form string, most []int, do func(w *world.World, l []string, n []int) string) rule {
	form = strings.ReplaceAll(form, "N", "(0|[1-9][0-9]{0,4})")
	form = strings.ReplaceAll(form, "W", "[^ ]+")
	return rule{regexp.MustCompile(`\A(?s:` + form + `)\z`), most, do}
}

// said is an error as an answer, or what is answered without one.
func said(err api.Errno, answer string) string {
	if err == api.OK {
		return answer
	}
	return "error " + strconv.Itoa(int(err))
}

// row are texts with a blank between, or - .
func row(l []string) string {
	if len(l) == 0 {
		return "-"
	}
	return strings.Join(l, " ")
}

// doing is a rule of an operation: of the words behind the path the other path, the mode and the data.
func doing(verb, behind string, most []int, k api.OpKind, rest func(l []string, n []int) (string, uint16, string)) rule {
	return ruleOf(verb+" N W"+behind, most, func(w *world.World, l []string, n []int) string {
		other, mode, data := rest(l, n)
		return said(w.Do(uint8(n[0]), k, l[2], other, mode, data), "ok")
	})
}

// rules are the document's table.
func rules() []rule {
	none := func(l []string, n []int) (string, uint16, string) { return "", 0, "" }
	other := func(l []string, n []int) (string, uint16, string) { return l[3], 0, "" }
	data := func(l []string, n []int) (string, uint16, string) { return "", 0, l[3] }
	mode := func(l []string, n []int) (string, uint16, string) { return "", uint16(n[1]), "" }
	node := []int{255}
	packet := []int{99999}
	all := []rule{
		doing("make", "", node, api.Create, none),
		doing("mkdir", "", node, api.Mkdir, none),
		doing("del", "", node, api.Unlink, none),
		doing("rmdir", "", node, api.Rmdir, none),
		doing("ln", " W", node, api.Hard, other),
		doing("mv", " W", node, api.Rename, other),
		doing("sym", " W", node, api.Symlink, data),
		doing("put", " W", node, api.Store, data),
		doing("mode", " N", []int{255, 65535}, api.Chmod, mode),
		ruleOf("read N W", node, func(w *world.World, l []string, n []int) string {
			s, err := w.Read(uint8(n[0]), l[2])
			return said(err, tell.Quote(s))
		}),
		ruleOf("ls N W", node, func(w *world.World, l []string, n []int) string {
			names, err := w.List(uint8(n[0]), l[2])
			return said(err, row(names))
		}),
		ruleOf("hoard N W N", []int{255, 99999}, func(w *world.World, l []string, n []int) string {
			return said(w.Hoard(uint8(n[0]), l[2], n[1]), "ok")
		}),
		ruleOf("run N", []int{50}, func(w *world.World, l []string, n []int) string {
			if n[0] == 0 {
				return "word"
			}
			for range n[0] {
				w.Tick(1)
				w.Tick(2)
				for len(w.Packets()) > 0 {
					if w.Deliver(0) != api.OK {
						break
					}
				}
			}
			return "ok"
		}),
		ruleOf("log N", node, func(w *world.World, l []string, n []int) string { return strconv.Itoa(len(w.Log(uint8(n[0])))) }),
		ruleOf("tree", nil, func(w *world.World, l []string, n []int) string { return row(tell.Paths(w.Tree())) }),
		ruleOf("net", nil, func(w *world.World, l []string, n []int) string { return strconv.Itoa(len(w.Packets())) }),
	}
	for verb, do := range map[string]func(w *world.World, n int) api.Errno{
		"link":   func(w *world.World, n int) api.Errno { return w.Link(uint8(n), true) },
		"unlink": func(w *world.World, n int) api.Errno { return w.Link(uint8(n), false) },
		"part":   func(w *world.World, n int) api.Errno { return w.Part(uint8(n), true) },
		"heal":   func(w *world.World, n int) api.Errno { return w.Part(uint8(n), false) },
		"tick":   func(w *world.World, n int) api.Errno { return w.Tick(uint8(n)) },
		"crash":  func(w *world.World, n int) api.Errno { return w.Crash(uint8(n)) },
		"send":   func(w *world.World, n int) api.Errno { return w.Deliver(n) },
		"drop":   func(w *world.World, n int) api.Errno { return w.Drop(n) },
		"double": func(w *world.World, n int) api.Errno { return w.Double(n) },
	} {
		most := node
		if verb == "send" || verb == "drop" || verb == "double" {
			most = packet
		}
		all = append(all, ruleOf(verb+" N", most, func(w *world.World, l []string, n []int) string { return said(do(w, n[0]), "ok") }))
	}
	return all
}

// model is what a script answers, told by the document's table. The world is looked at behind each line.
func model(text string, look func(w *world.World)) string {
	if len(text) > 8192 {
		return "long\n"
	}
	answers := ""
	w := world.New(2)
	table := rules()
	for _, line := range strings.Split(text, "\n") {
		l := strings.FieldsFunc(line, func(r rune) bool { return r == ' ' })
		if len(l) == 0 {
			continue
		}
		answers += modelLine(w, table, l) + "\n"
		look(w)
	}
	return answers
}

// modelLine is what a line of words answers.
func modelLine(w *world.World, table []rule, l []string) string {
	for _, r := range table {
		found := r.form.FindStringSubmatch(strings.Join(l, " "))
		if found == nil {
			continue
		}
		var n []int
		for i, digits := range found[1:] {
			number, err := strconv.Atoi(digits)
			if err != nil || number > r.most[i] {
				return "word"
			}
			n = append(n, number)
		}
		return r.do(w, l, n)
	}
	return "word"
}

// writer writes scripts by chance.
type writer struct {
	*rand.Rand
}

func newWriter(seed uint64) writer {
	return writer{rand.New(rand.NewPCG(16, seed))}
}

// of is one of several, by chance.
func (w writer) of(l ...string) string {
	return l[w.IntN(len(l))]
}

// path is one by chance, now and then a wrong one.
func (w writer) path() string {
	if w.IntN(30) == 0 {
		return w.of("/", "a", "/A", "/..", "//a/", "/a/../b", "/"+strings.Repeat("n", 13), strings.Repeat("/a", 61), "\xff")
	}
	s := "/" + w.of("a", "b", "c", "s")
	for w.IntN(3) == 0 {
		s += "/" + w.of("a", "b", "c", "s")
	}
	return s
}

// line is a line by chance.
func (w writer) line() string {
	client := w.of("1", "1", "1", "2", "2", "2", "2", "3")
	packet := w.of("0", "0", "0", "1", "2", "5", "24")
	switch w.IntN(16) {
	case 0, 1, 2:
		return w.of("make ", "mkdir ", "del ", "rmdir ", "make ", "mkdir ") + client + " " + w.path()
	case 3, 4:
		return w.of("ln ", "mv ", "mv ") + client + " " + w.path() + " " + w.path()
	case 5:
		return w.of("sym ", "put ") + client + " " + w.path() + " " + w.of("/a", "/b/c", "hi", "\"\\\x00\xff", strings.Repeat("x", 64), strings.Repeat("x", 65))
	case 6:
		return "put " + client + " " + w.path() + " " + w.of("one", "two", "three")
	case 7:
		return "mode " + client + " " + w.path() + " " + w.of("0", "7", "65535", "65536", "07")
	case 8:
		return w.of("read ", "ls ") + client + " " + w.path()
	case 9:
		return "hoard " + client + " " + w.path() + " " + w.of("0", "5", "100", "101", "99999", "100000")
	case 10:
		return w.of("link ", "link ", "link ", "unlink ", "heal ", "part ") + client
	case 11:
		return w.of("tick ", "tick ", "log ") + client
	case 12:
		return w.of("send ", "send ", "send ", "drop ", "double ") + packet
	case 13:
		return "crash " + w.of("0", "1", "2", "3", "255")
	case 14:
		return w.of("run 1", "run 2", "run 50", "tree", "net")
	}
	return w.wrong()
}

// wrong is a line that may not be, or has blanks in odd places.
func (w writer) wrong() string {
	return w.of("", " ", "  tree  ", "net ", " link   1 ", "foo", "Link 1", "link", "link 1 2", "link 256", "link 01", "link +1", "link -1", "link x", "link 1\t", "\tlink 1", "link\t1",
		"tree 1", "net 0", "run", "run 0", "run 51", "run 01", "run 1 1", "send", "send 100000", "send -1", "send 1 1", "crash 256", "log", "log 300", "read 1", "read 1 /a /b", "ls 1",
		"mv 1 /a", "mv 1 /a /b /c", "put 1 /a", "put 1 /a b c", "mode 1 /a", "mode 1 /a x", "hoard 1 /a", "hoard 1 /a -1", "make 1", "make /a 1", "make 1 /a 0", "\xff", "tree\r", "ok", "word", "error 3", "long")
}

// script is one of so many lines.
func (w writer) script(lines int) string {
	var all []string
	for range lines {
		all = append(all, w.line())
	}
	return strings.Join(all, "\n")
}

func TestRunIsWhatTheTableSays(t *testing.T) { // P16.1, E1, E6
	seen := map[string]int{}
	for seed := range uint64(300) {
		w := newWriter(seed)
		text := w.of("", "link 1\n", "link 1\nlink 2\n", "link 1\ntick 1\n"+strings.Repeat("double 0\n", 24)) + w.script(w.IntN(250))
		if len(text) > api.MaxScript {
			t.Fatalf("a script of %d bytes", len(text))
		}
		want := model(text, func(w *world.World) { wantLimits(t, w) })
		if got := Run(text); got != want {
			t.Fatalf("Run(%q) =\n%s, want\n%s", text, got, want)
		}
		for _, answer := range strings.Split(want, "\n") {
			seen[answer]++
		}
	}
	for _, answer := range []string{"ok", "word", "-", "error 2", "error 3", "error 4", "error 5", "error 6", "error 7", "error 8", "error 9", "error 10", "error 11", "error 14", "0", "1", "2", "\"one\""} {
		if seen[answer] == 0 {
			t.Errorf("no line answers %s", answer)
		}
	}
}

// wantLimits asks that all limits hold in a world of two clients.
func wantLimits(t *testing.T, w *world.World) {
	t.Helper()
	if n := len(w.Packets()); n > api.MaxPackets {
		t.Errorf("%d packets are under way", n)
	}
	if n := len(w.Tree()); n < 1 || n > api.MaxNodes {
		t.Errorf("the server has %d nodes", n)
	}
	for client := uint8(1); client <= 2; client++ {
		if n := len(w.Log(client)); n > api.MaxLog {
			t.Errorf("the log of client %d has %d records", client, n)
		}
		if n := len(w.View(client)); n < 1 || n > api.MaxNodes {
			t.Errorf("client %d sees %d nodes", client, n)
		}
	}
}
