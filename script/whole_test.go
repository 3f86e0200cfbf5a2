package script

import (
	"fmt"
	"strings"
	"testing"

	"backwater/api"
	"backwater/tree"
	"backwater/world"
)

func TestALogInTwoPieces(t *testing.T) { // E1, the whole's example 1
	wantRun(t,
		"link 2;ok", "ls 2 /;-", "unlink 2;ok",
		"make 2 /a;ok", "put 2 /a one;ok", "make 2 /b;ok", "put 2 /b two;ok", "mkdir 2 /d;ok", "make 2 /d/c;ok", "put 2 /d/c three;ok", "log 2;7", "tick 2;error 11", "tree;-",
		"link 2;ok", "tick 2;ok", "send 0;ok", "tree;/a /b /d /d/c", "log 2;7", "send 0;ok", "log 2;1", "net;0", "tick 2;ok", "send 0;ok", "send 0;ok", "log 2;0",
		"link 1;ok", "run 1;ok", "ls 1 /;a b d", "read 1 /a;\"one\"", "read 1 /b;\"two\"", "read 1 /d/c;\"three\"", "read 2 /d/c;\"three\"",
	)
}

func TestTwoWriteOneFile(t *testing.T) { // E1, E2, the whole's example 2
	lines := []string{
		"link 1;ok", "link 2;ok", "make 1 /f;ok", "put 1 /f old;ok", "run 2;ok", "read 1 /f;\"old\"", "read 2 /f;\"old\"", "unlink 1;ok", "unlink 2;ok",
		"put 1 /f one;ok", "put 2 /f two;ok", "read 1 /f;\"one\"", "read 2 /f;\"two\"",
		"link 2;ok", "run 1;ok", "log 2;0", "link 1;ok", "run 1;ok", "log 1;0", "read 1 /f;\"two\"", "run 1;ok", "read 2 /f;\"two\"",
	}
	wantRun(t, lines...)
	w := last(strings.Join(plain(lines), "\n"))
	aside := w.Refused(1)
	if len(aside) != 1 || aside[0].Err != api.ErrStale || aside[0].Record.Op.Data != "one" || len(w.Refused(2)) != 0 {
		t.Errorf("kept aside is %v", aside)
	}
}

// last is the world behind a script.
func last(text string) *world.World {
	behind := world.New(2)
	model(text, func(w *world.World) { behind = w })
	return behind
}

// home are lines that let nothing more be done, and packets come. The link is there twice, as a call that nobody answered
// takes the first one away.
const home = "\nheal 1\nheal 2\nlink 1\nlink 2\nrun 20\nlink 1\nlink 2\nrun 20"

func TestItComesHome(t *testing.T) { // E2, E5, E7
	done, refused := 0, 0
	for seed := range uint64(200) {
		text := "link 1\nlink 2\n" + newWriter(5000+seed).script(180) + home
		answers := Run(text + "\nlog 1\nlog 2\nnet")
		if !strings.HasSuffix(answers, "\n0\n0\n0\n") {
			t.Fatalf("seed %d did not come home:\n%s", seed, answers)
		}
		w := last(text)
		for client := uint8(1); client <= 2; client++ {
			if w.Applied(client) != w.Done(client) || !tree.Same(w.View(client), w.Tree()) {
				t.Fatalf("seed %d: of client %d %d were applied, %d are done", seed, client, w.Applied(client), w.Done(client))
			}
			done += int(w.Done(client))
			refused += len(w.Refused(client))
		}
	}
	if done < 500 || refused < 20 {
		t.Errorf("%d records were done, %d of them refused", done, refused)
	}
}

// busy are lines of a client that all can be done, with what is needed at hand.
var busy = []string{
	"mkdir 1 /a", "make 1 /a/f", "put 1 /a/f one", "put 1 /a/f two", "run 1", "make 1 /g", "mode 1 /g 7", "mv 1 /a/f /a/h", "ln 1 /a/h /i", "tick 1", "sym 1 /s /a", "put 1 /s/h three",
	"send 0", "make 1 /tmp", "del 1 /tmp", "send 0", "mkdir 1 /a/e", "rmdir 1 /a/e", "run 2", "put 1 /g four", "del 1 /i",
}

const busyEnd = "tree\nlog 1\nnet\nread 1 /a/h\nread 1 /g\nls 1 /s\nls 1 /"

func TestNothingIsLost(t *testing.T) { // E2, E4: whenever a client or the server loses its power, all that was answered is there
	want := "/a /a/h /g /s\n0\n0\n\"three\"\n\"four\"\nh\na g s\n"
	for _, bad := range []string{"", "crash 0", "crash 1\nlink 1", "crash 1\ncrash 0\nlink 1", "crash 2", "double 0", "drop 0", "double 0\ndouble 0\ncrash 0", "part 1\nrun 9\nheal 1\nlink 1"} {
		for i := range len(busy) + 1 {
			lines := append([]string{"link 1"}, busy[:i]...)
			text := strings.Join(append(append(lines, bad), busy[i:]...), "\n") + home + "\n"
			if got := Run(text + busyEnd); !strings.HasSuffix(got, "\nok\n"+want) {
				t.Errorf("%q behind line %d:\n%s", bad, i, got)
			}
		}
	}
}

func TestShorterIsTheSame(t *testing.T) { // E3: what is sent at once is made shorter, what is sent line by line is not
	shorter := 0
	for seed := range uint64(150) {
		w := newWriter(6000 + seed)
		once, each := "link 1", "link 1"
		for range 24 {
			line := w.operation()
			once += "\n" + line
			each += "\n" + line + "\nrun 1"
		}
		a, b := last(once+"\nrun 9"), last(each+"\nrun 9")
		if len(a.Log(1)) > 0 || len(a.Refused(1)) > 0 || !tree.Same(a.View(1), a.Tree()) || !tree.Same(a.Tree(), b.Tree()) {
			t.Fatalf("seed %d: %s:\n%v, line by line\n%v", seed, once, a.Tree(), b.Tree())
		}
		shorter += int(b.Done(1)) - int(a.Done(1))
	}
	if shorter < 100 {
		t.Errorf("only %d records were not needed", shorter)
	}
}

// operation is one of client 1, by chance.
func (w writer) operation() string {
	short := func() string { return w.of("/a", "/b", "/a/c", "/a/b", "/b/c") }
	switch w.IntN(8) {
	case 0, 1:
		return "make 1 " + short()
	case 2:
		return "mkdir 1 " + short()
	case 3:
		return w.of("del 1 ", "rmdir 1 ") + short()
	case 4, 5:
		return "put 1 " + short() + " " + w.of("one", "two", "three")
	case 6:
		return "mode 1 " + short() + " " + w.of("1", "2", "3")
	}
	return w.of("mv 1 ", "ln 1 ", "sym 1 ") + short() + " " + short()
}

func TestLimitsHold(t *testing.T) { // E6
	log := []string{"link 1;ok", "ls 1 /;-", "unlink 1;ok", "make 1 /f;ok"}
	for i := range api.MaxLog - 1 {
		log = append(log, fmt.Sprintf("put 1 /f %d;ok", i))
	}
	wantRun(t, append(log, "log 1;24", "put 1 /f x;error 4", "read 1 /f;\"22\"", "make 1 /g;error 4", "log 1;24", "link 1;ok", "run 1;ok", "log 1;0", "read 1 /f;\"22\"", "tree;/f")...)

	packets := []string{"link 1;ok", "tick 1;ok"}
	for range api.MaxPackets - 1 {
		packets = append(packets, "double 0;ok")
	}
	wantRun(t, append(packets, "net;24", "double 0;error 4", "net;24", "link 2;ok", "tick 2;ok", "net;24", "send 0;ok", "net;24", "send 23;ok", "net;23", "run 1;ok", "net;0")...)

	wide := []string{"link 1;ok"}
	for i := range api.MaxKids {
		wide = append(wide, fmt.Sprintf("mkdir 1 /d%02d;ok", i))
	}
	wide = append(wide, "mkdir 1 /x;error 4", "run 9;ok")
	for i := range api.MaxNodes - 1 - api.MaxKids {
		wide = append(wide, fmt.Sprintf("make 1 /d%02d/f%02d;ok", i/12, i))
		if i%6 == 5 {
			wide = append(wide, "run 9;ok")
		}
	}
	wantRun(t, append(wide, "make 1 /d11/x;error 4", "run 9;ok", "log 1;0", "del 1 /d00/f00;ok", "make 1 /d11/x;ok", "ls 1 /d11;x")...)
}

func TestWhatIsRefusedChangesNothing(t *testing.T) { // E7
	wantRun(t,
		"link 1;ok", "link 2;ok", "mkdir 1 /d;ok", "make 1 /d/f;ok", "put 1 /d/f one;ok", "run 2;ok", "ls 2 /d;f", "read 2 /d/f;\"one\"", "ls 2 /;d", "unlink 2;ok", "log 1;0",
		"rmdir 1 /d;error 9", "del 1 /d;error 8", "mv 1 /d /d/e;error 10", "make 1 /d/f;error 6", "put 1 /d x;error 8", "put 1 /x x;error 5", "log 1;0", "tree;/d /d/f", "net;0",
		// What client 2 does is refused at the server, as client 1 was ahead of it.
		"put 2 /d/f two;ok", "make 2 /d/g;ok", "del 1 /d/f;ok", "rmdir 1 /d;ok", "make 1 /x;ok", "run 1;ok", "tree;/x", "link 2;ok", "log 2;2", "run 1;ok", "log 2;0", "tree;/x", "ls 2 /;x", "read 2 /d/f;error 5",
	)
}
