package script

import (
	"strconv"
	"strings"

	"backwater/api"
	"backwater/tell"
	"backwater/world"
)

// carryOut does in a world what an order asks for, and answers what that has to tell.
func carryOut(w *world.World, o order) string {
	switch o.verb {
	case "read":
		data, err := w.Read(o.node, o.path)
		return unless(err, tell.Quote(data))
	case "ls":
		names, err := w.List(o.node, o.path)
		return unless(err, listed(names))
	case "log":
		return strconv.Itoa(len(w.Log(o.node)))
	case "tree":
		return listed(tell.Paths(w.Tree()))
	case "net":
		return strconv.Itoa(len(w.Packets()))
	}
	return unless(step(w, o), done)
}

// unless is an answer, or, in its place, the error that there is.
func unless(err api.Errno, answer string) string {
	if err != api.OK {
		return ofAnError + strconv.Itoa(int(err))
	}
	return answer
}

// listed are texts as one.
func listed(l []string) string {
	if len(l) == 0 {
		return nothing
	}
	return strings.Join(l, string(blank))
}

// step lets happen in a world what an order asks for that has nothing to tell but an error.
func step(w *world.World, o order) api.Errno {
	linked, off := true, true
	switch o.verb {
	case "unlink":
		linked = false
		fallthrough
	case "link":
		return w.Link(o.node, linked)
	case "heal":
		off = false
		fallthrough
	case "part":
		return w.Part(o.node, off)
	case "hoard":
		return w.Hoard(o.node, o.path, o.number)
	case "tick":
		return w.Tick(o.node)
	case "send":
		return w.Deliver(o.number)
	case "drop":
		return w.Drop(o.number)
	case "double":
		return w.Double(o.number)
	case "crash":
		return w.Crash(o.node)
	case "run":
		return runOn(w, o.number)
	}
	// Of the last word an operation takes what its kind names: another path, or data.
	return w.Do(o.node, kindOf(o.verb), o.path, o.other, uint16(o.number), o.other)
}

// kindOf is the kind of the operation that a verb asks for.
func kindOf(verb string) api.OpKind {
	switch verb {
	case "make":
		return api.Create
	case "mkdir":
		return api.Mkdir
	case "sym":
		return api.Symlink
	case "ln":
		return api.Hard
	case "del":
		return api.Unlink
	case "rmdir":
		return api.Rmdir
	case "mv":
		return api.Rename
	case "put":
		return api.Store
	case "mode":
		return api.Chmod
	}
	return api.NoOp
}

// runOn lets the clients ask, and packets come as far as they can, so many times. Whatever error there is is of no matter.
func runOn(w *world.World, times int) api.Errno {
	for range times {
		for i := range clients {
			w.Tick(uint8(i + 1))
		}
		for len(w.Packets()) > 0 && w.Deliver(0) == api.OK {
		}
	}
	return api.OK
}
