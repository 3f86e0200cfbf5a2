// Package path is paths. See ../../shared/doc/02-path.md.
package path

import (
	"strings"

	"backwater/api"
)

// Name tells whether a text may be a name.
func Name(s string) bool {
	if len(s) < 1 || len(s) > api.MaxName || s == "." || s == ".." {
		return false
	}
	for _, r := range s {
		if !inName(r) {
			return false
		}
	}
	return true
}

// inName tells whether a rune may stand in a name.
func inName(r rune) bool {
	return 'a' <= r && r <= 'z' || '0' <= r && r <= '9' || r == '.' || r == '-' || r == '_'
}

// Split cuts a path's text into the names that it says.
func Split(s string) ([]string, api.Errno) {
	if len(s) > api.MaxPath || !strings.HasPrefix(s, "/") {
		return nil, api.ErrForm
	}
	var names []string
	for _, piece := range pieces(s) {
		switch {
		case piece == "" || piece == ".":
		case piece == "..":
			names = names[:max(len(names)-1, 0)]
		case Name(piece):
			// A copy, so that the answer does not hold on to the text that was handed in.
			names = append(names, strings.Clone(piece))
		default:
			return nil, api.ErrForm
		}
	}
	return names, api.OK
}

// pieces are what stands between the / of a text, ahead of the first one and behind the last one.
func pieces(s string) []string {
	var found []string
	start := 0
	for i, r := range s {
		if r == '/' {
			found = append(found, s[start:i])
			start = i + 1
		}
	}
	return append(found, s[start:])
}

// Join puts names together to a path's text.
func Join(l ...string) (string, api.Errno) {
	if len(l) == 0 {
		return "/", api.OK
	}
	text := ""
	for _, name := range l {
		// Asked name by name, so that a list without end costs no more than a path.
		if !Name(name) || len(text)+1+len(name) > api.MaxPath {
			return "", api.ErrForm
		}
		text += "/" + name
	}
	return text, api.OK
}

// Clean is a path's text in its own form.
func Clean(s string) (string, api.Errno) {
	names, err := Split(s)
	if err != api.OK {
		return "", err
	}
	return Join(names...)
}

// Dir is the path of what stands ahead of the last name.
func Dir(s string) (string, api.Errno) {
	names, err := someNames(s)
	if err != api.OK {
		return "", err
	}
	return Join(names[:len(names)-1]...)
}

// Base is the last name.
func Base(s string) (string, api.Errno) {
	names, err := someNames(s)
	if err != api.OK {
		return "", err
	}
	return names[len(names)-1], api.OK
}

// someNames is Split of a path's text that says at least one name.
func someNames(s string) ([]string, api.Errno) {
	names, err := Split(s)
	if err != api.OK {
		return nil, err
	}
	if len(names) == 0 {
		return nil, api.ErrForm
	}
	return names, api.OK
}

// Below tells whether a path lies below another one.
func Below(s, above string) bool {
	names, err := Split(s)
	if err != api.OK {
		return false
	}
	front, err := Split(above)
	if err != api.OK || len(names) <= len(front) {
		return false
	}
	return Same(names[:len(front)], front)
}

// Same tells whether names are the same, one by one.
func Same(a, b []string) bool {
	if len(a) != len(b) {
		return false
	}
	for i, name := range a {
		if name != b[i] {
			return false
		}
	}
	return true
}
