package server

import (
	"bytes"
	"testing"

	"backwater/api"
)

// wantServe asks for the answer to a body.
func wantServe(t *testing.T, s *Server, client uint8, body, want string) {
	t.Helper()
	if got := s.Serve(client, body); got != want {
		t.Errorf("Serve(%d, %q) answers %q, want %q", client, body, got, want)
	}
}

// wantRefused asks that a body is answered by an error, and that nothing changes.
func wantRefused(t *testing.T, s *Server, client uint8, body string, want api.Errno) {
	t.Helper()
	ahead := s.Fork()
	wantServe(t, s, client, body, "e"+string(rune(want)))
	wantSame(t, s, ahead)
}

// shownBy is the snapshot of a server as bytes.
func shownBy(t *testing.T, s *Server) string {
	t.Helper()
	return string(snapshotBytes(t, s.Snapshot()))
}

func TestFetch(t *testing.T) { // P12.4
	s := opened(t)
	const first = "\x01\x00\x0b\x00\x00\x00\x01\x02\x00\x00\x00\x00\x00\x00\x01\x00\x00\x00\x01\x00\x00\x00\x00\x00\x00\x00\x01\x00"
	wantServe(t, s, 1, "F", "f\x00\x00\x00\x00"+first)
	wantShip(t, s, 2, 1, []api.Record{mkdir(9, "d"), unlink("no")}, api.OK, api.ErrNoent)
	ahead := s.Fork()
	for client, done := range map[uint8]string{0: "\x00", 1: "\x00", 2: "\x02", 3: "\x00", 4: "\x00", 255: "\x00"} {
		wantServe(t, s, client, "F", "f\x00\x00\x00"+done+shownBy(t, s))
	}
	wantSame(t, s, ahead)
	s = Open(holding(t, [][]byte{rootBytes(t), []byte(numbers(1, 0x01020304, 0, 0) + "\x00")}))
	wantServe(t, s, 1, "F", "f\x01\x02\x03\x04"+first)
}

func TestServeOfRecords(t *testing.T) { // P12.4
	s := opened(t)
	l := []api.Record{mkdir(9, "d"), unlink("no"), create(10, 9, "f"), create(10, 9, "g")}
	like := s.Fork()
	wantShip(t, like, 3, 1, l, api.OK, api.ErrNoent, api.OK, api.ErrExist)
	body := "S\x00\x00\x00\x01" + bytesOf(t, l)
	want := "s\x04\x00\x05\x00\x06\x00\x00\x00\x04" + shownBy(t, like)
	wantServe(t, s, 3, body, want)
	wantSame(t, s, like)
	wantServe(t, s, 3, body, want) // once more it is the same
	wantSame(t, s, like)
	wantSame(t, Open(s.Disk()), like)
	wantServe(t, s, 3, "S\x00\x00\x00\x05\x00", "s\x00\x00\x00\x00\x04"+shownBy(t, like)) // no records are records
	wantShip(t, like, 3, 5, []api.Record{chmod(9, 1, 2)}, api.OK)
	wantServe(t, s, 3, "S\x00\x00\x00\x04"+bytesOf(t, []api.Record{l[0], chmod(9, 1, 2)}), "s\x02\x06\x00\x00\x00\x00\x05"+shownBy(t, like))
}

func TestServeOfErrors(t *testing.T) { // P12.4
	s := opened(t)
	good := bytesOf(t, records(2))
	for _, client := range []uint8{0, 4, 255} {
		wantRefused(t, s, client, "S\x00\x00\x00\x01"+good, api.ErrRange)
	}
	wantRefused(t, s, 1, "S\x00\x00\x00\x00"+good, api.ErrRange)
	wantRefused(t, s, 1, "S\x00\x00\x00\x02"+good, api.ErrRange)
	wantRefused(t, s, 1, "S\x01\x00\x00\x00"+good, api.ErrRange) // the highest byte stands first
	wantRefused(t, s, 1, "S\xff\xff\xff\xff"+good, api.ErrRange)
	wantRefused(t, s, 1, "S\x00\x00\x00\x01"+bytesOf(t, records(7)), api.ErrForm)
	wantRefused(t, s, 1, "S\x00\x00\x00\x00"+bytesOf(t, records(7)), api.ErrRange)
	wantRefused(t, s, 0, "S\x00\x00\x00\x00"+good+"\x00", api.ErrForm) // that is no body of this kind
}

func TestServeOfTheWrong(t *testing.T) { // P12.4
	s := opened(t)
	good := "S\x00\x00\x00\x01" + bytesOf(t, records(2))
	for size := range len(good) {
		wantRefused(t, s, 1, good[:size], api.ErrForm)
	}
	for _, body := range []string{
		"", "Q", "f", "s", "e", "FF", "F\x00", "F ", " F", "S", "SS", "\xff", "\x00",
		good + "\x00", good + "S", "s" + good[1:], "F" + good, "F" + good[1:],
		"S\x00\x00\x00\x01\x01" + string(bytes.Repeat([]byte{0}, 40)),
	} {
		wantRefused(t, s, 1, body, api.ErrForm)
		wantRefused(t, s, 0, body, api.ErrForm)
	}
}
