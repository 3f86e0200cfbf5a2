package server

import (
	"strings"

	"backwater/api"
	"backwater/record"
)

// The first byte of a body tells what it is.
const (
	fetchMark   = "F"
	fetchedMark = "f"
	shipMark    = "S"
	shippedMark = "s"
	errorMark   = "e"
)

// shipment is what a body asks to be shipped.
type shipment struct {
	first   uint32
	records []api.Record
}

// Serve is the answer to a request's body.
func (s *Server) Serve(client uint8, body string) string {
	if s == nil {
		return ""
	}
	if body == fetchMark {
		return fetchedMark + s.report(client)
	}
	asked, ok := read(body, takeShipment)
	if !ok {
		return refusal(api.ErrForm)
	}
	errs, err := s.Ship(client, asked.first, asked.records)
	if err != api.OK {
		return refusal(err)
	}
	return shippedMark + told(errs) + s.report(client)
}

// takeShipment is what a body asks to be shipped; it gives up, if it asks for something else.
func takeShipment(body string) shipment {
	text, ok := strings.CutPrefix(body, shipMark)
	giveUpIf(!ok)
	r := &reader{rest: []byte(text)}
	first := r.number()
	l, err := record.ReadRecords(r.rest)
	giveUpIf(err != api.OK)
	return shipment{first: first, records: l}
}

// report is how far a client is, and the snapshot.
func (s *Server) report(client uint8) string {
	// A state's snapshot is right, so that its bytes have no error.
	snapshot, _ := record.Snapshot(s.snapshot)
	return string(append(writeNumber(nil, s.Applied(client)), snapshot...))
}

// told are errors as bytes.
func told(errs []api.Errno) string {
	b := []byte{byte(len(errs))}
	for _, err := range errs {
		b = append(b, byte(err))
	}
	return string(b)
}

// refusal is the answer to what is not done.
func refusal(err api.Errno) string {
	return errorMark + string([]byte{byte(err)})
}
