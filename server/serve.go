package server

import (
	"backwater/alike"
	"backwater/api"
	"backwater/record"
)

// shipment is what a body asks to be shipped.
type shipment struct {
	first   uint32
	records []api.Record
}

// Serve is the answer to a request's body.
func (s *Server) Serve(client uint8, body string) string {
	if s == nil {
		return ""
	}
	if body == alike.Fetch {
		return alike.Fetched + s.report(client)
	}
	asked, ok := alike.Read([]byte(body), takeShipment)
	if !ok {
		return refusal(api.ErrForm)
	}
	errs, err := s.Ship(client, asked.first, asked.records)
	if err != api.OK {
		return refusal(err)
	}
	return alike.Shipped + told(errs) + s.report(client)
}

// takeShipment takes off what a body asks to be shipped; it gives up, if that asks for something else.
func takeShipment(r *alike.Reader) shipment {
	r.GiveUpIf(r.Mark() != alike.Ship)
	return shipment{first: r.Number(), records: r.Records()}
}

// report is how far a client is, and the snapshot.
func (s *Server) report(client uint8) string {
	// A state's snapshot is right, so that its bytes have no error.
	snapshot, _ := record.Snapshot(s.snapshot)
	return string(append(alike.WriteNumber(nil, s.Applied(client)), snapshot...))
}

// told are errors as bytes.
func told(errs []api.Errno) string {
	b := []byte{byte(len(errs))}
	for _, err := range errs {
		b = append(b, byte(err))
	}
	return string(b)
}

// refusal is the answer to what is not done.
func refusal(err api.Errno) string {
	return alike.Refused + string([]byte{byte(err)})
}
