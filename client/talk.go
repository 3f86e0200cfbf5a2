package client

import (
	"math"

	"backwater/alike"
	"backwater/api"
	"backwater/cml"
	"backwater/record"
)

// answer is what the server answers.
type answer struct {
	shipped bool        // to records, and not to a bare question
	errs    []api.Errno // of the records
	base    api.Snapshot
}

// Request is what the client asks next.
func (c *Client) Request() (string, api.Errno) {
	switch {
	case c == nil:
		return "", api.ErrNil
	case !c.linked:
		return "", api.ErrTimeout
	case c.done == math.MaxUint32 && len(cml.Optimise(c.log)) > 0:
		// The next record's number has no room in a body.
		return "", api.ErrRange
	}
	if err := c.prepare(); err != api.OK {
		return "", err
	}
	if len(c.log) == 0 {
		return alike.Fetch, api.OK
	}
	// A log's operations are right, so that their bytes have no error.
	frozen, _ := record.Records(cml.Cut(c.log, c.frozen))
	return alike.Ship + string(append(alike.WriteNumber(nil, c.done+1), frozen...)), api.OK
}

// prepare sees to it that records are frozen, as long as there are any: what is sent once more is the same then.
func (c *Client) prepare() api.Errno {
	if c.frozen > 0 || len(c.log) == 0 {
		return api.OK
	}
	return c.enter(func(next *state) { next.freeze() }, c.keep)
}

// Take takes what is answered.
func (c *Client) Take(body string) api.Errno {
	if c == nil {
		return api.ErrNil
	}
	a, ok := alike.Read([]byte(body), takeAnswer)
	switch {
	case !ok || !c.awaits(a):
		return api.ErrForm
	case uint64(c.done)+uint64(len(a.errs)) > math.MaxUint32:
		// So many have no room where they are kept.
		return api.ErrRange
	}
	if err := c.enter(func(next *state) { next.hear(c.number, a) }, c.keep); err != api.OK {
		return err
	}
	c.markClean(c.log)
	return api.OK
}

// takeAnswer takes off what the server answers; it gives up, if that is something else.
func takeAnswer(r *alike.Reader) answer {
	var a answer
	switch r.Mark() {
	case alike.Shipped:
		a.shipped = true
		for range r.Byte() {
			a.errs = append(a.errs, r.Err())
		}
	case alike.Fetched:
	default:
		r.GiveUpIf(true)
	}
	r.Number() // how many were done, which the client counts itself
	a.base = r.Snapshot()
	return a
}

// awaits tells whether an answer is one to what the client asks now.
func (c *Client) awaits(a answer) bool {
	if a.shipped {
		return c.frozen > 0 && len(a.errs) == c.frozen
	}
	return len(c.log) == 0
}
