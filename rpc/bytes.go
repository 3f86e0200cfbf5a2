package rpc

import "backwater/api"

// Where the parts of what was taken from a client begin in its bytes.
const (
	epochAt  = 1 // behind the step
	numberAt = 5
	lengthAt = 9 // of the answer's body; what was not answered ends here
	bodyAt   = 11
)

// Bytes are what a callee knows.
func (c *Callee) Bytes() []byte {
	if c == nil {
		return nil
	}
	var b []byte
	for i := range c.last {
		b = c.last[i].write(b)
	}
	return b
}

// write writes what was taken from a client behind b.
func (t *taken) write(b []byte) []byte {
	b = append(b, byte(t.step))
	if t.step == silent {
		return b
	}
	b = writeNumber(b, t.epoch, numberAt-epochAt)
	b = writeNumber(b, t.number, lengthAt-numberAt)
	if t.step == asked {
		return b
	}
	b = writeNumber(b, uint32(len(t.body)), bodyAt-lengthAt)
	return append(b, t.body...)
}

// LoadCallee is one that knows what bytes say.
func LoadCallee(b []byte) (*Callee, api.Errno) {
	c := NewCallee()
	for i := range c.last {
		t, size, ok := readTaken(b)
		if !ok {
			return nil, api.ErrForm
		}
		c.last[i] = t
		b = b[size:]
	}
	if len(b) > 0 {
		return nil, api.ErrForm
	}
	return c, api.OK
}

// readTaken is what b begins with, and how many bytes that is.
func readTaken(b []byte) (t taken, size int, ok bool) {
	if len(b) == 0 {
		goto wrong
	}
	t.step = step(b[0])
	switch t.step {
	case silent:
		return t, epochAt, true
	case asked:
		size = lengthAt
	case answered:
		if len(b) < bodyAt {
			goto wrong
		}
		size = bodyAt + int(readNumber(b[lengthAt:bodyAt]))
	default:
		goto wrong
	}
	if len(b) < size {
		goto wrong
	}
	t.epoch, t.number = readNumber(b[epochAt:numberAt]), readNumber(b[numberAt:lengthAt])
	if t.step == answered {
		t.body = string(b[bodyAt:size])
	}
	// No call has the number 0, and no answer a longer body.
	if t.number > 0 && len(t.body) <= api.MaxBody {
		return t, size, true
	}
wrong:
	return taken{}, 0, false
}

// writeNumber writes n as size bytes behind b, the highest one first.
func writeNumber(b []byte, n uint32, size int) []byte {
	for i := range size {
		b = append(b, byte(n>>(8*(size-1-i))))
	}
	return b
}

// readNumber is the number that all of b stands for, the highest byte first.
func readNumber(b []byte) uint32 {
	var n uint32
	for _, x := range b {
		n = n<<8 | uint32(x)
	}
	return n
}
