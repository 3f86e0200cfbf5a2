package alike

import (
	"backwater/api"
	"backwater/record"
)

// WriteNumber writes a number behind b, the highest byte first.
func WriteNumber(b []byte, n uint32) []byte {
	return append(b, byte(n>>24), byte(n>>16), byte(n>>8), byte(n))
}

// WriteVerdicts writes behind b how many verdicts there are, and each of them; their operations are right.
func WriteVerdicts(b []byte, l []api.Verdict) []byte {
	b = append(b, byte(len(l)))
	for _, v := range l {
		b = writeVerdict(b, v)
	}
	return b
}

// writeVerdict writes a verdict behind b.
func writeVerdict(b []byte, v api.Verdict) []byte {
	alone, _ := record.Records([]api.Record{v.Record})
	b = WriteNumber(append(b, v.Client), v.Number)
	return append(append(b, byte(v.Err)), alone...)
}
