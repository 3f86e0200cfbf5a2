// Package bits is numbers cut into others. See ../../shared/doc/01-bits.md.
package bits

import "backwater/api"

const (
	numberBits = 24
	maxNumber  = 1<<numberBits - 1
	foldStart  = 2166136261
	foldFactor = 16777619
)

// Zig makes a small number of one of small amount, whatever its sign.
func Zig(n int64) uint64 {
	// n>>63 is all ones below 0, so that -2n-1 comes out without going beyond 64 bits.
	return uint64(n)<<1 ^ uint64(n>>63)
}

// Zag is the number whose Zig u is.
func Zag(u uint64) int64 {
	return int64(u>>1) ^ -int64(u&1)
}

// Pack puts two numbers into one.
func Pack(hi, lo uint32) uint64 {
	return whole([2]uint32{hi, lo})
}

// Unpack takes out what Pack put in.
func Unpack(u uint64) (hi, lo uint32) {
	h := halves(u)
	return h[0], h[1]
}

// whole is the number of two halves, the upper one first.
func whole(h [2]uint32) uint64 {
	var u uint64
	for i := range len(h) {
		u = u<<32 | uint64(h[i])
	}
	return u
}

// halves are the two halves of a number, the upper one first.
func halves(u uint64) [2]uint32 {
	var h [2]uint32
	for i := range len(h) {
		h[len(h)-1-i] = uint32(u >> (32 * i))
	}
	return h
}

// Make is the fid of a client's number.
func Make(client uint8, number uint32) (api.Fid, api.Errno) {
	if client > api.MaxClients || number < 1 || number > maxNumber {
		return 0, api.ErrRange
	}
	return api.Fid(uint32(client)<<numberBits | number), api.OK
}

// Who is the client that made a fid.
func Who(f api.Fid) uint8 {
	return uint8(f >> numberBits)
}

// Number is a fid's number at its client.
func Number(f api.Fid) uint32 {
	return uint32(f) & maxNumber
}

// Narrow is a number as one of 32 bits, if it is one.
func Narrow(n int64) (int32, bool) {
	small := int32(n)
	if int64(small) != n {
		return 0, false
	}
	return small, true
}

// Fold is the check sum of bytes.
func Fold(b []byte) uint32 {
	sum := uint32(foldStart)
	for i := range len(b) {
		sum = (sum ^ uint32(b[i])) * foldFactor
	}
	return sum
}

// Turn turns a number's bits to the left, or to the right if n is below 0.
func Turn(u uint32, n int) uint32 {
	// To the right by n is to the left by 32-n: as an unsigned number, n modulo 32 is that already.
	left := uint(n) % 32
	return u<<left | u>>(32-left)
}

// Low are a number's lowest n bits.
func Low(u uint64, n int) uint64 {
	switch {
	case n <= 0:
		return 0
	case n >= 64:
		return u
	}
	return u & (1<<n - 1)
}
