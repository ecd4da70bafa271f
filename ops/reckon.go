package ops

import (
	"hayloft/api"
	"hayloft/bits"
)

// shiftBits is how many of B's lowest bits say how far a number is shifted.
const shiftBits = 6

// Reckon answers what D becomes of A and B (P3.4).
func Reckon(do int8, a, b int64) (int64, api.Errno) {
	switch do {
	case api.Add:
		return a + b, api.OK
	case api.Sub:
		return a - b, api.OK
	case api.And:
		return a & b, api.OK
	case api.Or:
		return a | b, api.OK
	case api.Xor:
		return a ^ b, api.OK
	case api.Shl:
		return a << distance(b), api.OK
	case api.Shr:
		return a >> distance(b), api.OK
	case api.Less:
		return oneIf(a < b), api.OK
	case api.Equal:
		return oneIf(a == b), api.OK
	case api.Move:
		return a, api.OK
	case api.Times:
		return a * b, api.OK
	case api.Divide, api.Rest:
		return divided(do, a, b)
	}
	return 0, api.ErrArg
}

// divided leans on Go's own division: towards 0, and -2^63 / -1 wraps round and does not panic.
func divided(do int8, a, b int64) (int64, api.Errno) {
	switch {
	case b == 0:
		return 0, api.ErrDivide
	case do == api.Divide:
		return a / b, api.OK
	}
	return a % b, api.OK
}

// distance answers how far is shifted by b, from 0 to 63 whatever b's sign.
func distance(b int64) uint {
	return uint(bits.Get(uint64(b), 0, shiftBits))
}

func oneIf(holds bool) int64 {
	if holds {
		return 1
	}
	return 0
}
