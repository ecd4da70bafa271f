package bundle

import (
	"hayloft/api"
	"hayloft/bits"
)

// How many bits an operation's fields have in its word. D, A and B have as many each.
const (
	doBits       = 6
	registerBits = 5
	immBits      = 32
)

// At which bits they begin, from the lowest one on, and where they end.
const (
	atDo  = 0
	atD   = atDo + doBits
	atA   = atD + registerBits
	atB   = atA + registerBits
	atImm = atB + registerBits
	atEnd = atImm + immBits
)

// wordOf answers an operation's word.
func wordOf(o api.Op) uint64 {
	// An Imm below 0 has its sign in all bits above the field: the narrower number leaves these behind.
	return uint64(uint8(o.Do))<<atDo |
		uint64(o.D)<<atD |
		uint64(o.A)<<atA |
		uint64(o.B)<<atB |
		uint64(uint32(o.Imm))<<atImm
}

// opOf answers what stands in a word's fields; false, if there is something above them. Whether
// that is an operation is not asked here.
func opOf(word uint64) (api.Op, bool) {
	if word>>atEnd != 0 {
		return api.Op{}, false
	}
	return api.Op{
		Do: int8(bits.Get(word, atDo, doBits)),
		D:  uint8(bits.Get(word, atD, registerBits)),
		A:  uint8(bits.Get(word, atA, registerBits)),
		B:  uint8(bits.Get(word, atB, registerBits)),
		// Through 32 bits with a sign, so that the field's highest bit becomes the number's.
		Imm: int64(int32(uint32(word >> atImm))),
	}, true
}
