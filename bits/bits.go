// Package bits is layer 1: fields of a word, see shared/doc/01-bits.md.
package bits

// width is how many bits a word has.
const width = 64

// Put answers w with the lowest n bits of x in the field of n bits at a place (P1.1).
func Put(w uint64, at, n int, x uint64) uint64 {
	if !isField(at, n) {
		return w
	}
	field := lowest(n) << uint(at)
	return w&^field | x<<uint(at)&field
}

// Get answers what stands in the field of n bits at a place (P1.1).
func Get(w uint64, at, n int) uint64 {
	if !isField(at, n) {
		return 0
	}
	return w >> uint(at) & lowest(n)
}

// Signed answers the lowest n bits of x as a number in two's complement (P1.2).
func Signed(x uint64, n int) int64 {
	// The field's highest bit is brought to the word's, so that the shift back
	// of a signed number copies it into all the bits above the field.
	above := uint(width - countOfBits(n))
	return int64(x<<above) >> above
}

// Fits answers whether n bits in two's complement can hold x (P1.2).
func Fits(x int64, n int) bool {
	return Signed(uint64(x), n) == x
}

// isField takes n from the width, and does not add it to at: a sum of any two
// ints could wrap round, and n is known to be small by then.
func isField(at, n int) bool {
	return 1 <= n && n <= width && 0 <= at && at <= width-n
}

// lowest answers a word whose lowest n bits are set; n is from 1 to 64.
func lowest(n int) uint64 {
	return ^uint64(0) >> uint(width-n)
}

// countOfBits brings n into 1 to 64.
func countOfBits(n int) int {
	return min(max(n, 1), width)
}
