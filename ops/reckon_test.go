package ops

import (
	"math"
	"math/big"
	"math/rand"
	"testing"

	"hayloft/api"
)

// reckoned are the kinds that Reckon takes, from Add to Rest.
var reckoned = []int8{2, 3, 4, 5, 6, 7, 8, 9, 10, 11, 12, 13, 14}

// corners are the numbers at which a sum, a product or a shift may go wrong.
func corners() []int64 {
	all := []int64{0, 1, 2, 3, 5, 6, 7, 8, 10, 62, 63, 64, 65, 66, 127, 128, 129, 255, 256, 1 << 31, 1<<31 - 1, 1 << 32, 1<<32 - 1, 1<<32 + 1, 3037000499, 3037000500, 1 << 62, 1<<62 - 1, math.MaxInt64 - 1, math.MaxInt64}
	for _, n := range all {
		all = append(all, -n)
	}
	return append(all, math.MinInt64, math.MinInt64+1, math.MinInt64+63, math.MinInt64+64, 0x5555555555555555, -0x5555555555555556)
}

// wrapped answers the whole number as the 64 bits of two's complement hold it.
func wrapped(x *big.Int) int64 {
	modulus := new(big.Int).Lsh(big.NewInt(1), 64)
	rest := new(big.Int).Mod(x, modulus)
	if rest.Bit(63) == 1 {
		rest.Sub(rest, modulus)
	}
	return rest.Int64()
}

// bitwise puts an answer together bit by bit.
func bitwise(a, b int64, one func(x, y uint) uint) *big.Int {
	x, y, z := big.NewInt(a), big.NewInt(b), new(big.Int)
	for i := range 64 {
		z.SetBit(z, i, one(x.Bit(i), y.Bit(i)))
	}
	return z
}

// slowly reckons with the whole numbers of arithmetic, as the chapter's table says it.
func slowly(do int8, a, b int64) (int64, api.Errno) {
	x, y := big.NewInt(a), big.NewInt(b)
	by := uint(new(big.Int).Mod(y, big.NewInt(64)).Int64())
	z := new(big.Int)
	switch do {
	case 2:
		z.Add(x, y)
	case 3:
		z.Sub(x, y)
	case 4:
		z = bitwise(a, b, func(x, y uint) uint { return x & y })
	case 5:
		z = bitwise(a, b, func(x, y uint) uint { return x | y })
	case 6:
		z = bitwise(a, b, func(x, y uint) uint { return x ^ y })
	case 7:
		z.Lsh(x, by)
	case 8:
		z.Div(x, new(big.Int).Lsh(big.NewInt(1), by)) // downwards: the sign goes in
	case 9:
		if x.Cmp(y) < 0 {
			z.SetInt64(1)
		}
	case 10:
		if x.Cmp(y) == 0 {
			z.SetInt64(1)
		}
	case 11:
		z.Set(x)
	case 12:
		z.Mul(x, y)
	case 13, 14:
		if b == 0 {
			return 0, api.ErrDivide
		}
		if do == 13 {
			z.Quo(x, y)
		} else {
			z.Rem(x, y)
		}
	default:
		return 0, api.ErrArg
	}
	return wrapped(z), api.OK
}

func sameAsSlowly(t *testing.T, do int8, a, b int64) {
	t.Helper()
	got, e := Reckon(do, a, b)
	if want, f := slowly(do, a, b); got != want || e != f {
		t.Fatalf("Reckon(%d, %d, %d) is %d, %v, want %d, %v", do, a, b, got, e, want, f)
	}
}

func TestReckonAtTheCorners(t *testing.T) {
	for _, do := range reckoned {
		for _, a := range corners() {
			for _, b := range corners() {
				sameAsSlowly(t, do, a, b)
			}
		}
	}
}

func TestReckonOfRandomNumbers(t *testing.T) {
	r := rand.New(rand.NewSource(3))
	number := func() int64 { return int64(r.Uint64()) >> uint(r.Intn(64)) }
	for range 20000 {
		do, a, b := reckoned[r.Intn(len(reckoned))], number(), number()
		sameAsSlowly(t, do, a, b)
	}
}

func TestReckonByHand(t *testing.T) {
	const least, most = math.MinInt64, math.MaxInt64
	for _, x := range []struct {
		do         int8
		a, b, want int64
		e          api.Errno
	}{
		// The chapter's examples.
		{api.Shr, -8, 65, -4, api.OK},
		{api.Divide, -7, 2, -3, api.OK},
		{api.Rest, -7, 2, -1, api.OK},
		{api.Divide, 1, 0, 0, api.ErrDivide},
		// What wraps round.
		{api.Add, most, 1, least, api.OK},
		{api.Add, least, -1, most, api.OK},
		{api.Add, least, least, 0, api.OK},
		{api.Sub, least, 1, most, api.OK},
		{api.Sub, 0, least, least, api.OK},
		{api.Times, least, -1, least, api.OK},
		{api.Times, most, most, 1, api.OK},
		{api.Times, 1 << 32, 1 << 32, 0, api.OK},
		{api.Times, 1 << 32, 1 << 31, least, api.OK},
		// Shifts take six bits of B, whatever stands above them.
		{api.Shl, 3, 0, 3, api.OK},
		{api.Shl, 3, 63, least, api.OK},
		{api.Shl, 3, 64, 3, api.OK},
		{api.Shl, 3, -1, least, api.OK},
		{api.Shl, 3, -64, 3, api.OK},
		{api.Shl, 3, least, 3, api.OK},
		{api.Shl, 3, least + 1, 6, api.OK},
		{api.Shr, least, 0, least, api.OK},
		{api.Shr, least, 63, -1, api.OK},
		{api.Shr, least, 64, least, api.OK},
		{api.Shr, most, 62, 1, api.OK},
		{api.Shr, most, 63, 0, api.OK},
		{api.Shr, -1, 63, -1, api.OK},
		{api.Shr, -5, -63, -3, api.OK},
		// A divide, and what is left of it, with A's sign.
		{api.Divide, least, -1, least, api.OK},
		{api.Rest, least, -1, 0, api.OK},
		{api.Divide, 7, 2, 3, api.OK},
		{api.Divide, 7, -2, -3, api.OK},
		{api.Divide, -7, -2, 3, api.OK},
		{api.Rest, 7, 2, 1, api.OK},
		{api.Rest, 7, -2, 1, api.OK},
		{api.Rest, -7, -2, -1, api.OK},
		{api.Rest, -8, 2, 0, api.OK},
		{api.Rest, least, most, -1, api.OK},
		{api.Divide, most, least, 0, api.OK},
		{api.Rest, most, least, most, api.OK},
		{api.Divide, 0, 0, 0, api.ErrDivide},
		{api.Divide, least, 0, 0, api.ErrDivide},
		{api.Rest, 7, 0, 0, api.ErrDivide},
		{api.Rest, 0, 0, 0, api.ErrDivide},
		// Numbers with a sign are compared.
		{api.Less, -1, 0, 1, api.OK},
		{api.Less, 0, -1, 0, api.OK},
		{api.Less, least, most, 1, api.OK},
		{api.Less, most, least, 0, api.OK},
		{api.Less, 4, 4, 0, api.OK},
		{api.Equal, 4, 4, 1, api.OK},
		{api.Equal, 4, 4 - 1<<32, 0, api.OK},
		{api.Equal, least, most, 0, api.OK},
		// Bits.
		{api.And, 12, 10, 8, api.OK},
		{api.Or, 12, 10, 14, api.OK},
		{api.Xor, 12, 10, 6, api.OK},
		{api.Xor, -1, most, least, api.OK},
		// Of Move a alone counts.
		{api.Move, 5, 9, 5, api.OK},
		{api.Move, least, 0, least, api.OK},
	} {
		if got, e := Reckon(x.do, x.a, x.b); got != x.want || e != x.e {
			t.Errorf("Reckon(%d, %d, %d) is %d, %v, want %d, %v", x.do, x.a, x.b, got, e, x.want, x.e)
		}
	}
}

func TestReckonOfOtherKinds(t *testing.T) {
	for n := -128; n <= 127; n++ {
		for _, x := range [][2]int64{{7, 2}, {7, 0}, {0, 0}, {math.MinInt64, -1}} {
			got, e := Reckon(int8(n), x[0], x[1])
			switch taken := 2 <= n && n <= 14; {
			case taken && e == api.ErrArg:
				t.Errorf("Reckon(%d) is refused", n)
			case !taken && (got != 0 || e != api.ErrArg):
				t.Errorf("Reckon(%d, %d, %d) is %d, %v, want 0, ErrArg", n, x[0], x[1], got, e)
			}
		}
	}
}

// must is for kinds and numbers that Reckon takes.
func must(t *testing.T, do int8, a, b int64) int64 {
	t.Helper()
	n, e := Reckon(do, a, b)
	if e != api.OK {
		t.Fatalf("Reckon(%d, %d, %d) is %v", do, a, b, e)
	}
	return n
}

func TestWhatFollowsOfReckon(t *testing.T) {
	for _, a := range corners() {
		for _, b := range corners() {
			for _, do := range []int8{api.Add, api.And, api.Or, api.Xor, api.Times, api.Equal} {
				if must(t, do, a, b) != must(t, do, b, a) {
					t.Errorf("kind %d of %d and %d does not go both ways", do, a, b)
				}
			}
			if must(t, api.Sub, must(t, api.Add, a, b), b) != a {
				t.Errorf("Sub does not take back %d + %d", a, b)
			}
			if b != 0 {
				back := must(t, api.Add, must(t, api.Times, must(t, api.Divide, a, b), b), must(t, api.Rest, a, b))
				if back != a {
					t.Errorf("%d / %d comes back as %d", a, b, back)
				}
			}
		}
		if must(t, api.Shl, a, 64) != a || must(t, api.Shr, a, 64) != a {
			t.Errorf("a shift of %d by 64 is one", a)
		}
	}
}

func FuzzReckon(f *testing.F) {
	f.Add(int8(api.Divide), int64(math.MinInt64), int64(-1))
	f.Add(int8(api.Shr), int64(-8), int64(65))
	f.Add(int8(api.Load), int64(1), int64(2))
	f.Fuzz(func(t *testing.T, do int8, a, b int64) { sameAsSlowly(t, do, a, b) })
}
