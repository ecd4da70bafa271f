package bits

import (
	"math"
	"math/big"
	"sync"
	"testing"
)

// samples are words whose ends, middles and neighbours differ, so that a bit
// that strays is seen in at least one of them.
var samples = []uint64{
	0, 1, 2, 5, 0x7f, 0x80, 0xff, 0x100,
	1<<31 - 1, 1 << 31, 1<<32 - 1, 1 << 32,
	1<<63 - 1, 1 << 63, 1<<63 + 1, 1<<64 - 2, 1<<64 - 1,
	0x5555555555555555, 0xaaaaaaaaaaaaaaaa,
	0x0123456789abcdef, 0xfedcba9876543210, 0x9e3779b97f4a7c15,
}

// oddInts are sizes and places at, beside and far from every edge.
var oddInts = []int{
	math.MinInt, math.MinInt + 1, math.MinInt + 64, math.MinInt32, -256, -65, -64, -63, -2, -1,
	0, 1, 2, 3, 31, 32, 33, 62, 63, 64, 65, 66, 127, 128, 255, 256, 257,
	math.MaxInt32, math.MaxUint32, 1 << 32, 1<<32 + 1, math.MaxInt - 64, math.MaxInt - 63, math.MaxInt - 1, math.MaxInt,
}

// fieldByWords says by exact numbers, as the chapter does, whether a field is one.
func fieldByWords(at, n int) bool {
	sum := new(big.Int).Add(big.NewInt(int64(at)), big.NewInt(int64(n)))
	return n >= 1 && n <= 64 && at >= 0 && sum.Cmp(big.NewInt(64)) <= 0
}

func bitOf(w uint64, i int) uint64 { return w / pow2(i) % 2 }

func pow2(i int) uint64 {
	p := uint64(1)
	for range i {
		p *= 2
	}
	return p
}

func putBitByBit(w uint64, at, n int, x uint64) uint64 {
	if !fieldByWords(at, n) {
		return w
	}
	var sum uint64
	for i := range 64 {
		if i >= at && i < at+n {
			sum += bitOf(x, i-at) * pow2(i)
		} else {
			sum += bitOf(w, i) * pow2(i)
		}
	}
	return sum
}

func getBitByBit(w uint64, at, n int) uint64 {
	if !fieldByWords(at, n) {
		return 0
	}
	var sum uint64
	for i := range n {
		sum += bitOf(w, at+i) * pow2(i)
	}
	return sum
}

func intoOneTo64(n int) int {
	if n < 1 {
		return 1
	}
	if n > 64 {
		return 64
	}
	return n
}

// signedByArithmetic reckons the number that n bits stand for without any bound.
func signedByArithmetic(x uint64, n int) *big.Int {
	n = intoOneTo64(n)
	whole := new(big.Int).Exp(big.NewInt(2), big.NewInt(int64(n)), nil)
	half := new(big.Int).Exp(big.NewInt(2), big.NewInt(int64(n-1)), nil)
	v := new(big.Int).SetUint64(x)
	v.Mod(v, whole)
	if v.Cmp(half) >= 0 {
		v.Sub(v, whole)
	}
	return v
}

func fitsByArithmetic(x int64, n int) bool {
	n = intoOneTo64(n)
	half := new(big.Int).Exp(big.NewInt(2), big.NewInt(int64(n-1)), nil)
	v := big.NewInt(x)
	return v.Cmp(new(big.Int).Neg(half)) >= 0 && v.Cmp(half) < 0
}

func TestExamplesOfTheChapter(t *testing.T) {
	words := []struct {
		call      string
		got, want uint64
	}{
		{"Put(0, 4, 3, 15)", Put(0, 4, 3, 15), 112},
		{"Get(112, 4, 3)", Get(112, 4, 3), 7},
		{"Put(5, 60, 8, 1)", Put(5, 60, 8, 1), 5},
		{"Get(5, -1, 2)", Get(5, -1, 2), 0},
		{"Put(0, 0, 64, 9)", Put(0, 0, 64, 9), 9},
	}
	for _, x := range words {
		if x.got != x.want {
			t.Errorf("%s: %d, want %d", x.call, x.got, x.want)
		}
	}
	numbers := []struct {
		call      string
		got, want int64
	}{
		{"Signed(7, 3)", Signed(7, 3), -1},
		{"Signed(3, 3)", Signed(3, 3), 3},
		{"Signed(2^64 - 1, 64)", Signed(1<<64-1, 64), -1},
	}
	for _, x := range numbers {
		if x.got != x.want {
			t.Errorf("%s: %d, want %d", x.call, x.got, x.want)
		}
	}
	if Fits(4, 3) || !Fits(-4, 3) || !Fits(0, 1) || !Fits(-1, 0) {
		t.Error("Fits: not as in the chapter's examples")
	}
}

// P1.1: what is a field and what is none, at its edges.
func TestEdgesOfFields(t *testing.T) {
	const w, x = uint64(0xfedcba9876543210), uint64(0x0123456789abcdef)
	cases := []struct {
		at, n    int
		put, get uint64
	}{
		{0, 0, w, 0},
		{0, 1, w | 1, 0},
		{0, 64, x, w},
		{0, 65, w, 0},
		{-1, 1, w, 0},
		{-1, 65, w, 0},
		{-1, 2, w, 0},
		{63, 1, w, 1},
		{63, 2, w, 0},
		{64, 0, w, 0},
		{64, 1, w, 0},
		{1, 63, x << 1, w >> 1},
		{1, 64, w, 0},
		{32, 32, 0x89abcdef76543210, 0xfedcba98},
		{32, 33, w, 0},
		{60, 4, w, 15},
		{60, 5, w, 0},
		{math.MaxInt, 1, w, 0},
		{math.MaxInt, math.MaxInt, w, 0},
		{math.MaxInt, math.MinInt, w, 0},
		{math.MinInt, math.MaxInt, w, 0},
		{math.MinInt, math.MinInt, w, 0},
		{math.MinInt, 1, w, 0},
		{0, math.MaxInt, w, 0},
		{0, math.MinInt, w, 0},
	}
	for _, c := range cases {
		if got := Put(w, c.at, c.n, x); got != c.put {
			t.Errorf("Put(%#x, %d, %d, %#x): %#x, want %#x", w, c.at, c.n, x, got, c.put)
		}
		if got := Get(w, c.at, c.n); got != c.get {
			t.Errorf("Get(%#x, %d, %d): %#x, want %#x", w, c.at, c.n, got, c.get)
		}
	}
}

// P1.1: any places and sizes, none left out near the word.
func TestPutAndGetBitByBit(t *testing.T) {
	check := func(at, n int) {
		for i, w := range samples {
			x := samples[(i*7+3)%len(samples)]
			if got, want := Put(w, at, n, x), putBitByBit(w, at, n, x); got != want {
				t.Fatalf("Put(%#x, %d, %d, %#x): %#x, want %#x", w, at, n, x, got, want)
			}
			if got, want := Get(w, at, n), getBitByBit(w, at, n); got != want {
				t.Fatalf("Get(%#x, %d, %d): %#x, want %#x", w, at, n, got, want)
			}
		}
	}
	for at := -2; at <= 66; at++ {
		for n := -2; n <= 67; n++ {
			check(at, n)
		}
	}
	for _, at := range oddInts {
		for _, n := range oddInts {
			check(at, n)
		}
	}
}

// P1.1: bits of x above the lowest n do not come in.
func TestPutTakesTheLowestBits(t *testing.T) {
	for n := 1; n <= 63; n++ {
		for at := 0; at <= 64-n; at++ {
			if got := Put(0, at, n, math.MaxUint64<<uint(n)); got != 0 {
				t.Fatalf("Put(0, %d, %d, bits above): %#x, want 0", at, n, got)
			}
		}
	}
}

// P1.2: the numbers that stand at the ends.
func TestSignedAtTheEnds(t *testing.T) {
	cases := []struct {
		x    uint64
		n    int
		want int64
	}{
		{0, 1, 0}, {1, 1, -1}, {2, 1, 0}, {3, 1, -1},
		{1, 2, 1}, {2, 2, -2},
		{0x7f, 8, 127}, {0x80, 8, -128}, {0x17f, 8, 127}, {0x180, 8, -128},
		{1<<31 - 1, 32, math.MaxInt32}, {1 << 31, 32, math.MinInt32},
		{1<<62 - 1, 63, 1<<62 - 1}, {1 << 62, 63, -1 << 62}, {1<<63 | 1<<62, 63, -1 << 62}, {1 << 63, 63, 0},
		{1<<63 - 1, 64, math.MaxInt64}, {1 << 63, 64, math.MinInt64}, {math.MaxUint64, 64, -1},
	}
	for _, c := range cases {
		if got := Signed(c.x, c.n); got != c.want {
			t.Errorf("Signed(%#x, %d): %d, want %d", c.x, c.n, got, c.want)
		}
	}
}

// P1.2: a size below 1 is 1, a size above 64 is 64.
func TestSizesAreBroughtIn(t *testing.T) {
	for _, n := range oddInts {
		m := intoOneTo64(n)
		for _, x := range samples {
			if got, want := Signed(x, n), Signed(x, m); got != want {
				t.Errorf("Signed(%#x, %d): %d, want %d as of %d bits", x, n, got, want, m)
			}
			if got, want := Fits(int64(x), n), Fits(int64(x), m); got != want {
				t.Errorf("Fits(%d, %d): %t, want %t as of %d bits", int64(x), n, got, want, m)
			}
		}
	}
	for _, n := range []int{math.MinInt, -1, 0} {
		if Signed(1, n) != -1 || Signed(2, n) != 0 || !Fits(0, n) || !Fits(-1, n) || Fits(1, n) || Fits(-2, n) {
			t.Errorf("%d bits are not as 1 bit", n)
		}
	}
	for _, n := range []int{65, 128, math.MaxInt} {
		if Signed(1<<63, n) != math.MinInt64 || !Fits(math.MinInt64, n) || !Fits(math.MaxInt64, n) {
			t.Errorf("%d bits are not as 64 bits", n)
		}
	}
}

// P1.2: Signed and Fits against arithmetic without bounds.
func TestSignedAndFitsByArithmetic(t *testing.T) {
	check := func(x uint64, n int) {
		if got, want := Signed(x, n), signedByArithmetic(x, n); big.NewInt(got).Cmp(want) != 0 {
			t.Fatalf("Signed(%#x, %d): %d, want %s", x, n, got, want)
		}
		if got, want := Fits(int64(x), n), fitsByArithmetic(int64(x), n); got != want {
			t.Fatalf("Fits(%d, %d): %t, want %t", int64(x), n, got, want)
		}
	}
	sizes := append([]int{}, oddInts...)
	for n := 1; n <= 64; n++ {
		sizes = append(sizes, n)
	}
	for _, n := range sizes {
		for _, x := range samples {
			check(x, n)
		}
		for near := range 64 {
			for _, x := range []uint64{1<<near - 1, 1 << near, 1<<near + 1, -(1 << near) - 1, -(1 << near), -(1 << near) + 1} {
				check(x, n)
			}
		}
	}
}

// P1.2: both ends of each size fit, and their neighbours do not.
func TestFitsAtTheEnds(t *testing.T) {
	for n := 1; n <= 63; n++ {
		half := int64(1) << uint(n-1)
		if !Fits(half-1, n) || !Fits(-half, n) {
			t.Errorf("%d bits do not hold their ends", n)
		}
		if Fits(half, n) || Fits(-half-1, n) || Fits(math.MaxInt64, n) || Fits(math.MinInt64, n) {
			t.Errorf("%d bits hold numbers beyond their ends", n)
		}
	}
	if !Fits(math.MaxInt64, 64) || !Fits(math.MinInt64, 64) || !Fits(0, 64) || !Fits(-1, 64) {
		t.Error("64 bits do not hold every number")
	}
}

// P1.3: Get of Put is the lowest bits, and fields beside it read as before.
func TestFieldsBesideDoNotNotice(t *testing.T) {
	for at := range 64 {
		for n := 1; at+n <= 64; n++ {
			for i, w := range samples {
				x := samples[(i*5+2)%len(samples)]
				p := Put(w, at, n, x)
				if got, want := Get(p, at, n), getBitByBit(x, 0, n); got != want {
					t.Fatalf("Get of Put(%#x, %d, %d, %#x): %#x, want %#x", w, at, n, x, got, want)
				}
				checkSame(t, w, p, 0, at)
				checkSame(t, w, p, at+n, 64)
			}
		}
	}
}

// checkSame holds every field that reaches to either end of the stretch.
func checkSame(t *testing.T, before, after uint64, from, to int) {
	t.Helper()
	for n := 1; n <= to-from; n++ {
		for _, at := range []int{from, to - n} {
			if got, want := Get(after, at, n), Get(before, at, n); got != want {
				t.Fatalf("the field of %d bits at %d: %#x, was %#x", n, at, got, want)
			}
		}
	}
}

// P1.3: Puts into fields apart go in any order.
func TestPutsGoInAnyOrder(t *testing.T) {
	type field struct {
		at, n int
		x     uint64
	}
	rows := [][3]field{
		{{0, 1, 1}, {1, 62, 0x0123456789abcdef}, {63, 1, 1}},
		{{0, 8, 0x1ff}, {8, 8, 0}, {16, 48, math.MaxUint64}},
		{{40, 24, 0xfedcba98}, {5, 3, 6}, {8, 32, 0xffffffffff}},
		{{0, 5, 31}, {64, 5, 31}, {5, 59, 1 << 58}},
	}
	orders := [][3]int{{0, 1, 2}, {0, 2, 1}, {1, 0, 2}, {1, 2, 0}, {2, 0, 1}, {2, 1, 0}}
	for _, row := range rows {
		for _, w := range samples {
			var first uint64
			for i, order := range orders {
				p := w
				for _, k := range order {
					p = Put(p, row[k].at, row[k].n, row[k].x)
				}
				if i == 0 {
					first = p
				}
				if p != first {
					t.Errorf("order %v of %v into %#x: %#x, want %#x", order, row, w, p, first)
				}
			}
		}
	}
}

// P1.4: Signed of the bits of x is x, just if x fits.
func TestSignedIsTheNumberJustIfItFits(t *testing.T) {
	for n := 1; n <= 64; n++ {
		for near := range 64 {
			p := int64(1) << uint(near)
			for _, x := range []int64{p - 1, p, p + 1, -p - 1, -p, -p + 1} {
				same := Signed(Get(uint64(x), 0, n), n) == x
				if same != Fits(x, n) || same != fitsByArithmetic(x, n) {
					t.Fatalf("x %d, %d bits: same %t, Fits %t", x, n, same, Fits(x, n))
				}
			}
		}
	}
}

// P1.4: a signed number goes through a field and comes back.
func TestSignedThereAndBack(t *testing.T) {
	for n := 1; n <= 64; n++ {
		for at := 0; at <= 64-n; at++ {
			for i, w := range samples {
				v := Signed(samples[(i*3+1)%len(samples)], n)
				if got := Signed(Get(Put(w, at, n, uint64(v)), at, n), n); got != v {
					t.Fatalf("%d through %d bits at %d of %#x: %d", v, n, at, w, got)
				}
			}
		}
	}
}

// R2: answers do not hang on what else is asked, nor on who asks at the same time.
func TestAnswersHangOnArgumentsAlone(t *testing.T) {
	var group sync.WaitGroup
	for worker := range 8 {
		group.Go(func() {
			for round := range 500 {
				x := samples[(worker+round)%len(samples)]
				at, n := round%64, worker*8+1
				if got, want := Put(^x, at, n, x), putBitByBit(^x, at, n, x); got != want {
					t.Errorf("Put(%#x, %d, %d, %#x): %#x, want %#x", ^x, at, n, x, got, want)
				}
			}
		})
	}
	group.Wait()
}

func FuzzFields(f *testing.F) {
	f.Add(uint64(5), 60, 8, uint64(1))
	f.Add(uint64(112), 4, 3, uint64(15))
	f.Add(uint64(1)<<63, math.MaxInt, 1, uint64(math.MaxUint64))
	f.Fuzz(func(t *testing.T, w uint64, at, n int, x uint64) {
		if got, want := Put(w, at, n, x), putBitByBit(w, at, n, x); got != want {
			t.Errorf("Put(%#x, %d, %d, %#x): %#x, want %#x", w, at, n, x, got, want)
		}
		if got, want := Get(w, at, n), getBitByBit(w, at, n); got != want {
			t.Errorf("Get(%#x, %d, %d): %#x, want %#x", w, at, n, got, want)
		}
		if got, want := Signed(x, n), signedByArithmetic(x, n); big.NewInt(got).Cmp(want) != 0 {
			t.Errorf("Signed(%#x, %d): %d, want %s", x, n, got, want)
		}
		if got, want := Fits(int64(x), n), fitsByArithmetic(int64(x), n); got != want {
			t.Errorf("Fits(%d, %d): %t, want %t", int64(x), n, got, want)
		}
	})
}
