package alias

import (
	"math"
	"slices"
	"testing"

	"hayloft/api"
	"hayloft/ops"
)

func loads(d, a uint8, imm int64) api.Op { return api.Op{Do: api.Load, D: d, A: a, Imm: imm} }

func stores(a, b uint8, imm int64) api.Op { return api.Op{Do: api.Store, A: a, B: b, Imm: imm} }

func adds(d, a, b uint8) api.Op { return api.Op{Do: api.Add, D: d, A: a, B: b} }

func prints(a uint8) api.Op { return api.Op{Do: api.Print, A: a} }

func list(l ...api.Op) []api.Op { return l }

func wantMeet(t *testing.T, l []api.Op, i, j int, want bool) {
	t.Helper()
	if got := Meet(l, i, j); got != want {
		t.Errorf("Meet(%v, %d, %d) = %v", l, i, j, got)
	}
}

func wantRound(t *testing.T, l []api.Op, i, j int, want bool) {
	t.Helper()
	if got := Round(l, i, j); got != want {
		t.Errorf("Round(%v, %d, %d) = %v", l, i, j, got)
	}
	if got := Round(l, j, i); got != want {
		t.Errorf("Round(%v, %d, %d) = %v", l, j, i, got)
	}
}

// wantBoth holds Meet of i below j, and Round both ways, against one answer.
func wantBoth(t *testing.T, l []api.Op, i, j int, want bool) {
	t.Helper()
	wantMeet(t, l, i, j, want)
	wantMeet(t, l, j, i, false)
	wantRound(t, l, i, j, want)
}

func TestChapterExamples(t *testing.T) {
	l := list(loads(1, 2, 8), stores(2, 3, 8), adds(2, 2, 4), stores(2, 3, 9), stores(5, 1, 264))
	wantMeet(t, l, 0, 1, true)
	wantMeet(t, l, 0, 3, true)
	wantMeet(t, l, 1, 3, true)
	wantMeet(t, list(loads(1, 2, 8), stores(2, 3, 9)), 0, 1, false)
	wantMeet(t, list(stores(2, 3, 8), stores(2, 3, 264)), 0, 1, true)
	wantMeet(t, list(loads(2, 2, 8), stores(2, 3, 9)), 0, 1, true)
	wantMeet(t, list(loads(1, 2, 8), loads(1, 2, 8)), 0, 1, false)
	wantMeet(t, l, 1, 0, false)
	wantRound(t, l, 0, 3, true)
	wantRound(t, l, 4, 4, true)
}

// The second of DOC.md's ten examples.
func TestExampleOfTheWhole(t *testing.T) {
	wantBoth(t, list(stores(1, 2, 8), stores(1, 2, 264)), 0, 1, true)
	wantBoth(t, list(stores(1, 2, 8), stores(1, 2, 9)), 0, 1, false)
}

// TestPlacesThatThereAreNot: every pair of the list meets, so that what is refused is refused for its places.
func TestPlacesThatThereAreNot(t *testing.T) {
	long := slices.Repeat(list(stores(1, 2, 8)), 8)
	far := []int{-1, -2, -3, -8, math.MinInt, math.MinInt + 1, math.MaxInt, math.MaxInt - 1,
		1 << 31, 1 << 32, 1<<32 + 1, 1 << 62, -1 << 31, -1 << 32, -1<<32 + 1, -1 << 62, math.MinInt + 2}
	for size := range 4 {
		l := long[:size] // with more Stores in the room behind its end
		none := append(slices.Clone(far), size, size+1, size+2, 7, 8, 9)
		for _, i := range none {
			for _, j := range none {
				wantMeet(t, l, i, j, false)
				wantRound(t, l, i, j, false)
			}
			for j := range size {
				wantMeet(t, l, i, j, false)
				wantMeet(t, l, j, i, false)
				wantRound(t, l, i, j, false)
			}
		}
		for i := range size {
			for j := range size {
				wantMeet(t, l, i, j, i < j)
				wantRound(t, l, i, j, true)
			}
		}
	}
	for _, l := range [][]api.Op{nil, {}} {
		for _, i := range append(far, 0, 1) {
			wantMeet(t, l, i, 0, false)
			wantMeet(t, l, 0, i, false)
			wantRound(t, l, i, 0, false)
			wantRound(t, l, i, i, false)
		}
	}
}

// TestKinds: operations of all fields 0, of every kind and of none, so that those on memory are of one cell.
func TestKinds(t *testing.T) {
	for n := -128; n <= 127; n++ {
		for m := -128; m <= 127; m++ {
			a, b := api.Op{Do: int8(n)}, api.Op{Do: int8(m)}
			want := n == 16 && m == 16 || n == 15 && m == 16 || n == 16 && m == 15
			wantBoth(t, list(a, b), 0, 1, want)
			// The same apart from one another, with others ahead, between and behind.
			wantBoth(t, list(prints(1), a, prints(2), b, prints(3)), 1, 3, want)
		}
		wantRound(t, list(api.Op{Do: int8(n)}), 0, 0, n == 16)
		wantMeet(t, list(api.Op{Do: int8(n)}), 0, 0, false)
	}
}

// refused are Loads and Stores that ops.Check does not take, by one field each; with that field mended they meet
// stores(1, 2, 0).
func refused() []api.Op {
	var l []api.Op
	for _, r := range []uint8{32, 33, 63, 64, 128, 255} {
		l = append(l, loads(r, 1, 0), loads(3, r, 0), stores(r, 2, 0), stores(1, r, 0))
	}
	for _, n := range []uint8{1, 2, 31, 32, 255} {
		l = append(l, api.Op{Do: api.Load, D: 3, A: 1, B: n}, api.Op{Do: api.Store, D: n, A: 1, B: 2})
	}
	for _, imm := range []int64{1 << 31, 1<<31 + 256, -1<<31 - 256, 1 << 32, -1 << 32, 1 << 40, math.MinInt64, math.MaxInt64} {
		l = append(l, loads(3, 1, imm), stores(1, 2, imm))
	}
	return l
}

func TestOperationsThatAreNone(t *testing.T) {
	for _, o := range refused() {
		if ops.Check(o) != api.ErrOp {
			t.Fatalf("%v is one", o)
		}
		for _, other := range list(stores(1, 2, 0), stores(1, 2, 1), stores(9, 2, 0), loads(3, 1, 0), o) {
			wantBoth(t, list(o, other), 0, 1, false)
			wantBoth(t, list(other, o), 0, 1, false)
			wantBoth(t, list(adds(1, 1, 1), o, adds(1, 1, 1), other, adds(1, 1, 1)), 1, 3, false)
		}
		wantRound(t, list(o), 0, 0, false)
		// Where it stands between or beside two others it writes nothing.
		wantBoth(t, list(o, stores(1, 2, 0), o, stores(1, 2, 1), o), 1, 3, false)
		wantBoth(t, list(o, stores(1, 2, 0), o, stores(1, 2, 256), o), 1, 3, true)
	}
}

// floor is a number modulo 256, told by what is left of it.
func floor(n int64) int64 { return (n%256 + 256) % 256 }

func TestImms(t *testing.T) {
	imms := []int64{math.MinInt32, math.MinInt32 + 1, math.MinInt32 + 255, math.MinInt32 + 256, -65536, -1000, -513, -512, -511,
		-257, -256, -255, -129, -128, -127, -2, -1, 0, 1, 2, 8, 9, 126, 127, 128, 129, 254, 255, 256, 257, 264, 511, 512,
		513, 1000, 65535, 65536, math.MaxInt32 - 256, math.MaxInt32 - 255, math.MaxInt32 - 1, math.MaxInt32}
	for _, a := range imms {
		for _, b := range imms {
			one := floor(a) == floor(b)
			for _, base := range []uint8{0, 1, 31} {
				wantBoth(t, list(stores(base, 2, a), stores(base, 2, b)), 0, 1, one)
				wantBoth(t, list(loads(2, base, a), stores(base, 2, b)), 0, 1, one)
				wantBoth(t, list(loads(2, base, a), loads(3, base, b)), 0, 1, false)
				wantBoth(t, list(stores(base, 2, a), loads(2, base, b)), 0, 1, one)
				// Unlike bases may hold anything.
				wantBoth(t, list(stores(base, 2, a), loads(2, 30, b)), 0, 1, true)
				wantBoth(t, list(stores(30, 2, a), stores(base, 2, b)), 0, 1, true)
			}
		}
	}
	for a := range int64(256) {
		for b := range int64(1024) {
			wantBoth(t, list(stores(1, 2, a), loads(2, 1, b-512)), 0, 1, a == b%256)
		}
	}
}

func TestEveryTwoBases(t *testing.T) {
	for a := range uint8(api.Registers) {
		for b := range uint8(api.Registers) {
			wantBoth(t, list(stores(a, b, 8), stores(b, a, 9)), 0, 1, a != b)
			wantBoth(t, list(stores(a, b, 8), stores(b, a, 8)), 0, 1, true)
			// What is stored is no base.
			wantBoth(t, list(stores(a, 5, 8), stores(a, b, 9)), 0, 1, false)
		}
	}
}

// writers are operations that write a register.
func writers(register uint8) []api.Op {
	var l []api.Op
	for do := int8(api.Const); do <= api.Load; do++ {
		l = append(l, api.Op{Do: do, D: register})
	}
	return append(l, api.Op{Do: api.Const, D: register, Imm: math.MinInt32}, api.Op{Do: api.Move, D: register, A: register},
		adds(register, 31, 30), loads(register, register, -1), loads(register, 31, math.MaxInt32))
}

// others are operations that do not write a register, though some read it or have its number in some field.
func others(register uint8) []api.Op {
	l := list(api.Op{}, prints(register), stores(register, register, int64(register)), stores(0, 0, 0),
		api.Op{Do: api.Jump, Imm: int64(register)}, api.Op{Do: api.Branch, A: register}, api.Op{Do: api.Halt, A: register},
		api.Op{Do: api.Count, A: register}, api.Op{Do: api.Short, A: register, B: register}, api.Op{Do: api.Again})
	for _, o := range writers((register + 1) % 32) {
		if o.Do != api.Const && o.A == 0 {
			o.A = register
		}
		l = append(l, o)
	}
	// None of these is an operation, though D says it.
	for do := range int8(api.Load + 1) {
		l = append(l, api.Op{Do: do, D: register + 32}, api.Op{Do: do, D: register, B: 77}, api.Op{Do: do, D: register, A: 32},
			api.Op{Do: do, D: register, Imm: 1 << 31})
	}
	for _, do := range []int8{api.Kinds, -1, 127, -128} {
		l = append(l, api.Op{Do: do, D: register})
	}
	return append(l, api.Op{Do: api.Print, D: register, A: 32}, api.Op{Do: api.Store, D: register, A: 33})
}

// A base that is written, at every place of a list in which i stands at 2 and j at 5.
func TestBaseThatIsWritten(t *testing.T) {
	for register := range uint8(api.Registers) {
		for _, pair := range [][2]api.Op{
			{stores(register, 9, 8), stores(register, 9, 9)},
			{loads((register+3)%32, register, 8), stores(register, 9, 7)},
			{stores(register, 9, -8), loads((register+3)%32, register, -7)},
		} {
			plain := list(prints(1), prints(1), pair[0], prints(1), prints(1), pair[1], prints(1), prints(1))
			wantBoth(t, plain, 2, 5, false)
			for at := range plain {
				if at == 2 || at == 5 {
					continue
				}
				l := slices.Clone(plain)
				for _, o := range writers(register) {
					l[at] = o
					wantMeet(t, l, 2, 5, at == 3 || at == 4)
					wantRound(t, l, 2, 5, true)
				}
				for _, o := range others(register) {
					l[at] = o
					wantBoth(t, l, 2, 5, false)
				}
			}
		}
	}
}

// A base that one of the two writes itself.
func TestBaseThatTheTwoWrite(t *testing.T) {
	for r := range uint8(api.Registers) {
		o := (r + 1) % 32
		// The first one: between as well.
		wantBoth(t, list(loads(r, r, 8), stores(r, o, 9)), 0, 1, true)
		// The second one alone: behind both, but from round to round between.
		l := list(stores(r, o, 9), loads(r, r, 8))
		wantMeet(t, l, 0, 1, false)
		wantRound(t, l, 0, 1, true)
		// Both of two Loads, and a Store behind.
		l = list(loads(r, r, 8), loads(r, r, 9), stores(r, o, 10))
		wantBoth(t, l, 0, 1, false)
		wantBoth(t, l, 0, 2, true)
		wantBoth(t, l, 1, 2, true)
		// Another Load ahead of both writes it, or behind both.
		wantMeet(t, list(loads(r, r, 8), stores(r, o, 1), stores(r, o, 2)), 1, 2, false)
		wantRound(t, list(loads(r, r, 8), stores(r, o, 1), stores(r, o, 2)), 1, 2, true)
		wantMeet(t, list(stores(r, o, 1), stores(r, o, 2), loads(r, r, 8)), 0, 1, false)
		wantRound(t, list(stores(r, o, 1), stores(r, o, 2), loads(r, r, 8)), 0, 1, true)
		// A Load that writes another one's base, or another register from it.
		wantBoth(t, list(loads(o, r, 8), stores(r, o, 9)), 0, 1, false)
		wantBoth(t, list(stores(r, o, 8), loads(o, r, 9)), 0, 1, false)
	}
}

func TestOneWithItself(t *testing.T) {
	l := list(stores(1, 2, 3), loads(1, 1, 3), loads(2, 1, 3), prints(1), stores(2, 1, -3), api.Op{Do: api.Store, A: 32})
	for at, o := range l {
		wantMeet(t, l, at, at, false)
		wantRound(t, l, at, at, at == 0 || at == 4)
		wantRound(t, list(o), 0, 0, at == 0 || at == 4)
	}
}

// Lists as long as a program, and longer: nothing bounds them here.
func TestLongLists(t *testing.T) {
	for _, size := range []int{api.MaxBody + 1, api.MaxOps, api.MaxOps + 1, 5000} {
		l := slices.Repeat(list(stores(0, 1, 5)), size)
		l[0], l[size-1] = stores(0, 1, 7), loads(2, 0, 8)
		wantBoth(t, l, 0, size-1, false)
		wantBoth(t, l, 0, size-2, false)
		wantBoth(t, l, 1, size-2, true)
		l[size-2] = loads(0, 7, 0)
		wantBoth(t, l, 0, size-1, true)
		wantMeet(t, l, 0, size-3, false)
		wantRound(t, l, 0, size-3, true)
	}
	// Every pair of the longest list of a program.
	l := make([]api.Op, api.MaxOps)
	for n := range l {
		l[n] = stores(0, 0, int64(n))
	}
	for i := range l {
		for j := range l {
			if one := i%256 == j%256; Meet(l, i, j) != (i < j && one) || Round(l, i, j) != one {
				t.Fatalf("%d, %d: %v, %v", i, j, Meet(l, i, j), Round(l, i, j))
			}
		}
	}
}
