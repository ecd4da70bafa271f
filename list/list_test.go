package list

import (
	"math"
	"slices"
	"testing"

	"hayloft/api"
	"hayloft/deps"
	"hayloft/ops"
)

func consts(d uint8, imm int64) api.Op { return api.Op{Do: api.Const, D: d, Imm: imm} }

func moves(d, a uint8) api.Op { return api.Op{Do: api.Move, D: d, A: a} }

func adds(d, a, b uint8) api.Op { return api.Op{Do: api.Add, D: d, A: a, B: b} }

func multiplies(d, a, b uint8) api.Op { return api.Op{Do: api.Times, D: d, A: a, B: b} }

func divides(d, a, b uint8) api.Op { return api.Op{Do: api.Divide, D: d, A: a, B: b} }

func rests(d, a, b uint8) api.Op { return api.Op{Do: api.Rest, D: d, A: a, B: b} }

func loads(d, a uint8, imm int64) api.Op { return api.Op{Do: api.Load, D: d, A: a, Imm: imm} }

func stores(a, b uint8, imm int64) api.Op { return api.Op{Do: api.Store, A: a, B: b, Imm: imm} }

func prints(a uint8) api.Op { return api.Op{Do: api.Print, A: a} }

func list(l ...api.Op) []api.Op { return l }

// The chapter's table.
func example() api.Table {
	return api.Table{Units: [api.Classes]int{1, 1, 1, 1}, Lat: [api.Classes]int{1, 3, 2, 1}, Busy: [api.Classes]int{1, 2, 1, 1}}
}

// units answers the table with other numbers of units.
func units(m api.Table, alu, mul, mem, ctl int) api.Table {
	m.Units = [api.Classes]int{alu, mul, mem, ctl}
	return m
}

// wide is the chapter's table with as many units as there can be.
func wide() api.Table { return units(example(), 8, 8, 8, 8) }

func lats(m api.Table, alu, mul, mem, ctl int) api.Table {
	m.Lat = [api.Classes]int{alu, mul, mem, ctl}
	return m
}

func busy(m api.Table, alu, mul, mem, ctl int) api.Table {
	m.Busy = [api.Classes]int{alu, mul, mem, ctl}
	return m
}

// wantCycles says what Cycles answers, and that Check takes it.
func wantCycles(t *testing.T, l []api.Op, m api.Table, want ...int) {
	t.Helper()
	got, e := Cycles(l, m)
	if e != api.OK || !slices.Equal(got, want) {
		t.Errorf("Cycles(%v, %v) is %v, %v, want %v", l, m, got, e, want)
	}
	wantCheck(t, l, m, true, got...)
}

func wantCheck(t *testing.T, l []api.Op, m api.Table, want bool, cycles ...int) {
	t.Helper()
	if got := Check(l, m, cycles); got != want {
		t.Errorf("Check(%v, %v, %v) is %v, want %v", l, m, cycles, got, want)
	}
}

// apart answers cycles one far behind the other: no edge and no unit is in their way.
func apart(count int) []int {
	cycles := make([]int, count)
	for n := range cycles {
		cycles[n] = 8 * n
	}
	return cycles
}

// wantRefused says what is answered of what is refused: the error, no schedule beside it, and no Check of any cycles.
func wantRefused(t *testing.T, l []api.Op, m api.Table, want api.Errno) {
	t.Helper()
	if got, e := Cycles(l, m); e != want || len(got) != 0 {
		t.Errorf("Cycles of %d operations, %v, is %v, %v, want %v", len(l), m, got, e, want)
	}
	if Check(l, m, apart(len(l))) || Check(l, m, make([]int, len(l))) || Check(l, m, nil) {
		t.Errorf("Check of %d operations, %v, of which Cycles has %v", len(l), m, want)
	}
}

func TestChapterExamples(t *testing.T) {
	wantCycles(t, list(adds(1, 2, 3), multiplies(4, 1, 1), adds(5, 2, 2)), example(), 0, 1, 1)
	wantCycles(t, list(multiplies(1, 2, 3), multiplies(4, 2, 2), multiplies(5, 2, 2)), example(), 0, 2, 4)
	wantCycles(t, list(adds(1, 2, 3), adds(2, 4, 4)), example(), 0, 1)
	wantCycles(t, list(adds(1, 2, 3), adds(2, 4, 4)), units(example(), 2, 1, 1, 1), 0, 0)
	wantCycles(t, nil, example())
}

// Of DOC.md's examples: the list of a sum over a loaded row takes 6 cycles a round; a product is issued behind its factor.
func TestExamplesOfTheWhole(t *testing.T) {
	m := busy(lats(example(), 1, 3, 4, 1), 1, 1, 1, 1)
	wantCycles(t, list(loads(3, 4, 0), adds(2, 2, 3), adds(4, 4, 5)), m, 0, 4, 0)
	wantCycles(t, list(consts(1, 4), multiplies(2, 1, 1), prints(2)), example(), 0, 1, 4)
	// An add that nothing keeps goes into the first cycle in which a unit is free.
	wantCycles(t, list(adds(1, 2, 2), adds(3, 1, 1), adds(4, 2, 2)), example(), 0, 1, 2)
	wantCycles(t, list(multiplies(1, 2, 2), adds(3, 1, 1), adds(4, 2, 2)), example(), 0, 3, 0)
	// Two stores that do not meet may be of one cycle, two that do may not.
	wantCycles(t, list(stores(1, 2, 8), stores(1, 2, 9)), wide(), 0, 0)
	wantCycles(t, list(stores(1, 2, 8), stores(1, 2, 264)), wide(), 0, 1)
}

func TestEmptyLists(t *testing.T) {
	for _, l := range [][]api.Op{nil, {}, make([]api.Op, 0, 5), list(prints(1), prints(1))[:0]} {
		for _, m := range []api.Table{example(), wide(), units(example(), 0, 0, 0, 0)} {
			wantCycles(t, l, m)
			if !Check(l, m, nil) || !Check(l, m, []int{}) || !Check(l, m, make([]int, 0, 3)) {
				t.Errorf("Check of no operations and no cycles, %v", m)
			}
			wantCheck(t, l, m, false, 0)
			wantCheck(t, l, m, false, -1)
		}
		wantRefused(t, l, api.Table{}, api.ErrTable)
	}
}

// noTables are tables of which one number is out of its bounds.
func noTables() []api.Table {
	all := []api.Table{{}}
	spoil := func(change func(m *api.Table)) {
		m := example()
		change(&m)
		all = append(all, m)
	}
	for class := range api.Classes {
		for _, n := range []int{-1, 9, math.MinInt, math.MaxInt} {
			spoil(func(m *api.Table) { m.Units[class] = n })
		}
		for _, n := range []int{0, -1, 9, math.MinInt, math.MaxInt} {
			spoil(func(m *api.Table) { m.Lat[class] = n })
		}
		for _, n := range []int{0, -1, 5, math.MinInt, math.MaxInt} {
			spoil(func(m *api.Table) { m.Busy[class] = n })
		}
	}
	for _, n := range []int{-1, 5, math.MinInt, math.MaxInt} {
		spoil(func(m *api.Table) { m.Delay = n })
	}
	return all
}

// The errors in their order: each alone, and with all that come behind it.
func TestErrorsInTheirOrder(t *testing.T) {
	fine := list(prints(1), prints(1))
	wrong := list(prints(1), api.Op{Do: api.Jump})
	long := slices.Repeat(fine, api.MaxOps/2+1)[:api.MaxOps+1]
	wrongAndLong := append(slices.Clone(long), wrong...)
	noMem := units(example(), 1, 1, 0, 1)
	none := noMem
	none.Delay = -1
	for _, m := range append(noTables(), none) {
		for _, l := range [][]api.Op{fine, wrong, long, wrongAndLong} {
			wantRefused(t, l, m, api.ErrTable)
		}
	}
	for _, m := range []api.Table{example(), noMem} {
		wantRefused(t, long, m, api.ErrLong)
		wantRefused(t, wrongAndLong, m, api.ErrLong)
		wantRefused(t, wrong, m, api.ErrOp)
		wantRefused(t, make([]api.Op, api.MaxOps+1), m, api.ErrLong)
		wantRefused(t, make([]api.Op, api.MaxOps), m, api.ErrOp)
		wantRefused(t, make([]api.Op, 100000), m, api.ErrLong)
	}
	wantRefused(t, fine, noMem, api.ErrNoUnit)
	wantRefused(t, long[:api.MaxOps], noMem, api.ErrNoUnit)
	wantCycles(t, fine, example(), 0, 1)
}

// whatIsNone are operations that stand in no list.
func whatIsNone() []api.Op {
	var all []api.Op
	for do := -128; do <= 127; do++ {
		if do < api.Const || do > api.Print {
			all = append(all, api.Op{Do: int8(do)}, api.Op{Do: int8(do), A: 1, Imm: 1})
		}
	}
	for do := int8(api.Const); do <= api.Print; do++ {
		all = append(all, api.Op{Do: do, D: 32}, api.Op{Do: do, A: 32}, api.Op{Do: do, B: 255},
			api.Op{Do: do, Imm: 1 << 31}, api.Op{Do: do, Imm: -1<<31 - 1}, api.Op{Do: do, Imm: math.MinInt64})
	}
	// A field that does not count is not 0.
	return append(all, api.Op{Do: api.Const, A: 1}, api.Op{Do: api.Move, B: 1}, api.Op{Do: api.Add, Imm: 1},
		api.Op{Do: api.Load, B: 1}, api.Op{Do: api.Store, D: 1}, api.Op{Do: api.Print, D: 1}, api.Op{Do: api.Print, Imm: 1})
}

func TestOperationsThatStandInNoList(t *testing.T) {
	for _, o := range whatIsNone() {
		wantRefused(t, list(o), example(), api.ErrOp)
		wantRefused(t, list(o), units(example(), 0, 0, 0, 0), api.ErrOp)
		for at := range 4 {
			l := list(consts(1, 0), adds(2, 1, 1), stores(1, 2, 3), prints(2))
			l[at] = o
			wantRefused(t, l, example(), api.ErrOp)
		}
	}
}

// aloneOf answers an operation of each kind that stands in lists; no two of them depend on one another by a register.
func aloneOf() []api.Op {
	var all []api.Op
	for do := int8(api.Const); do <= api.Print; do++ {
		o := api.Op{Do: do, D: uint8(do), A: 30, B: 31}
		switch do {
		case api.Const:
			o.A, o.B = 0, 0
		case api.Move, api.Load:
			o.B = 0
		case api.Store:
			o.D = 0
		case api.Print:
			o.D, o.B = 0, 0
		}
		all = append(all, o)
	}
	return all
}

func classTold(t testing.TB, o api.Op) int {
	t.Helper()
	class, ok := ops.Class(o.Do)
	if !ok {
		t.Fatalf("%v has no class", o)
	}
	return class
}

// The classes are told in this package a second time: they are those of ops.
func TestClassIsThatOfOps(t *testing.T) {
	for _, o := range aloneOf() {
		if got, want := classOf(o), classTold(t, o); got != want {
			t.Errorf("classOf(%v) is %d, want %d", o, got, want)
		}
	}
}

// Each class without a unit, of each kind of operation that uses it, and of each that does not; none uses Ctl.
func TestNoUnit(t *testing.T) {
	for _, o := range aloneOf() {
		used := classTold(t, o)
		for class := range api.Classes {
			m := wide()
			m.Units[class] = 0
			if class != used {
				wantCycles(t, list(o), m, 0)
				continue
			}
			wantRefused(t, list(o), m, api.ErrNoUnit)
			wantRefused(t, list(o, o), m, api.ErrNoUnit)
			wantCycles(t, list(o), wide(), 0)
		}
		var only [api.Classes]int
		only[used] = 1
		m := example()
		m.Units = only
		wantCycles(t, list(o), m, 0)
	}
}

// It is one operation of many that uses the class, wherever it stands.
func TestNoUnitOfOneOfMany(t *testing.T) {
	others := [api.Classes]api.Op{api.Alu: consts(1, 7), api.Mul: multiplies(2, 9, 9), api.Mem: loads(3, 9, 0)}
	for class := range api.Ctl {
		for other := range api.Ctl {
			if other == class {
				continue
			}
			m := wide()
			m.Units[class] = 0
			l := slices.Repeat(list(others[other]), 5)
			if _, e := Cycles(l, m); e != api.OK {
				t.Errorf("no unit of class %d: %v of operations of class %d", class, e, other)
			}
			for at := range l {
				with := slices.Clone(l)
				with[at] = others[class]
				wantRefused(t, with, m, api.ErrNoUnit)
			}
		}
	}
}

// Along an edge of latency 0 both stand in one cycle, if units let them.
func TestEdgesOfNoLatency(t *testing.T) {
	// DepAnti.
	wantCycles(t, list(prints(1), consts(1, 0)), wide(), 0, 0)
	wantCycles(t, list(adds(9, 1, 1), multiplies(1, 8, 8)), wide(), 0, 0)
	// DepOut from a fast one to a slow one, where Lat(i) - Lat(j) + 1 is below 0, and where it is 0 as it stands.
	wantCycles(t, list(consts(1, 0), multiplies(1, 8, 8)), wide(), 0, 0)
	wantCycles(t, list(consts(1, 0), loads(1, 8, 0)), wide(), 0, 0)
	// DepMem from a Load to a Store.
	wantCycles(t, list(loads(1, 2, 8), stores(2, 3, 8)), wide(), 0, 0)
	wantCycles(t, list(loads(1, 2, 8), stores(2, 3, 8)), example(), 0, 1)
	// Several of them one behind the other, as far as units go.
	l := list(moves(9, 1), moves(1, 2), moves(2, 3), moves(3, 4))
	wantCycles(t, l, wide(), 0, 0, 0, 0)
	wantCycles(t, l, units(example(), 3, 1, 1, 1), 0, 0, 0, 1)
	wantCycles(t, l, units(example(), 2, 1, 1, 1), 0, 0, 1, 1)
	wantCycles(t, l, example(), 0, 1, 2, 3)
	// Who may stand beside another one waits till that one is placed, though a unit is free for himself.
	l = list(consts(9, 0), multiplies(10, 9, 9), prints(10), moves(8, 1), multiplies(1, 7, 7))
	wantCycles(t, l, units(example(), 1, 2, 1, 1), 0, 1, 4, 1, 1)
	wantCycles(t, l, units(example(), 2, 2, 1, 1), 0, 1, 4, 0, 0)
	wantCycles(t, l, example(), 0, 1, 4, 1, 3)
}

func TestUnitsThatAreBusy(t *testing.T) {
	l := list(multiplies(1, 8, 8), multiplies(2, 8, 8), multiplies(3, 8, 8), multiplies(4, 8, 8), multiplies(5, 8, 8))
	for n := 1; n <= api.MaxUnits; n++ {
		for long := 1; long <= api.MaxBusy; long++ {
			var want []int
			for k := range l {
				want = append(want, k/n*long)
			}
			wantCycles(t, l, busy(units(example(), 1, n, 1, 1), 1, long, 1, 1), want...)
			// How long others are busy makes no difference.
			wantCycles(t, l, busy(units(example(), 0, n, 0, 0), 4, long, 4, 4), want...)
		}
	}
	// Longer than till the result lands, and longer than an edge asks.
	m := busy(example(), 3, 2, 4, 1)
	wantCycles(t, list(consts(1, 0), moves(2, 1), moves(3, 2)), m, 0, 3, 6)
	wantCycles(t, list(prints(1), prints(1), prints(1)), m, 0, 4, 8)
	// Each class by itself.
	wantCycles(t, list(consts(1, 0), multiplies(2, 9, 9), loads(3, 9, 0), consts(4, 0), multiplies(5, 9, 9), loads(6, 9, 0)), m, 0, 0, 0, 3, 2, 4)
	// One of two units is busy since the cycle ahead: one operation more goes in, two do not.
	l = list(consts(1, 0), multiplies(2, 1, 1), multiplies(3, 8, 8), multiplies(4, 2, 2), multiplies(5, 1, 1))
	wantCycles(t, l, busy(units(example(), 1, 2, 1, 1), 1, 4, 1, 1), 0, 1, 0, 4, 5)
}

// Of two that are ready at once, for one unit, the first in height.Order is placed.
func TestFirstInOrder(t *testing.T) {
	l := list(adds(5, 2, 2), adds(1, 2, 3), multiplies(4, 1, 1))
	wantCycles(t, l, example(), 1, 0, 1)
	wantCycles(t, l, units(example(), 2, 1, 1, 1), 0, 0, 1)
	// Those of one height by their numbers.
	wantCycles(t, list(consts(1, 0), consts(2, 0), consts(3, 0)), example(), 0, 1, 2)
	// Chains that rise: the last begun is the highest, and its second one is as high as the first one of the chain ahead.
	l = list(consts(1, 0), consts(2, 0), moves(3, 2), consts(4, 0), moves(5, 4), moves(6, 5))
	wantCycles(t, l, example(), 3, 1, 4, 0, 2, 5)
	// The first in order that is not ready keeps nobody.
	wantCycles(t, list(multiplies(1, 2, 2), adds(3, 1, 1), prints(3), consts(4, 0)), example(), 0, 3, 4, 0)
	// Nor the first in order for which no unit is free.
	wantCycles(t, list(multiplies(1, 2, 2), multiplies(3, 2, 2), prints(9), consts(4, 0)), example(), 0, 2, 0, 0)
	// A low one that was let in early is busy when a high one becomes ready: it is not put back.
	m := busy(example(), 1, 4, 1, 1)
	wantCycles(t, list(consts(1, 0), multiplies(2, 1, 1), prints(2), multiplies(3, 9, 9)), m, 0, 4, 7, 0)
}

// Edges of each Why of chapter 11's table: the To comes as many cycles behind as the Lat says.
func TestLatenciesOfEachWhy(t *testing.T) {
	for _, m := range []api.Table{wide(), lats(wide(), 2, 5, 3, 7), lats(wide(), 8, 1, 4, 2), lats(wide(), 3, 8, 1, 1)} {
		alu, mul, mem := m.Lat[api.Alu], m.Lat[api.Mul], m.Lat[api.Mem]
		wantCycles(t, list(loads(1, 9, 0), multiplies(2, 1, 1), adds(3, 2, 2), prints(3)), m, 0, mem, mem+mul, mem+mul+alu)
		wantCycles(t, list(multiplies(1, 9, 9), consts(1, 0)), m, 0, max(0, mul-alu+1))
		wantCycles(t, list(consts(1, 0), consts(1, 1)), m, 0, 1)
		wantCycles(t, list(loads(1, 9, 0), multiplies(1, 9, 9)), m, 0, max(0, mem-mul+1))
		wantCycles(t, list(stores(1, 2, 8), loads(3, 1, 8)), m, 0, mem)
		wantCycles(t, list(stores(1, 2, 8), stores(1, 2, 8), stores(1, 2, 8)), m, 0, 1, 2)
		wantCycles(t, list(prints(9), divides(1, 9, 9), rests(2, 9, 9), prints(9)), m, 0, 1, 2, 3)
		// Of two edges between the same two, and of edges from unlike ones, the one that asks most.
		wantCycles(t, list(multiplies(1, 1, 1), adds(1, 1, 1)), m, 0, mul)
		wantCycles(t, list(multiplies(1, 9, 9), adds(2, 9, 9), loads(3, 9, 0), adds(1, 2, 1), stores(1, 3, 0)), m,
			0, 0, 0, max(mul, alu), max(mem, max(mul, alu)+alu))
	}
}

func TestCheckOfTooFewAndTooMany(t *testing.T) {
	l := list(multiplies(1, 2, 3), multiplies(4, 2, 2), adds(5, 1, 1))
	wantCheck(t, l, example(), true, 0, 2, 3)
	wantCheck(t, l, example(), false)
	wantCheck(t, l, example(), false, 0)
	wantCheck(t, l, example(), false, 0, 2)
	wantCheck(t, l, example(), false, 0, 2, 3, 4)
	wantCheck(t, l, example(), false, 0, 2, 3, 0)
	wantCheck(t, l, example(), false, apart(1000)...)
	// What stands behind a list's end is none of its cycles, and none of its operations.
	cycles := []int{0, 2, 3, 9, 12}
	for n := range cycles {
		if got := Check(l, example(), cycles[:n]); got != (n == 3) {
			t.Errorf("Check of %d cycles is %v", n, got)
		}
	}
	for n := range l {
		wantCheck(t, l[:n], example(), false, 0, 2, 3)
		wantCheck(t, l[:n], example(), true, cycles[:n]...)
	}
}

// From 0 to MaxCycles, of each place of a list.
func TestCheckOfTheFirstAndTheLastCycle(t *testing.T) {
	l := list(consts(1, 0), multiplies(2, 8, 8), loads(3, 9, 0))
	for at := range l {
		for _, ok := range []int{0, 1, api.MaxCycles - 1, api.MaxCycles} {
			cycles := []int{5, 5, 5}
			cycles[at] = ok
			wantCheck(t, l, example(), true, cycles...)
		}
		for _, not := range []int{-1, -2, -api.MaxCycles, math.MinInt, api.MaxCycles + 1, api.MaxCycles + 2, 1 << 32, math.MaxInt - 1, math.MaxInt} {
			cycles := []int{5, 5, 5}
			cycles[at] = not
			wantCheck(t, l, example(), false, cycles...)
		}
	}
	wantCheck(t, l, example(), true, api.MaxCycles, api.MaxCycles, api.MaxCycles)
	wantCheck(t, l, example(), false, -1, -1, -1)
	// A number so great that Lat and it together have none, and one below 0 behind it.
	l = list(multiplies(1, 2, 2), moves(3, 1))
	wantCheck(t, l, example(), false, math.MaxInt, math.MinInt)
	wantCheck(t, l, example(), false, math.MaxInt, math.MaxInt)
	wantCheck(t, l, example(), false, math.MinInt, math.MinInt+3)
	wantCheck(t, l, example(), false, math.MinInt, 0)
	wantCheck(t, l, example(), true, api.MaxCycles-3, api.MaxCycles)
	wantCheck(t, l, example(), false, api.MaxCycles-2, api.MaxCycles)
	wantCheck(t, l, example(), false, api.MaxCycles-2, api.MaxCycles+1)
}

// Of each Why: kept to the cycle, one cycle short, and the wrong way round; with units for all, so that edges alone tell.
func TestCheckOfEdges(t *testing.T) {
	m := busy(lats(wide(), 2, 5, 3, 7), 1, 1, 1, 1)
	var seen [5]int
	for _, x := range []struct {
		l   []api.Op
		lat int
	}{
		{list(consts(1, 0), prints(1)), 2},
		{list(multiplies(1, 9, 9), prints(1)), 5},
		{list(loads(1, 9, 0), moves(2, 1)), 3},
		{list(prints(1), consts(1, 0)), 0},
		{list(consts(1, 0), consts(1, 0)), 1},
		{list(multiplies(1, 9, 9), consts(1, 0)), 4},
		{list(consts(1, 0), multiplies(1, 9, 9)), 0},
		{list(stores(1, 2, 8), loads(3, 1, 8)), 3},
		{list(loads(3, 1, 8), stores(1, 2, 8)), 0},
		{list(stores(1, 2, 8), stores(1, 2, 8)), 1},
		{list(prints(9), divides(1, 9, 9)), 1},
		{list(rests(1, 9, 9), prints(9)), 1},
		{list(prints(9), prints(8)), 1},
	} {
		edges, _ := deps.Of(x.l, m)
		for _, d := range edges {
			seen[d.Why]++
		}
		for _, from := range []int{9, api.MaxCycles - 9} {
			wantCheck(t, x.l, m, true, from, from+x.lat)
			wantCheck(t, x.l, m, true, from, from+x.lat+1)
			wantCheck(t, x.l, m, true, from, from+9)
			wantCheck(t, x.l, m, false, from, from+x.lat-1)
			wantCheck(t, x.l, m, false, from, from-1)
			wantCheck(t, x.l, m, false, from, 0)
		}
	}
	if slices.Min(seen[:]) == 0 {
		t.Errorf("edges by Why %v", seen)
	}
}

// One edge of many, wherever it goes: each operation of a chain one cycle too early.
func TestCheckOfOneEdgeOfMany(t *testing.T) {
	l := list(consts(1, 0), multiplies(2, 1, 1), adds(3, 2, 2), stores(9, 3, 0), loads(4, 9, 0), prints(4))
	good := []int{0, 1, 4, 5, 7, 9}
	wantCycles(t, l, example(), good...)
	for at := range l {
		cycles := slices.Clone(good)
		cycles[at]--
		wantCheck(t, l, example(), false, cycles...)
		// And with all behind it too early as well.
		for n := at; n < len(l); n++ {
			cycles[n] = good[n] - 1
		}
		wantCheck(t, l, example(), false, cycles...)
		// Later is well, if all behind it is.
		for n := range l {
			cycles[n] = good[n]
			if n >= at {
				cycles[n] += 10
			}
		}
		wantCheck(t, l, example(), true, cycles...)
	}
}

// freeOf answers operations of one class without edges among them.
func freeOf(class, count int) []api.Op {
	var l []api.Op
	for n := range count {
		switch class {
		case api.Alu:
			l = append(l, consts(uint8(n), 0))
		case api.Mul:
			l = append(l, multiplies(uint8(n), 31, 31))
		case api.Mem:
			l = append(l, stores(30, 31, int64(n)))
		}
	}
	return l
}

// As many units busy as there are, and one more.
func TestCheckOfUnits(t *testing.T) {
	for class := range api.Ctl {
		for n := 1; n <= api.MaxUnits; n++ {
			for long := 1; long <= api.MaxBusy; long++ {
				m := lats(example(), 1, 1, 1, 1)
				m.Units[class], m.Busy[class] = n, long
				for _, at := range []int{4, api.MaxCycles - 4} {
					same := slices.Repeat([]int{at}, n)
					wantCheck(t, freeOf(class, n), m, true, same...)
					l := freeOf(class, n+1)
					for k := -4; k <= 4; k++ {
						well := k <= -long || k >= long
						wantCheck(t, l, m, well, append(slices.Clone(same), at+k)...)
						wantCheck(t, l, m, well, append([]int{at + k}, same...)...)
					}
				}
			}
		}
	}
}

// Units that are busy behind the last cycle that a schedule has are busy all the same.
func TestCheckOfUnitsBehindTheLastCycle(t *testing.T) {
	m := busy(example(), 1, 4, 1, 1)
	l := freeOf(api.Mul, 2)
	wantCheck(t, l, m, false, api.MaxCycles, api.MaxCycles)
	wantCheck(t, l, m, false, api.MaxCycles-1, api.MaxCycles)
	wantCheck(t, l, m, false, api.MaxCycles, api.MaxCycles-3)
	wantCheck(t, l, m, true, api.MaxCycles, api.MaxCycles-4)
	wantCheck(t, l, units(m, 1, 2, 1, 1), true, api.MaxCycles, api.MaxCycles)
}

// Units of another class help nobody, and operations of another class keep nobody from them.
func TestCheckOfUnitsClassByClass(t *testing.T) {
	for class := range api.Ctl {
		m := wide()
		m.Units[class] = 2
		wantCheck(t, freeOf(class, 2), m, true, 3, 3)
		wantCheck(t, freeOf(class, 3), m, false, 3, 3, 3)
	}
	l := slices.Concat(freeOf(api.Alu, 8), freeOf(api.Mem, 8), list(multiplies(20, 29, 29), multiplies(21, 29, 29)))
	wantCheck(t, l, wide(), true, make([]int, 18)...)
	wantCheck(t, l, units(wide(), 8, 1, 8, 8), false, make([]int, 18)...)
	wantCheck(t, l, units(wide(), 8, 2, 8, 0), true, make([]int, 18)...)
}

// Three whose busy cycles are a chain: no two neighbours fit one unit, the first and the last do.
func TestCheckOfUnitsThatAreBusy(t *testing.T) {
	m := busy(example(), 1, 3, 1, 1)
	l := freeOf(api.Mul, 3)
	for _, x := range [][]int{{0, 2, 4}, {4, 0, 2}, {2, 4, 0}, {0, 2, 9}, {9, 4, 6}} {
		wantCheck(t, l, m, false, x...)
		wantCheck(t, l, units(m, 1, 2, 1, 1), true, x...)
	}
	wantCheck(t, l, units(m, 1, 2, 1, 1), false, 0, 1, 2)
	wantCheck(t, l, units(m, 1, 3, 1, 1), true, 0, 1, 2)
	wantCheck(t, l, m, true, 6, 0, 3)
}

// A schedule that is not the list's way is one all the same, if it keeps edges and units.
func TestCheckOfOtherSchedules(t *testing.T) {
	l := list(multiplies(1, 2, 3), multiplies(4, 2, 2), adds(5, 1, 1))
	wantCycles(t, l, example(), 0, 2, 3)
	wantCheck(t, l, example(), true, 2, 0, 5)
	wantCheck(t, l, example(), true, 0, 2, api.MaxCycles)
	wantCheck(t, l, example(), true, 100, 2000, 30000)
	wantCheck(t, l, example(), false, 0, 1, 3)
	wantCheck(t, l, example(), false, 0, 2, 2)
}

// Cycles has an error of it: Check is false of cycles that keep edges and units.
func TestCheckOfWhatIsRefused(t *testing.T) {
	l := list(consts(1, 0), multiplies(2, 1, 1), prints(2))
	wantCheck(t, l, example(), true, 0, 1, 4)
	for _, m := range noTables() {
		wantCheck(t, l, m, false, 0, 1, 4)
	}
	wantCheck(t, l, units(example(), 0, 1, 1, 1), false, 0, 1, 4)
	wantCheck(t, l, units(example(), 1, 0, 1, 1), false, 0, 1, 4)
	wantCheck(t, l, units(example(), 1, 1, 0, 1), false, 0, 1, 4)
	wantCheck(t, l, units(example(), 1, 1, 1, 0), true, 0, 1, 4)
	for _, o := range whatIsNone() {
		wantCheck(t, append(slices.Clone(l), o), example(), false, 0, 1, 4, 20)
	}
	long := slices.Repeat(list(prints(1)), api.MaxOps+1)
	wantCheck(t, long[1:], example(), true, apart(api.MaxOps)...)
	wantCheck(t, long, example(), false, apart(api.MaxOps+1)...)
}

// The longest lists: the greatest cycle that there is, by edges; and by units.
func TestLongestLists(t *testing.T) {
	slow := busy(lats(example(), 8, 8, 8, 8), 4, 4, 4, 4)
	chain := slices.Repeat(list(multiplies(1, 1, 1)), api.MaxOps)
	wantCycles(t, chain, slow, apart(api.MaxOps)...)
	wantRefused(t, append(chain, chain[0]), slow, api.ErrLong)
	// 32 chains side by side: units keep them, not the edges.
	var l []api.Op
	var one, eight []int
	for n := range api.MaxOps {
		register := uint8(n % api.Registers)
		l = append(l, adds(register, register, register))
		one = append(one, 4*n)
		eight = append(eight, n/8*4)
	}
	wantCycles(t, l, slow, one...)
	wantCycles(t, l, units(slow, 8, 0, 0, 0), eight...)
}
