package modulo

import (
	"math"
	"slices"
	"testing"

	"hayloft/api"
	"hayloft/bounds"
	"hayloft/deps"
	"hayloft/list"
	"hayloft/ops"
)

func consts(d uint8, imm int64) api.Op { return api.Op{Do: api.Const, D: d, Imm: imm} }

func moves(d, a uint8) api.Op { return api.Op{Do: api.Move, D: d, A: a} }

func adds(d, a, b uint8) api.Op { return api.Op{Do: api.Add, D: d, A: a, B: b} }

func multiplies(d, a, b uint8) api.Op { return api.Op{Do: api.Times, D: d, A: a, B: b} }

func divides(d, a, b uint8) api.Op { return api.Op{Do: api.Divide, D: d, A: a, B: b} }

func rests(d, a, b uint8) api.Op { return api.Op{Do: api.Rest, D: d, A: a, B: b} }

func loads(d, a uint8, imm int64) api.Op { return api.Op{Do: api.Load, D: d, A: a, Imm: imm} }

func stores(a, b uint8, imm int64) api.Op { return api.Op{Do: api.Store, A: a, B: b, Imm: imm} }

func prints(a uint8) api.Op { return api.Op{Do: api.Print, A: a} }

func bodyOf(l ...api.Op) []api.Op { return l }

// The chapter's table.
func example() api.Table {
	return api.Table{Units: [api.Classes]int{1, 1, 1, 1}, Lat: [api.Classes]int{1, 3, 2, 1}, Busy: [api.Classes]int{1, 1, 1, 1}, Delay: 1}
}

// units answers the table with other numbers of units.
func units(m api.Table, alu, mul, mem, ctl int) api.Table {
	m.Units = [api.Classes]int{alu, mul, mem, ctl}
	return m
}

// wide is the chapter's table with as many units as there can be.
func wide() api.Table { return units(example(), 8, 8, 8, 8) }

func lats(m api.Table, alu, mul, mem, ctl int) api.Table {
	m.Lat = [api.Classes]int{alu, mul, mem, ctl}
	return m
}

func busy(m api.Table, alu, mul, mem, ctl int) api.Table {
	m.Busy = [api.Classes]int{alu, mul, mem, ctl}
	return m
}

func delay(m api.Table, n int) api.Table {
	m.Delay = n
	return m
}

// noTables are tables of which one number is out of its bounds.
func noTables() []api.Table {
	all := []api.Table{{}}
	spoil := func(change func(m *api.Table)) {
		m := example()
		change(&m)
		all = append(all, m)
	}
	for class := range api.Classes {
		for _, n := range []int{-1, 9, math.MinInt, math.MaxInt} {
			spoil(func(m *api.Table) { m.Units[class] = n })
		}
		for _, n := range []int{0, -1, 9, math.MinInt, math.MaxInt} {
			spoil(func(m *api.Table) { m.Lat[class] = n })
		}
		for _, n := range []int{0, -1, 5, math.MinInt, math.MaxInt} {
			spoil(func(m *api.Table) { m.Busy[class] = n })
		}
	}
	for _, n := range []int{-1, 5, math.MinInt, math.MaxInt} {
		spoil(func(m *api.Table) { m.Delay = n })
	}
	return all
}

// whatIsNone are operations that stand in no body.
func whatIsNone() []api.Op {
	var all []api.Op
	for do := -128; do <= 127; do++ {
		if do < api.Const || do > api.Print {
			all = append(all, api.Op{Do: int8(do)}, api.Op{Do: int8(do), A: 1, Imm: 1})
		}
	}
	for do := int8(api.Const); do <= api.Print; do++ {
		all = append(all, api.Op{Do: do, D: 32}, api.Op{Do: do, A: 32}, api.Op{Do: do, B: 255},
			api.Op{Do: do, Imm: 1 << 31}, api.Op{Do: do, Imm: -1<<31 - 1}, api.Op{Do: do, Imm: math.MinInt64})
	}
	// A field that does not count is not 0.
	return append(all, api.Op{Do: api.Const, A: 1}, api.Op{Do: api.Move, B: 1}, api.Op{Do: api.Add, Imm: 1},
		api.Op{Do: api.Load, B: 1}, api.Op{Do: api.Store, D: 1}, api.Op{Do: api.Print, D: 1}, api.Op{Do: api.Print, Imm: 1})
}

// aloneOf answers an operation of each kind that stands in bodies; no two of them depend on one another by a register.
func aloneOf() []api.Op {
	var all []api.Op
	for do := int8(api.Const); do <= api.Print; do++ {
		o := api.Op{Do: do, D: uint8(do), A: 30, B: 31}
		switch do {
		case api.Const:
			o.A, o.B = 0, 0
		case api.Move, api.Load:
			o.B = 0
		case api.Store:
			o.D = 0
		case api.Print:
			o.D, o.B = 0, 0
		}
		all = append(all, o)
	}
	return all
}

func classTold(t testing.TB, o api.Op) int {
	t.Helper()
	class, ok := ops.Class(o.Do)
	if !ok {
		t.Fatalf("%v has no class", o)
	}
	return class
}

// freeOf answers operations of one class without edges among them.
func freeOf(class, count int) []api.Op {
	var l []api.Op
	for n := range count {
		switch class {
		case api.Alu:
			l = append(l, consts(uint8(n), 0))
		case api.Mul:
			l = append(l, multiplies(uint8(n), 31, 31))
		case api.Mem:
			l = append(l, stores(30, 31, int64(n)))
		}
	}
	return l
}

func plan(every, stages int, cycles ...int) api.Plan {
	return api.Plan{Every: every, Cycles: cycles, Stages: stages}
}

func samePlan(p, q api.Plan) bool {
	return p.Every == q.Every && p.Stages == q.Stages && slices.Equal(p.Cycles, q.Cycles)
}

func wantCheck(t *testing.T, l []api.Op, m api.Table, p api.Plan, want bool) {
	t.Helper()
	if got := Check(l, m, p); got != want {
		t.Errorf("Check(%v, %v, %v) is %v, want %v", l, m, p, got, want)
	}
}

// wantRight says that Check takes the cycles with the Stages that are right, and with no others.
func wantRight(t *testing.T, l []api.Op, m api.Table, stages, every int, cycles ...int) {
	t.Helper()
	wantCheck(t, l, m, plan(every, stages, cycles...), true)
	for _, wrong := range []int{stages - 1, stages + 1, 0, -stages, 32, math.MinInt, math.MaxInt} {
		wantCheck(t, l, m, plan(every, wrong, cycles...), false)
	}
}

// wantNone says that Check takes the cycles with no Stages at all.
func wantNone(t *testing.T, l []api.Op, m api.Table, every int, cycles ...int) {
	t.Helper()
	for stages := -1; stages <= 40; stages++ {
		wantCheck(t, l, m, plan(every, stages, cycles...), false)
	}
}

// drainedTold is the chapter's drained length told a second time, of cycles that list.Cycles made.
func drainedTold(t testing.TB, l []api.Op, m api.Table, cycles []int) int {
	t.Helper()
	length := []int{1 + m.Delay, m.Busy[api.Ctl]}
	for n, o := range l {
		class := classTold(t, o)
		length = append(length, cycles[n]+m.Lat[class], cycles[n]+m.Busy[class])
	}
	return slices.Max(length)
}

// wantFound says that what Find tells is all that P16.2 asks, and hands the plan out.
func wantFound(t testing.TB, l []api.Op, m api.Table) api.Plan {
	t.Helper()
	least, e := bounds.Least(l, m)
	cycles, f := list.Cycles(l, m)
	p, g := Find(l, m)
	if e != api.OK || f != api.OK || g != api.OK {
		t.Fatalf("%v, %v: Least has %v, Cycles %v, Find %v", l, m, e, f, g)
	}
	drained := drainedTold(t, l, m, cycles)
	if !Check(l, m, p) || p.Every < least || p.Every < 1+m.Delay || p.Every > drained || p.Stages*p.Every > 2*drained {
		t.Fatalf("Find(%v, %v) is %v, where the least is %d, the drained length %d", l, m, p, least, drained)
	}
	return p
}

func wantEvery(t *testing.T, l []api.Op, m api.Table, every, stages int) {
	t.Helper()
	if p := wantFound(t, l, m); p.Every != every || p.Stages != stages {
		t.Errorf("Find(%v, %v) is %v, want Every %d, Stages %d", l, m, p, every, stages)
	}
}

// wantRefused says that Find has the error and no plan beside it, and that Check takes nothing.
func wantRefused(t *testing.T, l []api.Op, m api.Table, want api.Errno) {
	t.Helper()
	if p, e := Find(l, m); e != want || !samePlan(p, api.Plan{}) {
		t.Errorf("Find of %d operations, %v, is %v, %v, want %v", len(l), m, p, e, want)
	}
	for _, every := range []int{1, 5, 10000, api.MaxCycles} {
		if cycles := make([]int, min(len(l), 100000)); Check(l, m, plan(every, 1, cycles...)) {
			t.Errorf("Check of %d operations, %v, where Find has %v", len(l), m, want)
		}
	}
}

func TestChapterExamples(t *testing.T) {
	l := bodyOf(adds(1, 1, 2))
	wantEvery(t, l, example(), 2, 1)
	wantCheck(t, l, example(), plan(2, 1, 0), true)
	wantCheck(t, l, example(), plan(1, 1, 0), false)
	wantEvery(t, bodyOf(multiplies(1, 1, 2)), example(), 3, 1)
	l = bodyOf(loads(1, 2, 0), adds(3, 3, 1))
	wantEvery(t, l, example(), 2, 2)
	wantCheck(t, l, example(), plan(2, 2, 0, 2), true)
	wantCheck(t, l, example(), plan(2, 1, 0, 2), false)
	wantRefused(t, slices.Repeat(l, 33)[:65], example(), api.ErrLong)
	wantEvery(t, nil, example(), 2, 1)
}

// DOC.md's sum over a loaded row. What was loaded is read ahead of the next round's load (a DepAnti of latency 0),
// so that a round begins no sooner than the load's latency behind the one ahead, and every second cycle of one of 2.
func TestASumOverALoadedRow(t *testing.T) {
	l := bodyOf(loads(3, 4, 0), adds(2, 2, 3), adds(4, 4, 5))
	for lat := 1; lat <= api.MaxLatency; lat++ {
		p := wantFound(t, l, lats(example(), 1, 3, lat, 1))
		if p.Every != max(2, lat) {
			t.Errorf("latency %d: %v", lat, p)
		}
	}
}

// Of no operations a plan has no cycles and one stage, whatever Every; the one that turns back is there all the same.
func TestEmptyBodies(t *testing.T) {
	for _, l := range [][]api.Op{nil, {}, make([]api.Op, 0, 5), bodyOf(prints(1), prints(1))[:0]} {
		for slots := range api.MaxDelay + 1 {
			m := delay(units(example(), 0, 0, 0, 1), slots)
			wantEvery(t, l, m, 1+slots, 1)
			wantRight(t, l, m, 1, 1+slots)
			wantRight(t, l, m, 1, api.MaxCycles)
			wantNone(t, l, m, slots)
			wantNone(t, l, m, api.MaxCycles+1)
			wantNone(t, l, m, 1+slots, 0)
			wantRefused(t, l, delay(units(example(), 8, 8, 8, 0), slots), api.ErrNoUnit)
		}
		if !Check(l, example(), api.Plan{Every: 2, Cycles: []int{}, Stages: 1}) {
			t.Error("of no cycles that are not nil")
		}
		wantRefused(t, l, api.Table{}, api.ErrTable)
	}
	for long := 1; long <= api.MaxBusy; long++ {
		for n := 1; n <= api.MaxUnits; n++ {
			for slots := range api.MaxDelay + 1 {
				m := delay(busy(units(example(), 0, 0, 0, n), 1, 1, 1, long), slots)
				wantEvery(t, nil, m, max(1+slots, (long+n-1)/n), 1)
			}
		}
	}
}

// The errors in their order: each alone, and with all that come behind it.
func TestErrorsInTheirOrder(t *testing.T) {
	fine := bodyOf(prints(1), prints(1))
	wrong := bodyOf(prints(1), api.Op{Do: api.Jump})
	long := slices.Repeat(fine, api.MaxBody/2+1)[:api.MaxBody+1]
	wrongAndLong := append(slices.Clone(long), wrong...)
	noMem := units(example(), 1, 1, 0, 1)
	noCtl := units(example(), 1, 1, 1, 0)
	for _, m := range append(noTables(), delay(noMem, -1), delay(noCtl, 5)) {
		for _, l := range [][]api.Op{nil, fine, wrong, long, wrongAndLong} {
			wantRefused(t, l, m, api.ErrTable)
		}
	}
	for _, m := range []api.Table{example(), noMem, noCtl} {
		// list.Cycles lets in lists that are longer, and has ErrOp or ErrNoUnit of these.
		wantRefused(t, long, m, api.ErrLong)
		wantRefused(t, wrongAndLong, m, api.ErrLong)
		wantRefused(t, make([]api.Op, api.MaxBody+1), m, api.ErrLong)
		wantRefused(t, make([]api.Op, api.MaxOps), m, api.ErrLong)
		wantRefused(t, make([]api.Op, api.MaxOps+1), m, api.ErrLong)
		wantRefused(t, make([]api.Op, 100000), m, api.ErrLong)
		wantRefused(t, wrong, m, api.ErrOp)
		wantRefused(t, make([]api.Op, 1), m, api.ErrOp)
		wantRefused(t, make([]api.Op, api.MaxBody), m, api.ErrOp)
	}
	for _, m := range []api.Table{noMem, noCtl} {
		wantRefused(t, fine, m, api.ErrNoUnit)
		wantRefused(t, long[:api.MaxBody], m, api.ErrNoUnit)
	}
	wantEvery(t, long[:api.MaxBody], example(), api.MaxBody, 1)
	wantEvery(t, fine, example(), 2, 1)
}

// What stands behind a body's end is none of its operations.
func TestTheLongestBody(t *testing.T) {
	l := slices.Repeat(bodyOf(consts(1, 0)), 2*api.MaxBody)
	var cycles []int
	for n := range 2 * api.MaxBody {
		cycles = append(cycles, n)
	}
	for _, count := range []int{api.MaxBody - 1, api.MaxBody} {
		wantEvery(t, l[:count], example(), count, 1)
		wantRight(t, l[:count], example(), 1, count, cycles[:count]...)
		wantNone(t, l[:count], example(), count-1, cycles[:count]...)
	}
	wantRefused(t, l[:api.MaxBody+1], example(), api.ErrLong)
	wantNone(t, l[:api.MaxBody+1], example(), api.MaxBody+1, cycles[:api.MaxBody+1]...)
	l[api.MaxBody] = api.Op{Do: -1}
	wantEvery(t, l[:api.MaxBody], example(), api.MaxBody, 1)
}

func TestOperationsThatStandInNoBody(t *testing.T) {
	for _, o := range whatIsNone() {
		wantRefused(t, bodyOf(o), example(), api.ErrOp)
		wantRefused(t, bodyOf(o), units(example(), 0, 0, 0, 0), api.ErrOp)
		for at := range 4 {
			l := bodyOf(consts(1, 0), adds(2, 1, 1), stores(1, 2, 3), prints(2))
			l[at] = o
			wantRefused(t, l, example(), api.ErrOp)
			wantNone(t, l, example(), 100, 0, 20, 40, 60)
		}
	}
}

// The classes are told in this package a second time: they are those of ops.
func TestClassIsThatOfOps(t *testing.T) {
	for _, o := range aloneOf() {
		if got, want := classOf(o), classTold(t, o); got != want {
			t.Errorf("classOf(%v) is %d, want %d", o, got, want)
		}
	}
}

// Each class without a unit, of each kind of operation that uses it, and of each that does not; Ctl is always used.
func TestNoUnit(t *testing.T) {
	for _, o := range aloneOf() {
		used := classTold(t, o)
		for class := range api.Classes {
			m := wide()
			m.Units[class] = 0
			if class != used && class != api.Ctl {
				wantEvery(t, bodyOf(o), m, 2, 1)
				wantRight(t, bodyOf(o), m, 1, 2, 1)
				continue
			}
			wantRefused(t, bodyOf(o), m, api.ErrNoUnit)
			wantRefused(t, bodyOf(o, o), m, api.ErrNoUnit)
			wantNone(t, bodyOf(o), m, 9, 0)
		}
	}
}

// It is one operation of many that uses the class, wherever it stands.
func TestNoUnitOfOneOfMany(t *testing.T) {
	others := [api.Classes]api.Op{api.Alu: consts(1, 7), api.Mul: multiplies(2, 9, 9), api.Mem: loads(3, 9, 0)}
	for class := range api.Ctl {
		m := wide()
		m.Units[class] = 0
		l := slices.Repeat(bodyOf(others[(class+1)%api.Ctl]), 5)
		wantEvery(t, l, m, 5, 1)
		for at := range l {
			with := slices.Clone(l)
			with[at] = others[class]
			wantRefused(t, with, m, api.ErrNoUnit)
			wantNone(t, with, m, 20, 0, 1, 2, 3, 4)
		}
	}
}

// From 1 + Delay to MaxCycles.
func TestCheckOfEvery(t *testing.T) {
	l := freeOf(api.Alu, 2)
	for slots := range api.MaxDelay + 1 {
		m := delay(wide(), slots)
		for every := 1 + slots; every <= 12; every++ {
			wantRight(t, l, m, 1, every, 0, 0)
			wantRight(t, l, m, (9+every)/every, every, 9, 0)
		}
		for _, every := range []int{100, api.MaxCycles - 1, api.MaxCycles} {
			wantRight(t, l, m, 1, every, 0, 9)
		}
		for _, every := range []int{slots, slots - 1, 0, -1, math.MinInt, api.MaxCycles + 1, 1 << 32, math.MaxInt} {
			wantNone(t, l, m, every, 0, 0)
			wantNone(t, l, m, every, 0, 9)
		}
	}
}

func TestCheckOfTooFewAndTooMany(t *testing.T) {
	l := bodyOf(multiplies(1, 2, 3), multiplies(4, 2, 2), adds(5, 1, 1))
	wantRight(t, l, example(), 2, 3, 0, 1, 3)
	wantNone(t, l, example(), 3)
	wantNone(t, l, example(), 3, 0)
	wantNone(t, l, example(), 3, 0, 1)
	wantNone(t, l, example(), 3, 0, 1, 3, 0)
	wantNone(t, l, example(), 3, 0, 1, 3, 3)
	wantNone(t, l, example(), 3, make([]int, 1000)...)
	// What stands behind a list's end is none of its cycles, and none of its operations.
	cycles := []int{0, 1, 3, 9, 12}
	for n := range cycles {
		wantCheck(t, l, example(), api.Plan{Every: 3, Cycles: cycles[:n], Stages: 2}, n == 3)
	}
	for n := range l {
		wantNone(t, l[:n], example(), 3, 0, 1, 3)
		wantRight(t, l[:n], example(), 1, 3, cycles[:n]...)
	}
}

// From 0 to MaxCycles, of each place of a body.
func TestCheckOfTheFirstAndTheLastCycle(t *testing.T) {
	l := bodyOf(consts(1, 0), multiplies(2, 8, 8), loads(3, 9, 0))
	const every = 5000
	for at := range l {
		for _, ok := range []int{0, 1, 4999, 5000, api.MaxCycles - 1, api.MaxCycles} {
			cycles := []int{5, 5, 5}
			cycles[at] = ok
			wantRight(t, l, example(), ok/every+1, every, cycles...)
		}
		for _, not := range []int{-1, -2, -every, -api.MaxCycles, math.MinInt, api.MaxCycles + 1, api.MaxCycles + 2, 1 << 32, math.MaxInt - 1, math.MaxInt} {
			cycles := []int{5, 5, 5}
			cycles[at] = not
			wantNone(t, l, example(), every, cycles...)
			wantNone(t, l, example(), api.MaxCycles, cycles...)
		}
	}
	wantRight(t, l, example(), 2, api.MaxCycles, api.MaxCycles, api.MaxCycles, api.MaxCycles)
	wantRight(t, l, example(), 1, api.MaxCycles, api.MaxCycles-1, 0, 0)
	wantNone(t, l, example(), every, -1, -1, -1)
	// A number so great that Lat and it together have none, and one below 0 behind it.
	l = bodyOf(multiplies(1, 2, 2), moves(3, 1))
	wantNone(t, l, example(), every, math.MaxInt, math.MinInt)
	wantNone(t, l, example(), every, math.MaxInt, math.MaxInt)
	wantNone(t, l, example(), every, math.MinInt, 0)
	wantRight(t, l, example(), 14, every, api.MaxCycles-3, api.MaxCycles)
	wantNone(t, l, example(), every, api.MaxCycles-2, api.MaxCycles)
	wantNone(t, l, example(), every, api.MaxCycles-2, api.MaxCycles+1)
}

// The greatest cycle and 1, divided by Every, rounded up: it changes where a cycle is a multiple of Every.
func TestCheckOfStages(t *testing.T) {
	l := freeOf(api.Mul, 3)
	for _, every := range []int{2, 3, 7, 64, 2000} {
		for stages := 1; stages <= 33; stages++ {
			for _, last := range []int{(stages - 1) * every, stages*every - 1} {
				for at := range l {
					cycles := []int{0, min(every, last), 0}
					cycles[at] = last
					if stages > 31 || last > api.MaxCycles {
						wantNone(t, l, wide(), every, cycles...)
					} else {
						wantRight(t, l, wide(), stages, every, cycles...)
					}
				}
			}
		}
	}
	// It is the greatest cycle that counts, not how many there are between the first and the last.
	wantRight(t, l, wide(), 31, 4, 123, 123, 123)
	wantNone(t, l, wide(), 4, 124, 124, 124)
	wantNone(t, l, wide(), 4, 124, 0, 0)
}

// edgesTold answers the edges from one operation to the other, with what they ask.
func edgesTold(t *testing.T, l []api.Op, m api.Table) []api.Edge {
	t.Helper()
	edges, e := deps.Loop(l, m)
	if e != api.OK {
		t.Fatal(e)
	}
	return edges
}

// whys are bodies of two, of each Why, with the Lat that the first and the second are apart in one round.
func whys() map[int8][]struct {
	l   []api.Op
	lat int
} {
	return map[int8][]struct {
		l   []api.Op
		lat int
	}{
		api.DepTrue:  {{bodyOf(consts(1, 0), moves(2, 1)), 2}, {bodyOf(multiplies(1, 9, 9), moves(2, 1)), 5}, {bodyOf(loads(1, 9, 0), stores(8, 1, 0)), 3}},
		api.DepAnti:  {{bodyOf(prints(1), consts(1, 0)), 0}, {bodyOf(moves(2, 1), multiplies(1, 9, 9)), 0}},
		api.DepOut:   {{bodyOf(consts(1, 0), consts(1, 0)), 1}, {bodyOf(multiplies(1, 9, 9), consts(1, 0)), 4}, {bodyOf(consts(1, 0), multiplies(1, 9, 9)), 0}},
		api.DepMem:   {{bodyOf(stores(1, 2, 8), loads(3, 1, 8)), 3}, {bodyOf(loads(3, 1, 8), stores(1, 2, 8)), 0}, {bodyOf(stores(1, 2, 8), stores(1, 2, 8)), 1}},
		api.DepOrder: {{bodyOf(prints(9), divides(1, 9, 9)), 1}, {bodyOf(rests(1, 9, 9), prints(9)), 1}, {bodyOf(prints(9), prints(8)), 1}},
	}
}

// An edge of Dist 0 of each Why: kept to the cycle, one cycle short; with units for all and a long round, so that
// it alone tells.
func TestCheckOfEdgesInARound(t *testing.T) {
	m := lats(wide(), 2, 5, 3, 7)
	for why, bodies := range whys() {
		for _, x := range bodies {
			if !slices.ContainsFunc(edgesTold(t, x.l, m), func(d api.Edge) bool { return int(d.Why) == int(why) && d.Dist == 0 && d.Lat == x.lat }) {
				t.Errorf("%v has no edge of %d", x.l, why)
			}
			for _, from := range []int{0, 9, 40} {
				wantRight(t, x.l, m, 1, 100, from, from+x.lat)
				wantRight(t, x.l, m, 1, 100, from, from+x.lat+1)
				wantNone(t, x.l, m, 100, from, from+x.lat-1)
				wantNone(t, x.l, m, 100, from+9, from)
			}
		}
	}
}

// An edge of Dist 1 of each Why: from the second one to the next round's first, which is the same two the other way
// round. It may be issued that many cycles behind, and Every later than the first, and no cycle later.
func TestCheckOfEdgesFromRoundToRound(t *testing.T) {
	m := lats(wide(), 2, 5, 3, 7)
	for why, bodies := range whys() {
		for _, x := range bodies {
			l := bodyOf(x.l[1], x.l[0])
			back := 0
			for _, d := range edgesTold(t, l, m) {
				if d.From == 1 && d.To == 0 && d.Dist == 1 {
					back = max(back, d.Lat)
				}
			}
			if !slices.ContainsFunc(edgesTold(t, l, m), func(d api.Edge) bool { return int(d.Why) == int(why) && d.Dist == 1 && d.Lat == x.lat }) {
				t.Errorf("%v has no edge of %d from round to round", l, why)
			}
			for _, every := range []int{20, 21, 40} {
				wantRight(t, l, m, 1, every, 0, every-back-1)
				wantRight(t, l, m, (every-back)/every+1, every, 0, every-back)
				wantNone(t, l, m, every, 0, every-back+1)
				wantRight(t, l, m, (7+every-back)/every+1, every, 7, 7+every-back)
				wantNone(t, l, m, every, 7, 7+every-back+1)
			}
		}
	}
	// One that depends on itself of the round ahead: Every alone tells.
	for lat := 2; lat <= api.MaxLatency; lat++ {
		m := lats(wide(), 1, lat, 1, 1)
		wantRight(t, bodyOf(multiplies(1, 1, 2)), m, 1, lat, 0)
		wantNone(t, bodyOf(multiplies(1, 1, 2)), m, lat-1, 0)
	}
	wantRight(t, bodyOf(consts(1, 0)), delay(wide(), 0), 1, 1, 0)
}

// A load, and the next round's store by the same base, which is written between other rounds alone: deps.Loop has an edge
// between them, deps.Of of two rounds has none. A plan keeps those of deps.Loop.
func TestCheckOfMemoryFromRoundToRound(t *testing.T) {
	l := bodyOf(stores(1, 2, 8), adds(1, 1, 3), loads(4, 1, 9))
	wantRight(t, l, wide(), 2, 4, 0, 2, 4)
	wantNone(t, l, wide(), 4, 0, 2, 5)
	if !list.Check(slices.Repeat(l, 2), wide(), []int{0, 2, 5, 4, 6, 9}) {
		t.Error("two rounds of it are no schedule")
	}
	// By a base that nobody writes there is no edge.
	l[1].D = 5
	wantRight(t, l, wide(), 2, 4, 0, 2, 5)
}

// As many units as are busy in a cycle of the ring, and one less.
func TestCheckOfUnits(t *testing.T) {
	for class := range api.Ctl {
		for count := 2; count <= api.MaxUnits; count++ {
			for every := 2; every <= 4; every++ {
				l := freeOf(class, count)
				cycles := make([]int, count)
				for n := range cycles {
					cycles[n] = 1 + n*every // all of them fall into one cycle of the ring
				}
				stages := cycles[count-1]/every + 1
				m := wide()
				m.Units[class] = count
				wantRight(t, l, m, stages, every, cycles...)
				m.Units[class] = count - 1
				wantNone(t, l, m, every, cycles...)
				cycles[count-1]--
				wantRight(t, l, m, (cycles[count-1])/every+1, every, cycles...)
			}
		}
	}
}

// Units that are busy longer than one cycle, round the ring's end too.
func TestCheckOfUnitsThatAreBusy(t *testing.T) {
	l := freeOf(api.Mul, 2)
	for long := 1; long <= api.MaxBusy; long++ {
		m := busy(example(), 1, long, 1, 1)
		for every := max(2, 2*long); every <= 12; every++ {
			for a := range 2 * every {
				for b := range 2 * every {
					between := ((b-a)%every + every) % every
					well := between >= long && every-between >= long
					wantCheck(t, l, m, plan(every, max(a, b)/every+1, a, b), well)
				}
			}
		}
		for every := 2; every < 2*long; every++ {
			wantNone(t, l, m, every, 0, every/2)
		}
	}
}

// One operation that is busy longer than Every is more than once in a cycle of the ring.
func TestCheckOfUnitsThatAreBusyLongerThanEvery(t *testing.T) {
	for class := range api.Ctl {
		for long := 1; long <= api.MaxBusy; long++ {
			for every := 1; every <= api.MaxBusy; every++ {
				for n := 1; n <= api.MaxUnits; n++ {
					m := delay(wide(), 0)
					m.Units[class], m.Busy[class] = n, long
					once := freeOf(class, 1)
					for _, cycle := range []int{0, every - 1, 5} {
						wantCheck(t, once, m, plan(every, cycle/every+1, cycle), n >= (long+every-1)/every)
					}
					// As many as just fit, all in a row round the ring; and one more.
					most := n * every / long
					for count := 1; count <= min(most+1, 20); count++ {
						cycles := make([]int, count)
						for k := range cycles {
							cycles[k] = k * long % every
						}
						wantCheck(t, freeOf(class, count), m, plan(every, 1, cycles...), count <= most)
					}
				}
			}
		}
	}
}

// The operation that turns back is in the cycle Every - 1 - Delay, and is one of Ctl: it takes the last unit there is,
// or finds none where it comes round to itself.
func TestCheckOfTheOneThatTurnsBack(t *testing.T) {
	for long := 1; long <= api.MaxBusy; long++ {
		for n := 1; n <= api.MaxUnits; n++ {
			for slots := range api.MaxDelay + 1 {
				m := delay(busy(units(example(), 8, 8, 8, n), 1, 1, 1, long), slots)
				for every := 1 + slots; every <= 9; every++ {
					well := long <= n*every
					wantCheck(t, nil, m, plan(every, 1), well)
					// No operation of a body is of its class, wherever it is issued.
					for cycle := range every {
						wantCheck(t, bodyOf(consts(1, 0)), m, plan(every, 1, cycle), well)
					}
				}
			}
		}
	}
}

// Units of another class help nobody, and operations of another class keep nobody from them.
func TestCheckOfUnitsClassByClass(t *testing.T) {
	l := slices.Concat(freeOf(api.Alu, 8), freeOf(api.Mem, 8), bodyOf(multiplies(20, 29, 29), multiplies(21, 29, 29)))
	cycles := make([]int, 18)
	wantRight(t, l, wide(), 1, 2, cycles...)
	wantRight(t, l, units(wide(), 8, 2, 8, 1), 1, 2, cycles...)
	wantNone(t, l, units(wide(), 7, 8, 8, 8), 2, cycles...)
	wantNone(t, l, units(wide(), 8, 1, 8, 8), 2, cycles...)
	wantNone(t, l, units(wide(), 8, 8, 7, 8), 2, cycles...)
	wantNone(t, l, units(wide(), 8, 8, 8, 0), 2, cycles...)
}

// Bounds refuses it: Check is false of plans that keep the rounds.
func TestCheckOfWhatIsRefused(t *testing.T) {
	l := bodyOf(consts(1, 0), multiplies(2, 1, 1), prints(2))
	wantRight(t, l, example(), 1, 6, 0, 1, 4)
	for _, m := range noTables() {
		wantNone(t, l, m, 6, 0, 1, 4)
	}
	for class := range api.Classes {
		m := example()
		m.Units[class] = 0
		wantNone(t, l, m, 6, 0, 1, 4)
	}
	for _, o := range whatIsNone() {
		wantNone(t, append(slices.Clone(l), o), example(), 30, 0, 1, 4, 20)
	}
	long := slices.Repeat(bodyOf(prints(1)), api.MaxBody+1)
	var cycles []int
	for n := range long {
		cycles = append(cycles, n)
	}
	wantRight(t, long[1:], example(), 1, 100, cycles[1:]...)
	wantNone(t, long, example(), 100, cycles...)
}

// Where units alone tell, a round begins as often as they let it (P7).
func TestAsOftenAsUnitsLetIt(t *testing.T) {
	for class := range api.Ctl {
		for _, count := range []int{1, 2, 3, 7, 16, 31} {
			for n := 1; n <= api.MaxUnits; n++ {
				for long := 1; long <= api.MaxBusy; long++ {
					m := delay(wide(), 0)
					m.Units[class], m.Busy[class] = n, long
					if p := wantFound(t, freeOf(class, count), m); p.Every != (count*long+n-1)/n {
						t.Errorf("%d of class %d, %d units, busy %d: %v", count, class, n, long, p)
					}
				}
			}
		}
	}
}

// Where the rounds tell, a round begins as often as they let it.
func TestAsOftenAsRoundsLetIt(t *testing.T) {
	for lat := 1; lat <= api.MaxLatency; lat++ {
		m := lats(wide(), 1, lat, 2, 1)
		for _, count := range []int{1, 2, 3, 5, 8, 13, 40, 64} {
			if p := wantFound(t, slices.Repeat(bodyOf(multiplies(1, 1, 1)), count), m); p.Every != max(2, count*lat) {
				t.Errorf("%d in a chain of latency %d: %v", count, lat, p)
			}
		}
	}
}

// What the list's way does not find: the operations must be put off against each other so that rounds fit into one another.
func TestPlansThatAreNoList(t *testing.T) {
	// By the list's way both adds would fall into one cycle of the ring of 2.
	l := bodyOf(loads(1, 2, 0), adds(3, 3, 1), adds(4, 4, 5))
	wantNone(t, l, example(), 2, 0, 2, 0)
	wantEvery(t, l, example(), 2, 2)
	// Three chains of two on one unit of Alu that is busy twice.
	m := busy(units(example(), 1, 3, 1, 1), 2, 1, 1, 1)
	l = bodyOf(multiplies(1, 9, 9), adds(2, 2, 1), multiplies(3, 9, 9), adds(4, 4, 3), multiplies(5, 9, 9), adds(6, 6, 5))
	wantNone(t, l, m, 6, 0, 3, 0, 5, 0, 7)
	wantEvery(t, l, m, 6, 2)
}

// An operation that is busy when the ring has come round to it counts twice there: two that must be issued just Every
// apart do not fit into a ring of 3, though all their busy cycles together would.
func TestFindOfUnitsThatAreBusyLongerThanEvery(t *testing.T) {
	m := busy(units(example(), 1, 3, 1, 1), 1, 4, 1, 1)
	l := bodyOf(multiplies(1, 9, 9), multiplies(2, 1, 1))
	if least, _ := bounds.Least(l, m); least != 3 {
		t.Errorf("the least is %d", least)
	}
	wantNone(t, l, m, 3, 0, 3)
	wantEvery(t, l, m, 4, 1)
	// Without the edge between them they fit.
	l[1].A, l[1].B = 9, 9
	wantRight(t, l, m, 1, 3, 0, 1)
	wantNone(t, l, m, 3, 0, 0)
	wantEvery(t, l, m, 3, 1)
}

// chainOf answers operations each of which reads what the one ahead wrote, through all registers: so many of Mul, spread
// among those of Alu; and one that prints the last.
func chainOf(products int) []api.Op {
	l := bodyOf(consts(0, 7))
	for n := 1; n < api.Registers; n++ {
		d, a := uint8(n), uint8(n-1)
		if n*products/(api.Registers-1) != (n-1)*products/(api.Registers-1) {
			l = append(l, multiplies(d, a, a))
		} else {
			l = append(l, moves(d, a))
		}
	}
	return append(l, prints(api.Registers-1))
}

// Edges and units would let a round begin every 8 cycles, but it is so long that more than 31 rounds would overlap.
func TestNoMoreStagesThanMayBe(t *testing.T) {
	m := lats(wide(), 8, 7, 1, 1)
	for products := 4; products <= 12; products++ {
		l := chainOf(products)
		cycles, e := list.Cycles(l, m)
		last := 8*api.Registers - products
		if least, _ := bounds.Least(l, m); e != api.OK || least != 8 || slices.Max(cycles) != last {
			t.Fatalf("%v: least %d, %v, %v", l, least, cycles, e)
		}
		wantCheck(t, l, m, plan(8, last/8+1, cycles...), last/8+1 <= 31)
		p := wantFound(t, l, m)
		if (p.Every == 8) != (last/8+1 <= 31) || p.Stages > 31 {
			t.Errorf("%d products: %v", products, p)
		}
	}
}

// Units would let a round begin every 10 cycles, by putting off so many operations that a round takes three of these;
// that is more than twice the drained length.
func TestNoLongerThanMayBe(t *testing.T) {
	m := delay(busy(lats(units(example(), 2, 2, 2, 1), 3, 7, 3, 8), 4, 4, 1, 3), 1)
	equal := func(d, a, b uint8) api.Op { return api.Op{Do: api.Equal, D: d, A: a, B: b} }
	l := bodyOf(consts(13, 258), stores(20, 19, 257), stores(9, 0, 256), equal(26, 31, 11), multiplies(31, 28, 16),
		equal(27, 14, 9), api.Op{Do: api.And, D: 29, A: 31, B: 4}, consts(29, -255))
	cycles, _ := list.Cycles(l, m)
	if got := drainedTold(t, l, m, cycles); got != 12 {
		t.Errorf("the drained length is %d", got)
	}
	wantRight(t, l, m, 3, 10, 4, 0, 1, 6, 8, 0, 18, 22)
	wantFound(t, l, m)
}
