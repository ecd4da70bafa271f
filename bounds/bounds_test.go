package bounds

import (
	"math"
	"slices"
	"testing"

	"hayloft/api"
	"hayloft/ops"
)

func consts(d uint8, imm int64) api.Op { return api.Op{Do: api.Const, D: d, Imm: imm} }

func moves(d, a uint8) api.Op { return api.Op{Do: api.Move, D: d, A: a} }

func adds(d, a, b uint8) api.Op { return api.Op{Do: api.Add, D: d, A: a, B: b} }

func multiplies(d, a, b uint8) api.Op { return api.Op{Do: api.Times, D: d, A: a, B: b} }

func divides(d, a, b uint8) api.Op { return api.Op{Do: api.Divide, D: d, A: a, B: b} }

func rests(d, a, b uint8) api.Op { return api.Op{Do: api.Rest, D: d, A: a, B: b} }

func loads(d, a uint8, imm int64) api.Op { return api.Op{Do: api.Load, D: d, A: a, Imm: imm} }

func stores(a, b uint8, imm int64) api.Op { return api.Op{Do: api.Store, A: a, B: b, Imm: imm} }

func prints(a uint8) api.Op { return api.Op{Do: api.Print, A: a} }

func list(l ...api.Op) []api.Op { return l }

// The chapter's table.
func example() api.Table {
	return api.Table{Units: [api.Classes]int{1, 1, 1, 1}, Lat: [api.Classes]int{1, 3, 2, 1}, Busy: [api.Classes]int{1, 1, 1, 1}, Delay: 1}
}

// units answers the table with other numbers of units.
func units(m api.Table, alu, mul, mem, ctl int) api.Table {
	m.Units = [api.Classes]int{alu, mul, mem, ctl}
	return m
}

func lats(m api.Table, alu, mul, mem, ctl int) api.Table {
	m.Lat = [api.Classes]int{alu, mul, mem, ctl}
	return m
}

func busy(m api.Table, alu, mul, mem, ctl int) api.Table {
	m.Busy = [api.Classes]int{alu, mul, mem, ctl}
	return m
}

// noTables are tables of which one number is out of its bounds.
func noTables() []api.Table {
	all := []api.Table{{}}
	spoil := func(change func(m *api.Table)) {
		m := example()
		change(&m)
		all = append(all, m)
	}
	for class := range api.Classes {
		for _, n := range []int{-1, 9, math.MinInt, math.MaxInt} {
			spoil(func(m *api.Table) { m.Units[class] = n })
		}
		for _, n := range []int{0, -1, 9, math.MinInt, math.MaxInt} {
			spoil(func(m *api.Table) { m.Lat[class] = n })
		}
		for _, n := range []int{0, -1, 5, math.MinInt, math.MaxInt} {
			spoil(func(m *api.Table) { m.Busy[class] = n })
		}
	}
	for _, n := range []int{-1, 5, math.MinInt, math.MaxInt} {
		spoil(func(m *api.Table) { m.Delay = n })
	}
	return all
}

// whatIsNone are operations that stand in no body.
func whatIsNone() []api.Op {
	var all []api.Op
	for do := -128; do <= 127; do++ {
		if do < api.Const || do > api.Print {
			all = append(all, api.Op{Do: int8(do)}, api.Op{Do: int8(do), A: 1, Imm: 1})
		}
	}
	for do := int8(api.Const); do <= api.Print; do++ {
		all = append(all, api.Op{Do: do, D: 32}, api.Op{Do: do, A: 32}, api.Op{Do: do, B: 255},
			api.Op{Do: do, Imm: 1 << 31}, api.Op{Do: do, Imm: -1<<31 - 1}, api.Op{Do: do, Imm: math.MinInt64})
	}
	// A field that does not count is not 0.
	return append(all, api.Op{Do: api.Const, A: 1}, api.Op{Do: api.Move, B: 1}, api.Op{Do: api.Add, Imm: 1},
		api.Op{Do: api.Load, B: 1}, api.Op{Do: api.Store, D: 1}, api.Op{Do: api.Print, D: 1}, api.Op{Do: api.Print, Imm: 1})
}

// aloneOf answers an operation of each kind that stands in bodies; no two of them depend on one another by a register.
func aloneOf() []api.Op {
	var all []api.Op
	for do := int8(api.Const); do <= api.Print; do++ {
		o := api.Op{Do: do, D: uint8(do), A: 30, B: 31}
		switch do {
		case api.Const:
			o.A, o.B = 0, 0
		case api.Move, api.Load:
			o.B = 0
		case api.Store:
			o.D = 0
		case api.Print:
			o.D, o.B = 0, 0
		}
		all = append(all, o)
	}
	return all
}

func classTold(t testing.TB, o api.Op) int {
	t.Helper()
	class, ok := ops.Class(o.Do)
	if !ok {
		t.Fatalf("%v has no class", o)
	}
	return class
}

// freeOf answers operations of one class without edges among them.
func freeOf(class, count int) []api.Op {
	var l []api.Op
	for n := range count {
		switch class {
		case api.Alu:
			l = append(l, consts(uint8(n), 0))
		case api.Mul:
			l = append(l, multiplies(uint8(n), 31, 31))
		case api.Mem:
			l = append(l, stores(30, 31, int64(n)))
		}
	}
	return l
}

// wide is the chapter's table with as many units as there can be.
func wide() api.Table { return units(example(), 8, 8, 8, 8) }

func delay(m api.Table, n int) api.Table {
	m.Delay = n
	return m
}

// calls are the three functions, which take the same and refuse the same.
func calls() map[string]func([]api.Op, api.Table) (int, api.Errno) {
	return map[string]func([]api.Op, api.Table) (int, api.Errno){"Units": Units, "Rounds": Rounds, "Least": Least}
}

func wantNumber(t *testing.T, name string, l []api.Op, m api.Table, want int) {
	t.Helper()
	if got, e := calls()[name](l, m); e != api.OK || got != want {
		t.Errorf("%s(%v, %v) is %d, %v, want %d", name, l, m, got, e, want)
	}
}

func wantUnits(t *testing.T, l []api.Op, m api.Table, want int) {
	t.Helper()
	wantNumber(t, "Units", l, m, want)
}

func wantRounds(t *testing.T, l []api.Op, m api.Table, want int) {
	t.Helper()
	wantNumber(t, "Rounds", l, m, want)
}

func wantAll(t *testing.T, l []api.Op, m api.Table, units, rounds, least int) {
	t.Helper()
	wantUnits(t, l, m, units)
	wantRounds(t, l, m, rounds)
	wantNumber(t, "Least", l, m, least)
}

// wantRefused says that each function has the error, and no number beside it.
func wantRefused(t *testing.T, l []api.Op, m api.Table, want api.Errno) {
	t.Helper()
	for name, call := range calls() {
		if got, e := call(l, m); e != want || got != 0 {
			t.Errorf("%s of %d operations, %v, is %d, %v, want %v", name, len(l), m, got, e, want)
		}
	}
}

func TestChapterExamples(t *testing.T) {
	wantAll(t, list(adds(1, 1, 2)), example(), 1, 1, 2)
	wantAll(t, list(multiplies(1, 1, 2)), example(), 1, 3, 3)
	wantAll(t, list(adds(1, 2, 3), adds(4, 5, 6), adds(7, 8, 9)), example(), 3, 1, 3)
	wantAll(t, list(prints(1), prints(2)), example(), 2, 2, 2)
	wantAll(t, nil, example(), 1, 1, 2)
}

// DOC.md's sum over a loaded row. Units let a round begin every second cycle, as its example 4 says; but what
// was loaded is read ahead of the next round's load (a DepAnti of latency 0), so that Rounds is the load's latency.
func TestASumOverALoadedRow(t *testing.T) {
	l := list(loads(3, 4, 0), adds(2, 2, 3), adds(4, 4, 5))
	for lat := 1; lat <= api.MaxLatency; lat++ {
		wantAll(t, l, lats(example(), 1, 3, lat, 1), 2, lat, max(2, lat))
	}
}

func TestEmptyBodies(t *testing.T) {
	for _, l := range [][]api.Op{nil, {}, make([]api.Op, 0, 5), list(prints(1), prints(1))[:0]} {
		for slots := range api.MaxDelay + 1 {
			wantAll(t, l, delay(example(), slots), 1, 1, 1+slots)
			wantAll(t, l, delay(units(example(), 0, 0, 0, 1), slots), 1, 1, 1+slots)
			wantRefused(t, l, delay(units(example(), 8, 8, 8, 0), slots), api.ErrNoUnit)
		}
		// Again is there all the same.
		wantAll(t, l, busy(example(), 1, 1, 1, 4), 4, 1, 4)
		wantAll(t, l, busy(units(example(), 0, 0, 0, 3), 4, 4, 4, 4), 2, 1, 2)
		wantRefused(t, l, units(example(), 0, 0, 0, 0), api.ErrNoUnit)
		wantRefused(t, l, api.Table{}, api.ErrTable)
	}
}

// The errors in their order: each alone, and with all that come behind it.
func TestErrorsInTheirOrder(t *testing.T) {
	fine := list(prints(1), prints(1))
	wrong := list(prints(1), api.Op{Do: api.Jump})
	long := slices.Repeat(fine, api.MaxBody/2+1)[:api.MaxBody+1]
	wrongAndLong := append(slices.Clone(long), wrong...)
	noMem := units(example(), 1, 1, 0, 1)
	noCtl := units(example(), 1, 1, 1, 0)
	for _, m := range append(noTables(), delay(noMem, -1), delay(noCtl, 5)) {
		for _, l := range [][]api.Op{nil, fine, wrong, long, wrongAndLong} {
			wantRefused(t, l, m, api.ErrTable)
		}
	}
	for _, m := range []api.Table{example(), noMem, noCtl} {
		wantRefused(t, long, m, api.ErrLong)
		wantRefused(t, wrongAndLong, m, api.ErrLong)
		wantRefused(t, make([]api.Op, api.MaxBody+1), m, api.ErrLong)
		wantRefused(t, make([]api.Op, api.MaxOps), m, api.ErrLong)
		wantRefused(t, make([]api.Op, api.MaxOps+1), m, api.ErrLong)
		wantRefused(t, make([]api.Op, 100000), m, api.ErrLong)
		wantRefused(t, wrong, m, api.ErrOp)
		wantRefused(t, make([]api.Op, 1), m, api.ErrOp)
		wantRefused(t, make([]api.Op, api.MaxBody), m, api.ErrOp)
	}
	for _, m := range []api.Table{noMem, noCtl} {
		wantRefused(t, fine, m, api.ErrNoUnit)
		wantRefused(t, long[:api.MaxBody], m, api.ErrNoUnit)
	}
	wantAll(t, long[:api.MaxBody], example(), api.MaxBody, api.MaxBody, api.MaxBody)
	wantAll(t, fine, example(), 2, 2, 2)
}

// What stands behind a body's end is none of its operations.
func TestTheLongestBody(t *testing.T) {
	l := slices.Repeat(list(consts(1, 0)), 2*api.MaxBody)
	wantAll(t, l[:api.MaxBody], example(), 64, 64, 64)
	wantAll(t, l[:api.MaxBody-1], example(), 63, 63, 63)
	wantRefused(t, l[:api.MaxBody+1], example(), api.ErrLong)
	l[api.MaxBody] = api.Op{Do: -1}
	wantAll(t, l[:api.MaxBody], example(), 64, 64, 64)
}

func TestOperationsThatStandInNoBody(t *testing.T) {
	for _, o := range whatIsNone() {
		wantRefused(t, list(o), example(), api.ErrOp)
		wantRefused(t, list(o), units(example(), 0, 0, 0, 0), api.ErrOp)
		for at := range 4 {
			l := list(consts(1, 0), adds(2, 1, 1), stores(1, 2, 3), prints(2))
			l[at] = o
			wantRefused(t, l, example(), api.ErrOp)
		}
	}
}

// The classes are told in this package a second time: they are those of ops.
func TestClassIsThatOfOps(t *testing.T) {
	for _, o := range aloneOf() {
		if got, want := classOf(o), classTold(t, o); got != want {
			t.Errorf("classOf(%v) is %d, want %d", o, got, want)
		}
	}
}

// Each class without a unit, of each kind of operation that uses it, and of each that does not; Ctl is always used.
func TestNoUnit(t *testing.T) {
	for _, o := range aloneOf() {
		used := classTold(t, o)
		for class := range api.Classes {
			m := wide()
			m.Units[class] = 0
			if class != used && class != api.Ctl {
				wantAll(t, list(o), m, 1, 1, 2)
				continue
			}
			wantRefused(t, list(o), m, api.ErrNoUnit)
			wantRefused(t, list(o, o), m, api.ErrNoUnit)
		}
		var only [api.Classes]int
		only[used], only[api.Ctl] = 1, 1
		m := example()
		m.Units = only
		wantAll(t, list(o), m, 1, 1, 2)
	}
}

// It is one operation of many that uses the class, wherever it stands.
func TestNoUnitOfOneOfMany(t *testing.T) {
	others := [api.Classes]api.Op{api.Alu: consts(1, 7), api.Mul: multiplies(2, 9, 9), api.Mem: loads(3, 9, 0)}
	for class := range api.Ctl {
		for other := range api.Ctl {
			if other == class {
				continue
			}
			m := wide()
			m.Units[class] = 0
			l := slices.Repeat(list(others[other]), 5)
			wantAll(t, l, m, 1, 5, 5)
			for at := range l {
				with := slices.Clone(l)
				with[at] = others[class]
				wantRefused(t, with, m, api.ErrNoUnit)
			}
		}
	}
}

// How many of each class, how long busy, how many units: divided, and rounded up where something is left over.
func TestUnits(t *testing.T) {
	for class := range api.Ctl {
		for _, x := range []struct{ count, busy, units, want int }{
			{1, 1, 1, 1}, {2, 1, 1, 2}, {7, 1, 1, 7}, {31, 1, 1, 31},
			{6, 1, 2, 3}, {7, 1, 2, 4}, {8, 1, 2, 4}, {9, 1, 8, 2}, {8, 1, 8, 1}, {16, 1, 8, 2}, {17, 1, 8, 3},
			{1, 2, 1, 2}, {5, 2, 1, 10}, {5, 3, 2, 8}, {4, 3, 2, 6}, {5, 4, 3, 7}, {6, 4, 3, 8}, {7, 4, 3, 10}, {30, 4, 7, 18},
			{1, 1, 8, 1}, {2, 1, 8, 1}, {3, 2, 8, 1}, {3, 3, 8, 2}, {1, 4, 8, 1}, {2, 4, 8, 1}, {3, 4, 5, 3},
		} {
			m := wide()
			m.Units[class], m.Busy[class] = x.units, x.busy
			l := freeOf(class, x.count)
			wantUnits(t, l, m, x.want)
			// Others that need fewer cycles make no difference, wherever they stand.
			other := freeOf((class+1)%api.Ctl, 8)
			wantUnits(t, append(slices.Clone(l), other...), m, x.want)
			wantUnits(t, append(slices.Clone(other), l...), m, x.want)
		}
	}
}

// The class that needs most cycles tells, whichever it is, and not the one of most operations.
func TestUnitsOfTheGreatest(t *testing.T) {
	l := slices.Concat(freeOf(api.Alu, 6), list(multiplies(20, 29, 29), multiplies(21, 29, 29)), freeOf(api.Mem, 3))
	wantUnits(t, l, example(), 6)
	wantUnits(t, l, busy(example(), 1, 4, 1, 1), 8)
	wantUnits(t, l, busy(example(), 1, 2, 3, 1), 9)
	wantUnits(t, l, units(example(), 8, 1, 1, 1), 3)
	wantUnits(t, l, units(example(), 8, 1, 2, 1), 2)
	wantUnits(t, l, units(example(), 8, 2, 3, 1), 1)
	wantUnits(t, l, busy(units(example(), 8, 2, 3, 1), 1, 1, 1, 2), 2)
}

// Again is of Ctl, and the only one: how many cycles it takes is told by Busy and Units of Ctl alone.
func TestUnitsByAgainAlone(t *testing.T) {
	for n := 1; n <= api.MaxUnits; n++ {
		for long := 1; long <= api.MaxBusy; long++ {
			want := 1
			for want*n < long {
				want++
			}
			m := busy(units(example(), 8, 8, 8, n), 1, 1, 1, long)
			for _, l := range [][]api.Op{nil, list(consts(1, 0)), list(consts(1, 0), multiplies(2, 9, 9), prints(8))} {
				wantUnits(t, l, m, want)
			}
		}
	}
	wantAll(t, list(adds(1, 2, 3), adds(4, 5, 6)), delay(busy(example(), 1, 1, 1, 4), 2), 4, 1, 4)
}

// A way that comes back over one round: the sum of its latencies.
func TestRoundsOfOneRound(t *testing.T) {
	for _, m := range []api.Table{example(), lats(wide(), 2, 5, 3, 7), lats(example(), 8, 1, 4, 2), lats(wide(), 3, 8, 1, 1)} {
		alu, mul, mem := m.Lat[api.Alu], m.Lat[api.Mul], m.Lat[api.Mem]
		// Of one operation.
		wantRounds(t, list(adds(1, 1, 2)), m, alu)
		wantRounds(t, list(multiplies(1, 2, 1)), m, mul)
		wantRounds(t, list(loads(1, 1, 0)), m, mem)
		wantRounds(t, list(consts(1, 0)), m, 1)
		wantRounds(t, list(multiplies(1, 2, 2)), m, 1)
		wantRounds(t, list(prints(1)), m, 1)
		wantRounds(t, list(stores(1, 2, 0)), m, 1)
		// Of two, and of three: r3 is the next round's r1's.
		wantRounds(t, list(adds(1, 2, 2), multiplies(2, 1, 1)), m, alu+mul)
		wantRounds(t, list(multiplies(1, 2, 2), loads(2, 1, 0)), m, mul+mem)
		wantRounds(t, list(adds(1, 3, 3), multiplies(2, 1, 1), loads(3, 2, 0)), m, alu+mul+mem)
		// What a store wrote is loaded, and stored again by the next one.
		wantRounds(t, list(loads(1, 9, 8), adds(2, 1, 1), stores(9, 2, 8)), m, mem+alu+mem)
		// Where it does not meet, only each by itself comes back.
		wantRounds(t, list(loads(1, 9, 8), adds(2, 1, 1), stores(9, 2, 9)), m, max(1, mem, alu))
	}
}

// Reads what is overwritten behind it: the true one from the round ahead, the anti one in this round, of latency 0.
func TestRoundsOfOverwritten(t *testing.T) {
	for _, m := range []api.Table{example(), lats(wide(), 2, 5, 3, 7), lats(example(), 8, 1, 4, 2)} {
		alu, mul, mem := m.Lat[api.Alu], m.Lat[api.Mul], m.Lat[api.Mem]
		wantRounds(t, list(prints(1), multiplies(1, 8, 8)), m, max(1, mul))
		wantRounds(t, list(multiplies(9, 1, 1), loads(1, 8, 0)), m, max(1, mem))
		// And what is written ahead of it: the true one in this round, the anti one from round to round.
		wantRounds(t, list(multiplies(1, 8, 8), prints(1)), m, max(1, mul))
		wantRounds(t, list(loads(1, 8, 0), multiplies(9, 1, 1)), m, max(1, mem))
		// Written by a slow and by a fast one: DepOut of one way is of latency 0.
		wantRounds(t, list(multiplies(1, 8, 8), consts(1, 0)), m, max(0, mul-alu+1)+max(0, alu-mul+1))
		wantRounds(t, list(consts(1, 0), multiplies(1, 8, 8)), m, max(0, mul-alu+1)+max(0, alu-mul+1))
		// A Load that meets a Store behind it: 0 there, a latency of Mem back.
		wantRounds(t, list(loads(1, 9, 8), stores(9, 8, 8)), m, mem)
		wantRounds(t, list(stores(9, 8, 8), loads(1, 9, 8)), m, mem)
		// Two that are ordered: one cycle there, one back.
		wantRounds(t, list(prints(1), divides(2, 8, 8), rests(3, 8, 8)), m, 3)
	}
}

// over answers operations of which each but the last reads what the next one wrote a round ago, and the
// last what the first wrote in this round: a way back over one round less than there are operations.
func over(l ...api.Op) []api.Op {
	for n := range l {
		l[n].D = uint8(1 + n)
		from := uint8(2 + n)
		if n == len(l)-1 {
			from = 1
		}
		l[n].A = from
		if l[n].Do != api.Load && l[n].Do != api.Move {
			l[n].B = from
		}
	}
	return l
}

// A way that comes back over more rounds: the sum of its latencies is parted among them, and rounded up.
func TestRoundsOfMoreRounds(t *testing.T) {
	add, times, load := adds(0, 0, 0), multiplies(0, 0, 0), loads(0, 0, 0)
	m := lats(example(), 4, 4, 4, 1)
	wantRounds(t, over(add, times), m, 8)
	wantRounds(t, over(add, times, load), m, 6)
	wantRounds(t, over(add, times, load, add), m, 6) // 16 over 3
	wantRounds(t, over(add, times, load, add, add), m, 5)
	wantRounds(t, over(add, times, load, add, add, times), m, 5) // 24 over 5
	// Just n times the Dists, one below it, one above it.
	wantRounds(t, over(add, times, load), lats(example(), 2, 2, 4, 1), 4)
	wantRounds(t, over(add, times, load), lats(example(), 2, 3, 3, 1), 4)
	wantRounds(t, over(add, times, load), lats(example(), 2, 3, 2, 1), 4)
	wantRounds(t, over(add, times, load), lats(example(), 3, 3, 3, 1), 5)
	wantRounds(t, over(add, times, load), lats(example(), 3, 3, 4, 1), 5)
	wantRounds(t, over(add, times, load), lats(example(), 3, 4, 4, 1), 6)
	wantRounds(t, over(add, add, add), lats(example(), 1, 1, 1, 1), 2)
	wantRounds(t, over(times, times, times, times), lats(example(), 1, 3, 1, 1), 4)
	wantRounds(t, over(times, times, times, times), lats(example(), 1, 2, 1, 1), 3)
	wantRounds(t, over(times, times, times, times), lats(example(), 1, 8, 1, 1), 11)
}

// Of several ways back the one that asks most, whichever it is; a way that does not come back asks nothing.
func TestRoundsOfSeveralWays(t *testing.T) {
	m := wide()
	l := list(adds(1, 1, 2), multiplies(3, 3, 2), loads(4, 4, 0))
	wantRounds(t, l, m, 3)
	wantRounds(t, l, lats(m, 1, 1, 6, 1), 6)
	wantRounds(t, l, lats(m, 7, 1, 6, 1), 7)
	// A long way that does not come back.
	wantRounds(t, list(loads(1, 9, 0), multiplies(2, 1, 1), multiplies(3, 2, 2), multiplies(4, 3, 3), adds(5, 5, 4)), m, 3)
	wantRounds(t, list(consts(1, 0), multiplies(2, 1, 1), adds(3, 2, 2)), m, 3)
	// Two rings that share an operation.
	wantRounds(t, list(adds(1, 2, 3), multiplies(2, 1, 1), loads(3, 1, 0)), lats(m, 1, 5, 2, 1), 6)
	wantRounds(t, list(adds(1, 2, 3), multiplies(2, 1, 1), loads(3, 1, 0)), lats(m, 1, 5, 7, 1), 8)
}

// The units make no difference to Rounds, nor do Busy and Delay.
func TestRoundsWithoutUnits(t *testing.T) {
	l := list(adds(1, 3, 3), multiplies(2, 1, 1), loads(3, 2, 0), prints(2))
	for n := 1; n <= api.MaxUnits; n++ {
		m := busy(units(example(), n, n, n, n), 4, 3, 2, 1)
		wantRounds(t, l, delay(m, n%5), 6)
	}
}

// Each of the three decides, and the fewest that there can be.
func TestLeast(t *testing.T) {
	wantAll(t, list(adds(1, 2, 3), adds(4, 5, 6), adds(7, 8, 9)), example(), 3, 1, 3)
	wantAll(t, list(multiplies(1, 1, 2)), example(), 1, 3, 3)
	for slots := range api.MaxDelay + 1 {
		wantAll(t, list(adds(1, 1, 2)), delay(example(), slots), 1, 1, 1+slots)
		wantAll(t, list(multiplies(1, 1, 2)), delay(example(), slots), 1, 3, max(3, 1+slots))
		wantAll(t, list(adds(1, 2, 3), adds(4, 5, 6), adds(7, 8, 9)), delay(example(), slots), 3, 1, max(3, 1+slots))
	}
	wantAll(t, list(adds(1, 1, 2), adds(3, 3, 2), multiplies(4, 4, 4)), delay(example(), 1), 2, 3, 3)
	wantAll(t, list(adds(1, 1, 2), adds(3, 3, 2), multiplies(4, 4, 4)), delay(busy(example(), 3, 1, 1, 1), 4), 6, 3, 6)
	wantAll(t, list(adds(1, 1, 2), adds(3, 3, 2), multiplies(4, 4, 4)), delay(busy(example(), 2, 1, 1, 1), 4), 4, 3, 5)
}

// P15.4: the most that there is, of one way over all operations; and of Units.
func TestTheGreatest(t *testing.T) {
	slow := busy(lats(example(), 8, 8, 8, 8), 4, 4, 4, 4)
	for _, o := range list(adds(1, 1, 1), multiplies(1, 1, 1), loads(1, 1, 0)) {
		chain := slices.Repeat(list(o), api.MaxBody)
		wantAll(t, chain, slow, 256, 512, 512)
		wantAll(t, chain[1:], slow, 252, 504, 504)
		wantAll(t, chain, units(slow, 8, 8, 8, 1), 32, 512, 512)
	}
	if mostRounds != 512 {
		t.Errorf("mostRounds is %d", mostRounds)
	}
}

// Every threshold of short stretches, and of the longest ones; how often it is asked says that it halves.
func TestLeastOf(t *testing.T) {
	for low := -3; low <= 3; low++ {
		for high := low; high <= low+20; high++ {
			for want := low; want <= high; want++ {
				if got := leastOf(low, high, func(n int) bool { return n >= want }); got != want {
					t.Errorf("leastOf(%d, %d) is %d, want %d", low, high, got, want)
				}
			}
		}
	}
	for want := int64(1); want <= 512; want++ {
		asked := 0
		got := leastOf(1, 512, func(n int64) bool { asked++; return n >= want })
		if got != want || asked > 9 {
			t.Errorf("leastOf(1, 512) is %d, want %d, asked %d times", got, want, asked)
		}
	}
}
