package delay

import (
	"math"
	"slices"
	"testing"

	"hayloft/api"
	"hayloft/list"
)

func consts(d uint8, imm int64) api.Op { return api.Op{Do: api.Const, D: d, Imm: imm} }

func moves(d, a uint8) api.Op { return api.Op{Do: api.Move, D: d, A: a} }

func adds(d, a, b uint8) api.Op { return api.Op{Do: api.Add, D: d, A: a, B: b} }

func multiplies(d, a, b uint8) api.Op { return api.Op{Do: api.Times, D: d, A: a, B: b} }

func loads(d, a uint8, imm int64) api.Op { return api.Op{Do: api.Load, D: d, A: a, Imm: imm} }

func stores(a, b uint8, imm int64) api.Op { return api.Op{Do: api.Store, A: a, B: b, Imm: imm} }

func prints(a uint8) api.Op { return api.Op{Do: api.Print, A: a} }

func with(b api.Block, l ...api.Op) api.Block {
	b.Ops = l
	return b
}

func jumps(then int) api.Block { return api.Block{End: api.EndJump, Then: then} }

func branches(a uint8, then, orElse int) api.Block {
	return api.Block{End: api.EndBranch, A: a, Then: then, Else: orElse}
}

func halts(a uint8) api.Block { return api.Block{End: api.EndHalt, A: a} }

func loops(a uint8, then int, body ...api.Op) api.Block {
	return api.Block{End: api.EndLoop, A: a, Body: body, Then: then}
}

// ends are blocks without Ops, of each of the four ends.
func ends() []api.Block { return []api.Block{jumps(0), branches(1, 0, 0), halts(1), loops(1, 0)} }

// The chapter's table.
func example() api.Table {
	return api.Table{Units: [api.Classes]int{1, 1, 1, 1}, Lat: [api.Classes]int{1, 3, 2, 1}, Busy: [api.Classes]int{1, 1, 1, 1}, Delay: 2}
}

func units(m api.Table, alu, mul, mem, ctl int) api.Table {
	m.Units = [api.Classes]int{alu, mul, mem, ctl}
	return m
}

func lats(m api.Table, alu, mul, mem, ctl int) api.Table {
	m.Lat = [api.Classes]int{alu, mul, mem, ctl}
	return m
}

func busy(m api.Table, alu, mul, mem, ctl int) api.Table {
	m.Busy = [api.Classes]int{alu, mul, mem, ctl}
	return m
}

func delayed(m api.Table, delay int) api.Table {
	m.Delay = delay
	return m
}

func wantEnd(t *testing.T, b api.Block, m api.Table, cycles []int, at, length int) {
	t.Helper()
	if gotAt, gotLength, e := End(b, m, cycles); e != api.OK || gotAt != at || gotLength != length {
		t.Errorf("End(%v, %v, %v) is %d, %d, %v, want %d, %d", b, m, cycles, gotAt, gotLength, e, at, length)
	}
}

func wantEndRefused(t *testing.T, b api.Block, m api.Table, cycles []int, want api.Errno) {
	t.Helper()
	if at, length, e := End(b, m, cycles); e != want || at != 0 || length != 0 {
		t.Errorf("End(%v, %v, %v) is %d, %d, %v, want %v", b, m, cycles, at, length, e, want)
	}
}

func in(cycles ...int) []int { return cycles }

func TestChapterExamples(t *testing.T) {
	m, product := example(), multiplies(1, 2, 3)
	wantEnd(t, jumps(0), m, nil, 0, 3)
	wantEnd(t, with(jumps(0), product), m, in(0), 0, 3)
	wantEnd(t, with(branches(1, 0, 0), product), m, in(0), 3, 6)
	wantEnd(t, with(branches(2, 0, 0), product), m, in(0), 0, 3)
	wantEnd(t, with(halts(2), product), m, in(0), 3, 4)
	wantEnd(t, with(loops(1, 0), product), m, in(0), -1, 3)
	wantEnd(t, jumps(0), busy(m, 1, 1, 1, 4), nil, 1, 4)
}

// DOC.md's sixth example: behind a branch with a delay of 2 stand operations of its own block.
func TestOperationsBehindTheBranch(t *testing.T) {
	b := with(branches(1, 1, 2), consts(1, 5), adds(2, 3, 3), adds(4, 3, 3))
	cycles, e := list.Cycles(b.Ops, example())
	if e != api.OK || !slices.Equal(cycles, in(0, 1, 2)) {
		t.Fatal(cycles, e)
	}
	wantEnd(t, b, example(), cycles, 1, 4)
	wantEnd(t, b, delayed(example(), 1), cycles, 1, 3)
	wantEnd(t, b, delayed(example(), 0), cycles, 2, 3)
	b.A = 9
	wantEnd(t, b, example(), cycles, 0, 3)
}

func TestNoOps(t *testing.T) {
	for _, list := range [][]api.Op{nil, {}, make([]api.Op, 0, 4), {prints(1), prints(1)}} {
		for _, cycles := range [][]int{nil, {}, make([]int, 0, 4), {7, 8}} {
			ops, none := list[:0], cycles[:0]
			for delay := range api.MaxDelay + 1 {
				m := delayed(example(), delay)
				wantEnd(t, with(jumps(0), ops...), m, none, 0, 1+delay)
				wantEnd(t, with(branches(1, 0, 0), ops...), m, none, 0, 1+delay)
				wantEnd(t, with(halts(1), ops...), m, none, 0, 1)
				wantEnd(t, with(loops(1, 0), ops...), m, none, -1, 0)
			}
		}
	}
}

// Busy of Ctl less than, as much as and more than Delay and 1.
func TestTheLead(t *testing.T) {
	leads := [api.MaxBusy + 1][api.MaxDelay + 1]int{1: {}, 2: {0: 1}, 3: {0: 2, 1: 1}, 4: {0: 3, 1: 2, 2: 1}}
	for busyCtl := 1; busyCtl <= api.MaxBusy; busyCtl++ {
		for delay := range api.MaxDelay + 1 {
			m := delayed(busy(example(), 1, 1, 1, busyCtl), delay)
			lead := leads[busyCtl][delay]
			wantEnd(t, jumps(0), m, nil, lead, lead+1+delay)
			wantEnd(t, branches(3, 0, 0), m, nil, lead, lead+1+delay)
			wantEnd(t, halts(3), m, nil, lead, lead+1)
			wantEnd(t, loops(3, 0), m, nil, -1, 0)
			// A result that lands in the cycle 2 lets a lead of 2 and more be.
			b := with(branches(3, 0, 0), loads(3, 1, 0))
			wantEnd(t, b, m, in(0), max(lead, 2), max(lead, 2)+1+delay)
			b = with(halts(9), loads(3, 1, 0))
			wantEnd(t, b, m, in(0), max(lead, 2), max(lead, 2)+1)
			// Of registers that are not written nothing is waited for but the lead, and the drain.
			b = with(branches(9, 0, 0), loads(3, 1, 0))
			length := max(2, lead+1+delay)
			wantEnd(t, b, m, in(0), length-1-delay, length)
			wantEnd(t, with(jumps(0), loads(3, 1, 0)), m, in(0), length-1-delay, length)
			wantEnd(t, with(loops(3, 0), loads(3, 1, 0)), m, in(0), -1, 2)
		}
	}
}

// The latency of Ctl, and what the other classes are, make no difference to what has no Ops.
func TestWhatIsNotAskedOfTheTable(t *testing.T) {
	for _, m := range []api.Table{
		lats(example(), 8, 8, 8, 8), busy(example(), 4, 4, 4, 1), units(example(), 0, 0, 0, 1), units(example(), 8, 8, 8, 8), lats(example(), 1, 1, 1, 1),
	} {
		wantEnd(t, jumps(0), m, nil, 0, 3)
		wantEnd(t, branches(1, 0, 0), m, nil, 0, 3)
		wantEnd(t, halts(1), m, nil, 0, 1)
		wantEnd(t, loops(1, 0), m, nil, -1, 0)
	}
}

// Lat above Busy, and Busy above Lat: the block is drained by the greater one, a register has landed by Lat.
func TestLatAndBusy(t *testing.T) {
	product, sum, load, store := multiplies(1, 2, 3), adds(1, 2, 3), loads(1, 2, 3), stores(1, 2, 3)
	late := delayed(busy(lats(example(), 5, 6, 7, 1), 2, 3, 4, 1), 0)
	for n, o := range []api.Op{sum, product, load} {
		lands := 5 + n
		wantEnd(t, with(jumps(0), o), late, in(0), lands-1, lands)
		wantEnd(t, with(branches(1, 0, 0), o), late, in(0), lands, lands+1)
		wantEnd(t, with(branches(2, 0, 0), o), late, in(0), lands-1, lands)
		wantEnd(t, with(halts(2), o), late, in(0), lands, lands+1)
		wantEnd(t, with(loops(1, 0), o), late, in(0), -1, lands)
	}
	long := delayed(busy(lats(example(), 1, 1, 1, 1), 4, 4, 4, 1), 0)
	for _, o := range []api.Op{sum, product, load} {
		wantEnd(t, with(jumps(0), o), long, in(0), 3, 4)
		wantEnd(t, with(branches(1, 0, 0), o), long, in(0), 3, 4)
		wantEnd(t, with(branches(2, 0, 0), o), long, in(0), 3, 4)
		wantEnd(t, with(halts(1), o), long, in(0), 1, 2)
		wantEnd(t, with(loops(1, 0), o), long, in(0), -1, 4)
		wantEnd(t, with(jumps(0), o), long, in(10), 13, 14)
		wantEnd(t, with(halts(1), o), long, in(10), 11, 12)
		wantEnd(t, with(loops(1, 0), o), long, in(10), -1, 14)
	}
	wantEnd(t, with(jumps(0), store), long, in(0), 3, 4)
	wantEnd(t, with(halts(1), store), long, in(0), 1, 2)
	// The greatest is not always the last operation's, nor the same one's for both.
	b := with(jumps(0), product, sum)
	b.Ops[1].D = 4
	wantEnd(t, b, late, in(0, 0), 5, 6)
	mixed := delayed(busy(lats(example(), 3, 1, 1, 1), 1, 4, 1, 1), 0)
	wantEnd(t, b, mixed, in(0, 0), 3, 4)
	b.End = api.EndHalt
	wantEnd(t, b, mixed, in(0, 0), 3, 4)
	wantEnd(t, b, mixed, in(1, 0), 3, 4)
	wantEnd(t, b, mixed, in(2, 0), 3, 4)
	wantEnd(t, b, mixed, in(3, 0), 4, 5)
	b.End = api.EndLoop
	wantEnd(t, b, mixed, in(1, 0), -1, 5)
	wantEnd(t, b, mixed, in(1, 7), -1, 10)
}

func TestTheBranchsRegister(t *testing.T) {
	m := example()
	// Written by several: the last one counts.
	b := with(branches(1, 0, 0), multiplies(1, 2, 3), consts(1, 4))
	wantEnd(t, b, m, in(0, 3), 4, 7)
	wantEnd(t, b, m, in(0, 9), 10, 13)
	b = with(branches(1, 0, 0), consts(1, 4), multiplies(1, 1, 1))
	wantEnd(t, b, m, in(0, 1), 4, 7)
	b = with(branches(1, 0, 0), consts(1, 4), loads(1, 5, 0), multiplies(1, 6, 6), moves(1, 7))
	wantEnd(t, b, m, in(0, 1, 2, 5), 6, 9)
	// By the last alone.
	b = with(branches(1, 0, 0), multiplies(2, 3, 3), stores(4, 5, 0), consts(1, 7))
	wantEnd(t, b, m, in(0, 0, 0), 1, 4)
	wantEnd(t, b, m, in(0, 0, 5), 6, 9)
	// By the first alone: what is issued behind it may stand behind the branch.
	b = with(branches(1, 0, 0), consts(1, 7), multiplies(2, 3, 3), stores(4, 5, 0))
	wantEnd(t, b, m, in(0, 0, 0), 1, 4)
	wantEnd(t, b, m, in(0, 1, 1), 1, 4)
	wantEnd(t, b, m, in(0, 2, 1), 2, 5)
	wantEnd(t, b, m, in(0, 6, 1), 6, 9)
	// By none.
	b.A = 3
	wantEnd(t, b, m, in(0, 0, 0), 0, 3)
	wantEnd(t, b, m, in(0, 1, 1), 1, 4)
	// What is written, and by what, does not hang on the register's number.
	for r := range uint8(api.Registers) {
		wantEnd(t, with(branches(r, 0, 0), multiplies(r, 2, 3)), m, in(0), 3, 6)
		wantEnd(t, with(branches(r, 0, 0), multiplies((r+1)%32, 2, 3)), m, in(0), 0, 3)
	}
}

// A store and a print have no D: register 0 is not written by them. Nor is what is read written.
func TestWhatWritesNothing(t *testing.T) {
	m := lats(example(), 1, 3, 6, 1)
	wantEnd(t, with(branches(0, 0, 0), stores(0, 0, 0)), m, in(0), 3, 6)
	wantEnd(t, with(branches(0, 0, 0), prints(0)), m, in(0), 3, 6)
	wantEnd(t, with(branches(0, 0, 0), loads(0, 0, 0)), m, in(0), 6, 9)
	wantEnd(t, with(branches(2, 0, 0), loads(0, 2, 0)), m, in(0), 3, 6)
	wantEnd(t, with(branches(0, 0, 0), adds(0, 1, 1), stores(0, 0, 0), prints(0)), m, in(0, 1, 2), 5, 8)
	wantEnd(t, with(branches(0, 0, 0), adds(0, 1, 1), stores(0, 0, 0), prints(0)), delayed(m, 4), in(0, 1, 2), 3, 8)
}

// Each kind that writes lands by its class.
func TestEachKind(t *testing.T) {
	m := delayed(lats(example(), 2, 5, 7, 1), 4)
	for do := int8(api.Const); do <= api.Print; do++ {
		o, lands := adds(3, 4, 5), 2
		switch {
		case do == api.Const:
			o = consts(3, 4)
		case do == api.Move:
			o = moves(3, 4)
		case do >= api.Load:
			o, lands = []api.Op{loads(3, 4, 0), stores(4, 5, 0), prints(4)}[do-api.Load], 7
		case do >= api.Times:
			lands = 5
		}
		o.Do = do
		wantEnd(t, with(halts(3), o), m, in(0), lands, lands+1)
		wantEnd(t, with(loops(3, 0), o), m, in(0), -1, lands)
		at := lands
		if do >= api.Store {
			at = 2 // nothing is waited for, but that it is drained
		}
		wantEnd(t, with(branches(3, 0, 0), o), m, in(0), at, at+5)
	}
}

// A halt waits for all results and stores, whatever it reads, but not for units.
func TestHaltsBehindStores(t *testing.T) {
	m := busy(lats(example(), 1, 3, 6, 1), 1, 1, 4, 1)
	wantEnd(t, with(halts(9), stores(1, 2, 0)), m, in(0), 6, 7)
	wantEnd(t, with(halts(9), stores(1, 2, 0), stores(1, 2, 1)), m, in(0, 4), 10, 11)
	wantEnd(t, with(halts(9), stores(1, 2, 1), adds(9, 1, 1)), m, in(0, 0), 6, 7)
	wantEnd(t, with(halts(9), stores(1, 2, 1), adds(9, 1, 1)), m, in(0, 8), 9, 10)
	wantEnd(t, with(halts(9), prints(1)), m, in(3), 9, 10)
	wantEnd(t, with(halts(9), stores(1, 2, 0)), lats(m, 1, 3, 1, 1), in(2), 3, 4)
}

// A loop's end is not issued by its block; the lead and the delay are none of its business, nor is A, nor Body.
func TestLoops(t *testing.T) {
	for delay := range api.MaxDelay + 1 {
		m := delayed(busy(example(), 2, 1, 1, 4), delay)
		wantEnd(t, loops(1, 0), m, nil, -1, 0)
		wantEnd(t, with(loops(1, 0), adds(1, 2, 3)), m, in(0), -1, 2)
		wantEnd(t, with(loops(31, 0), adds(31, 2, 3), loads(4, 5, 6)), m, in(0, 0), -1, 2)
		wantEnd(t, with(loops(1, 0), adds(1, 2, 3), loads(4, 5, 6)), m, in(0, 1), -1, 3)
		wantEnd(t, with(loops(1, 0), adds(1, 2, 3)), m, in(api.MaxCycles), -1, api.MaxCycles+2)
		wantEnd(t, with(loops(1, 0, multiplies(1, 1, 1), api.Op{Do: -7}), adds(1, 2, 3)), m, in(0), -1, 2)
	}
}

// End asks of the block only its Ops, how it ends and A where it counts: the rest is program.Check's.
func TestWhatIsNotAskedOfTheBlock(t *testing.T) {
	for _, then := range []int{0, 1, -1, api.MaxBlocks, math.MinInt, math.MaxInt} {
		for _, body := range [][]api.Op{nil, {adds(1, 2, 3)}, {{Do: 99, D: 99}}, make([]api.Op, 2*api.MaxOps)} {
			for n, b := range ends() {
				b.Then, b.Else, b.Body = then, then, body
				want := [][2]int{{0, 3}, {0, 3}, {0, 1}, {-1, 0}}[n]
				wantEnd(t, b, example(), nil, want[0], want[1])
			}
		}
	}
}

func TestRegistersThatCount(t *testing.T) {
	for a := range 256 {
		for _, b := range ends() {
			b.A = uint8(a)
			switch {
			case b.End == api.EndJump:
				wantEnd(t, b, example(), nil, 0, 3)
			case a > 31:
				wantEndRefused(t, b, example(), nil, api.ErrProgram)
			default:
				if _, _, e := End(b, example(), nil); e != api.OK {
					t.Error(b, e)
				}
			}
		}
	}
}

func TestEndsThatAreNone(t *testing.T) {
	for end := math.MinInt8; end <= math.MaxInt8; end++ {
		for _, b := range []api.Block{{}, {A: 1}, {A: 32}, with(api.Block{}, adds(1, 2, 3))} {
			b.End = int8(end)
			if end < api.EndJump || end > api.EndLoop {
				wantEndRefused(t, b, example(), make([]int, len(b.Ops)), api.ErrProgram)
			}
		}
	}
}

// noTables are tables of which one number is out of its bounds.
func noTables() []api.Table {
	all := []api.Table{{}}
	spoil := func(change func(m *api.Table)) {
		m := example()
		change(&m)
		all = append(all, m)
	}
	for class := range api.Classes {
		for _, n := range []int{-1, api.MaxUnits + 1, math.MinInt, math.MaxInt} {
			spoil(func(m *api.Table) { m.Units[class] = n })
		}
		for _, n := range []int{-1, 0, api.MaxLatency + 1, math.MinInt, math.MaxInt} {
			spoil(func(m *api.Table) { m.Lat[class] = n })
		}
		for _, n := range []int{-1, 0, api.MaxBusy + 1, math.MinInt, math.MaxInt} {
			spoil(func(m *api.Table) { m.Busy[class] = n })
		}
	}
	for _, n := range []int{-1, api.MaxDelay + 1, math.MinInt, math.MaxInt} {
		spoil(func(m *api.Table) { m.Delay = n })
	}
	return all
}

func TestNoTables(t *testing.T) {
	for _, m := range noTables() {
		for _, b := range append(ends(), halts(32), api.Block{End: 4}, with(jumps(0), api.Op{}), with(jumps(0), adds(1, 2, 3))) {
			wantEndRefused(t, b, m, make([]int, len(b.Ops)), api.ErrTable)
			wantEndRefused(t, b, m, in(-1, 5), api.ErrTable)
			without := m
			without.Units[api.Ctl] = 0
			if without != units(example(), 1, 1, 1, 0) {
				wantEndRefused(t, b, without, nil, api.ErrTable)
			}
		}
	}
}

func TestNoUnitOfCtl(t *testing.T) {
	m := units(example(), 8, 8, 8, 0)
	for _, b := range append(ends(), halts(32), api.Block{End: -1}, with(jumps(0), api.Op{}), with(loops(1, 0), adds(1, 2, 3))) {
		wantEndRefused(t, b, m, make([]int, len(b.Ops)), api.ErrNoUnit)
		wantEndRefused(t, b, m, in(-1, 5), api.ErrNoUnit)
	}
	wantEnd(t, jumps(0), units(example(), 0, 0, 0, 1), nil, 0, 3)
}

// Of several errors the first one: each of all choices of what is wrong.
func TestTheErrorsOrder(t *testing.T) {
	order := []api.Errno{api.ErrTable, api.ErrNoUnit, api.ErrProgram, api.ErrCycles}
	for wrong := 1; wrong < 1<<len(order); wrong++ {
		for _, b := range ends()[1:] {
			m, cycles := example(), in(0)
			b.Ops = []api.Op{adds(1, 2, 3)}
			var want api.Errno
			for n := len(order) - 1; n >= 0; n-- {
				if wrong&(1<<n) == 0 {
					continue
				}
				want = order[n]
				switch want {
				case api.ErrTable:
					m.Delay = 5
				case api.ErrNoUnit:
					m.Units[api.Ctl] = 0
				case api.ErrProgram:
					b.A = 32
				case api.ErrCycles:
					cycles = in(-1)
				}
			}
			wantEndRefused(t, b, m, cycles, want)
		}
	}
	// What is wrong with Ops, or has no units, is wrong with the cycles.
	wantEndRefused(t, with(halts(32), api.Op{}), example(), in(0), api.ErrProgram)
	wantEndRefused(t, with(api.Block{End: 4}, adds(1, 2, 3)), units(example(), 0, 1, 1, 1), in(0), api.ErrProgram)
}

// All that list.Check does not take is ErrCycles.
func TestCyclesThatAreNone(t *testing.T) {
	two := []api.Op{multiplies(1, 2, 3), adds(4, 1, 1)}
	for _, b := range ends() {
		b.Ops = two
		if _, _, e := End(b, example(), in(0, 3)); e != api.OK {
			t.Error(b, e)
		}
		for _, cycles := range [][]int{
			nil, {}, {0}, {3}, {0, 3, 6}, {0, 3, -1}, // too few, too many
			{-1, 3}, {0, -1}, {-4, -1}, {math.MinInt, 3}, {0, math.MinInt}, // negative
			{0, 2}, {0, 0}, {3, 0}, {1, 3}, // wrong
			{0, api.MaxCycles + 1}, {api.MaxCycles + 1, api.MaxCycles + 4}, {0, math.MaxInt}, {math.MaxInt, math.MaxInt},
		} {
			wantEndRefused(t, b, example(), cycles, api.ErrCycles)
		}
		b.Ops = nil
		wantEndRefused(t, b, example(), in(0), api.ErrCycles)
		wantEndRefused(t, b, example(), in(-1), api.ErrCycles)
		// One unit for two operations, one that is busy yet, none.
		b.Ops = []api.Op{adds(1, 2, 3), adds(4, 5, 6)}
		wantEndRefused(t, b, example(), in(0, 0), api.ErrCycles)
		wantEndRefused(t, b, busy(example(), 2, 1, 1, 1), in(0, 1), api.ErrCycles)
		wantEndRefused(t, b, units(example(), 0, 1, 1, 1), in(0, 1), api.ErrCycles)
		wantEndRefused(t, with(b, loads(1, 2, 3)), units(example(), 1, 1, 0, 1), in(0), api.ErrCycles)
	}
}

// Operations that are none, or none of a program, are never in cycles; nor are too many.
func TestOpsThatAreNone(t *testing.T) {
	none := []api.Op{{}, {Do: -1}, {Do: api.Kinds}, {Do: 127, D: 255, A: 255, B: 255}, adds(32, 1, 2), adds(1, 255, 2), {Do: api.Add, Imm: 1}, consts(1, 1<<31)}
	for do := int8(api.Jump); do < api.Kinds; do++ {
		none = append(none, api.Op{Do: do})
	}
	for _, b := range ends() {
		for _, o := range none {
			wantEndRefused(t, with(b, o), example(), in(0), api.ErrCycles)
			wantEndRefused(t, with(b, o), example(), nil, api.ErrCycles)
			wantEndRefused(t, with(b, adds(1, 2, 3), o), example(), in(0, 5), api.ErrCycles)
		}
		cycles := make([]int, api.MaxOps+1)
		for n := range cycles {
			cycles[n] = n
		}
		wantEndRefused(t, with(b, slices.Repeat([]api.Op{adds(1, 2, 3)}, api.MaxOps+1)...), example(), cycles, api.ErrCycles)
	}
}

func TestManyOps(t *testing.T) {
	all := slices.Repeat([]api.Op{adds(1, 2, 3)}, api.MaxOps)
	cycles := make([]int, api.MaxOps)
	for n := range cycles {
		cycles[n] = n
	}
	all[api.MaxOps-1].D = 5
	wantEnd(t, with(jumps(0), all...), example(), cycles, api.MaxOps-3, api.MaxOps)
	wantEnd(t, with(branches(1, 0, 0), all...), example(), cycles, api.MaxOps-1, api.MaxOps+2)
	wantEnd(t, with(branches(5, 0, 0), all...), example(), cycles, api.MaxOps, api.MaxOps+3)
	wantEnd(t, with(branches(3, 0, 0), all...), example(), cycles, api.MaxOps-3, api.MaxOps)
	wantEnd(t, with(halts(3), all...), example(), cycles, api.MaxOps, api.MaxOps+1)
	wantEnd(t, with(loops(3, 0), all...), example(), cycles, -1, api.MaxOps)
}

// The last cycle that list.Check takes.
func TestTheGreatestCycles(t *testing.T) {
	m := busy(lats(delayed(example(), 4), 8, 8, 8, 8), 4, 4, 4, 4)
	const last = api.MaxCycles
	wantEnd(t, with(jumps(0), adds(1, 2, 3)), m, in(last), last+3, last+8)
	wantEnd(t, with(branches(1, 0, 0), adds(1, 2, 3)), m, in(last), last+8, last+13)
	wantEnd(t, with(halts(2), adds(1, 2, 3)), m, in(last), last+8, last+9)
	wantEnd(t, with(loops(1, 0), adds(1, 2, 3)), m, in(last), -1, last+8)
	wantEndRefused(t, with(jumps(0), adds(1, 2, 3)), m, in(last+1), api.ErrCycles)
}
