package deps

import (
	"math"
	"slices"
	"testing"

	"hayloft/api"
)

func consts(d uint8, imm int64) api.Op { return api.Op{Do: api.Const, D: d, Imm: imm} }

func moves(d, a uint8) api.Op { return api.Op{Do: api.Move, D: d, A: a} }

func adds(d, a, b uint8) api.Op { return api.Op{Do: api.Add, D: d, A: a, B: b} }

func multiplies(d, a, b uint8) api.Op { return api.Op{Do: api.Times, D: d, A: a, B: b} }

func divides(d, a, b uint8) api.Op { return api.Op{Do: api.Divide, D: d, A: a, B: b} }

func rests(d, a, b uint8) api.Op { return api.Op{Do: api.Rest, D: d, A: a, B: b} }

func loads(d, a uint8, imm int64) api.Op { return api.Op{Do: api.Load, D: d, A: a, Imm: imm} }

func stores(a, b uint8, imm int64) api.Op { return api.Op{Do: api.Store, A: a, B: b, Imm: imm} }

func prints(a uint8) api.Op { return api.Op{Do: api.Print, A: a} }

func list(l ...api.Op) []api.Op { return l }

// tableOf answers a table of these latencies, of one unit each.
func tableOf(alu, mul, mem, ctl int) api.Table {
	ones := [api.Classes]int{1, 1, 1, 1}
	return api.Table{Units: ones, Lat: [api.Classes]int{alu, mul, mem, ctl}, Busy: ones}
}

// The chapter's table.
func example() api.Table { return tableOf(1, 3, 2, 1) }

// within and around are dependences in one round, and from a round to the next.
func within(from, to, lat int, why int8) api.Edge {
	return api.Edge{From: from, To: to, Lat: lat, Why: why}
}

func around(from, to, lat int, why int8) api.Edge {
	return api.Edge{From: from, To: to, Lat: lat, Dist: 1, Why: why}
}

func edges(e ...api.Edge) []api.Edge { return e }

func wantOf(t *testing.T, l []api.Op, m api.Table, want ...api.Edge) {
	t.Helper()
	if got, e := Of(l, m); e != api.OK || !slices.Equal(got, want) {
		t.Errorf("Of(%v, %v) is %v, %v, want %v", l, m.Lat, got, e, want)
	}
}

// wantLoop holds Loop against Of's and what is handed in behind them.
func wantLoop(t *testing.T, l []api.Op, m api.Table, want ...api.Edge) {
	t.Helper()
	got, e := Loop(l, m)
	ahead, f := Of(l, m)
	if e != api.OK || f != api.OK || len(got) < len(ahead) || !slices.Equal(got[:len(ahead)], ahead) {
		t.Errorf("Loop(%v, %v) is %v, %v, and Of %v, %v", l, m.Lat, got, e, ahead, f)
		return
	}
	if !slices.Equal(got[len(ahead):], want) {
		t.Errorf("Loop(%v, %v) is, behind Of's, %v, want %v", l, m.Lat, got[len(ahead):], want)
	}
}

// wantRefused says what both calls answer of what they refuse.
func wantRefused(t *testing.T, l []api.Op, m api.Table, want api.Errno) {
	t.Helper()
	if got, e := Of(l, m); e != want || len(got) != 0 {
		t.Errorf("Of of %d operations, %v, is %v, %v, want %v", len(l), m, got, e, want)
	}
	if got, e := Loop(l, m); e != want || len(got) != 0 {
		t.Errorf("Loop of %d operations, %v, is %v, %v, want %v", len(l), m, got, e, want)
	}
}

func TestChapterExamples(t *testing.T) {
	l := list(consts(1, 0), multiplies(2, 1, 1), adds(1, 2, 1), prints(1))
	wantOf(t, l, example(),
		within(0, 1, 1, api.DepTrue), within(0, 2, 1, api.DepTrue), within(0, 2, 1, api.DepOut),
		within(1, 2, 3, api.DepTrue), within(1, 2, 0, api.DepAnti), within(2, 3, 1, api.DepTrue))
	wantLoop(t, l, example(),
		around(0, 0, 1, api.DepOut), around(1, 0, 0, api.DepAnti), around(2, 0, 0, api.DepAnti), around(2, 0, 1, api.DepOut),
		around(3, 0, 0, api.DepAnti),
		around(1, 1, 1, api.DepOut), around(2, 1, 0, api.DepAnti),
		around(0, 2, 1, api.DepOut), around(1, 2, 0, api.DepAnti), around(2, 2, 0, api.DepAnti), around(2, 2, 1, api.DepOut),
		around(3, 2, 0, api.DepAnti),
		around(3, 3, 1, api.DepOrder))
	wantOf(t, list(stores(1, 2, 0), loads(3, 1, 8)), example())
	wantOf(t, list(stores(1, 2, 0), loads(3, 1, 256)), example(), within(0, 1, 2, api.DepMem))
	wantRefused(t, list(api.Op{Do: api.Jump}), example(), api.ErrOp)
	wantRefused(t, slices.Repeat(list(consts(1, 0)), 1025), example(), api.ErrLong)
}

// The numbers of Why that the chapter names.
func TestWhyNumbers(t *testing.T) {
	if got := [...]int{api.DepTrue, api.DepAnti, api.DepOut, api.DepMem, api.DepOrder}; got != [...]int{0, 1, 2, 3, 4} {
		t.Error(got)
	}
}

func TestEmptyLists(t *testing.T) {
	for _, l := range [][]api.Op{nil, {}, make([]api.Op, 0, 5), list(prints(1), prints(1))[:0]} {
		wantOf(t, l, example())
		wantLoop(t, l, example())
		wantRefused(t, l, api.Table{}, api.ErrTable)
	}
}

// noTables are tables of which one number is out of its bounds.
func noTables() []api.Table {
	all := []api.Table{{}}
	spoil := func(change func(m *api.Table)) {
		m := example()
		change(&m)
		all = append(all, m)
	}
	for class := range api.Classes {
		for _, n := range []int{-1, 9, math.MinInt, math.MaxInt} {
			spoil(func(m *api.Table) { m.Units[class] = n })
		}
		for _, n := range []int{0, -1, 9, math.MinInt, math.MaxInt} {
			spoil(func(m *api.Table) { m.Lat[class] = n })
		}
		for _, n := range []int{0, -1, 5, math.MinInt, math.MaxInt} {
			spoil(func(m *api.Table) { m.Busy[class] = n })
		}
	}
	for _, n := range []int{-1, 5, math.MinInt, math.MaxInt} {
		spoil(func(m *api.Table) { m.Delay = n })
	}
	return all
}

// The errors in their order: each of two that hold at once, and all three.
func TestErrorsInTheirOrder(t *testing.T) {
	fine := list(prints(1), prints(1))
	wrong := list(prints(1), api.Op{Do: api.Jump})
	long := slices.Repeat(list(prints(1)), api.MaxOps+1)
	wrongAndLong := slices.Clone(long)
	for _, m := range noTables() {
		wantRefused(t, fine, m, api.ErrTable)
		wantRefused(t, wrong, m, api.ErrTable)
		wantRefused(t, long, m, api.ErrTable)
		wantRefused(t, append(slices.Clone(long), wrong...), m, api.ErrTable)
	}
	wantRefused(t, long, example(), api.ErrLong)
	wantRefused(t, wrong, example(), api.ErrOp)
	for _, at := range []int{0, 1, 500, api.MaxOps - 1, api.MaxOps} {
		wrongAndLong[at] = api.Op{Do: api.Jump}
		wantRefused(t, wrongAndLong, example(), api.ErrLong)
		wrongAndLong[at] = prints(1)
	}
	wantRefused(t, make([]api.Op, api.MaxOps+1), example(), api.ErrLong)
	wantRefused(t, make([]api.Op, api.MaxOps), example(), api.ErrOp)
	wantRefused(t, make([]api.Op, 100000), example(), api.ErrLong)
}

// Tables at their bounds; how many units there are makes no difference here.
func TestTablesAtTheirBounds(t *testing.T) {
	l := list(multiplies(1, 2, 3), adds(1, 1, 1), stores(1, 1, 0), loads(2, 1, 0))
	for _, n := range []int{0, 1, 8} {
		for _, lat := range []int{1, 8} {
			m := tableOf(lat, lat, lat, lat)
			m.Units = [api.Classes]int{n, n, n, n}
			m.Busy = [api.Classes]int{4, 4, 4, 4}
			m.Delay = n / 2
			wantOf(t, l, m, within(0, 1, lat, api.DepTrue), within(0, 1, 1, api.DepOut), within(1, 2, lat, api.DepTrue),
				within(0, 3, 0, api.DepAnti), within(1, 3, lat, api.DepTrue), within(2, 3, lat, api.DepMem))
		}
	}
}

func TestLongestLists(t *testing.T) {
	l := slices.Repeat(list(consts(1, 0)), api.MaxOps)
	for n := range l {
		l[n] = stores(uint8(n%32), 1, 5)
	}
	l[0], l[api.MaxOps-1] = consts(1, 7), prints(1)
	got, e := Of(l, example())
	last := got[max(0, len(got)-1)]
	if want := within(0, api.MaxOps-1, 1, api.DepTrue); e != api.OK || last != want {
		t.Errorf("%v, %v", last, e)
	}
	// Each pair of a list in which every two depend on one another in three ways.
	for n := range l {
		l[n] = divides(1, 1, 1)
	}
	const pairs = api.MaxOps * (api.MaxOps - 1) / 2
	if got, e = Of(l, example()); e != api.OK || len(got) != 3*pairs+api.MaxOps-1 {
		t.Errorf("%d, %v", len(got), e)
	}
	if got, e = Loop(l, example()); e != api.OK || len(got) != 3*pairs+api.MaxOps-1+3*api.MaxOps*api.MaxOps+1 {
		t.Errorf("%d, %v", len(got), e)
	}
}

// Every pair of the longest list whose cells are told apart; its base is register 0, which Prints have as a D that does not count.
func TestLongestListOfMemory(t *testing.T) {
	l := make([]api.Op, api.MaxOps)
	for n := range l {
		switch {
		case n%4 == 3:
			l[n] = prints(0)
		case n < 256:
			l[n] = stores(0, 0, int64(n))
		default:
			l[n] = loads(2, 0, int64(n-n%256+3))
		}
	}
	got, e := Loop(l, example())
	met := 0
	for _, d := range got {
		if d.Why == api.DepMem && (d.From != d.To || d.Dist != 1) {
			t.Fatal(d)
		}
		if d.Why == api.DepMem {
			met++
		}
	}
	if e != api.OK || met != 192 {
		t.Errorf("%d, %v", met, e)
	}
}

// whatIsNone are operations that stand in no list.
func whatIsNone() []api.Op {
	all := list(api.Op{}, api.Op{Do: api.Jump, Imm: 1}, api.Op{Do: api.Branch, A: 1, Imm: 1}, api.Op{Do: api.Halt, A: 1},
		api.Op{Do: api.Count, A: 1, Imm: 1}, api.Op{Do: api.Short, A: 1, B: 2, Imm: 1}, api.Op{Do: api.Again, Imm: 1})
	for do := -128; do <= 127; do++ {
		if do < api.Const || do > api.Print {
			all = append(all, api.Op{Do: int8(do)}, api.Op{Do: int8(do), D: 1, A: 1, B: 1, Imm: 1})
		}
	}
	for do := int8(api.Const); do <= api.Print; do++ {
		all = append(all, api.Op{Do: do, D: 32}, api.Op{Do: do, A: 32}, api.Op{Do: do, B: 32}, api.Op{Do: do, D: 255}, api.Op{Do: do, A: 255},
			api.Op{Do: do, B: 255}, api.Op{Do: do, Imm: 1 << 31}, api.Op{Do: do, Imm: -1<<31 - 1}, api.Op{Do: do, Imm: math.MinInt64})
	}
	// A field that does not count is not 0.
	return append(all, api.Op{Do: api.Const, A: 1}, api.Op{Do: api.Const, B: 1}, api.Op{Do: api.Move, B: 1}, api.Op{Do: api.Move, Imm: 1},
		api.Op{Do: api.Add, Imm: 1}, api.Op{Do: api.Rest, Imm: -1}, api.Op{Do: api.Load, B: 1}, api.Op{Do: api.Store, D: 1},
		api.Op{Do: api.Print, D: 1}, api.Op{Do: api.Print, B: 1}, api.Op{Do: api.Print, Imm: 1})
}

func TestOperationsThatStandInNoList(t *testing.T) {
	for _, o := range whatIsNone() {
		wantRefused(t, list(o), example(), api.ErrOp)
		for at := range 4 {
			l := list(consts(1, 0), adds(2, 1, 1), stores(1, 2, 3), prints(2))
			l[at] = o
			wantRefused(t, l, example(), api.ErrOp)
		}
		l := slices.Repeat(list(consts(1, 0)), api.MaxOps)
		l[api.MaxOps-1] = o
		wantRefused(t, l, example(), api.ErrOp)
	}
}

func TestEveryKindStandsInAList(t *testing.T) {
	for do := int8(api.Const); do <= api.Print; do++ {
		wantOf(t, list(api.Op{Do: do}), example())
	}
	wantOf(t, list(consts(31, math.MinInt32), loads(31, 31, math.MaxInt32)), example(), within(0, 1, 1, api.DepTrue), within(0, 1, 0, api.DepOut))
}

// wrote answers an operation of each kind that writes d and reads a.
func wrote(d, a uint8) []api.Op {
	l := list(consts(d, 5), moves(d, a), loads(d, a, 5))
	for do := int8(api.Add); do <= api.Rest; do++ {
		if do != api.Move {
			l = append(l, api.Op{Do: do, D: d, A: a, B: a})
		}
	}
	return l
}

// latTold answers the latency of the class of a kind, by the table of chapter 3.
func latTold(do int8, m api.Table) int {
	switch do {
	case api.Times, api.Divide, api.Rest:
		return m.Lat[1]
	case api.Load, api.Store, api.Print:
		return m.Lat[2]
	}
	return m.Lat[0]
}

// unlike are tables whose classes have unlike latencies, each class once the slowest and once the fastest.
func unlike() []api.Table {
	return []api.Table{tableOf(2, 5, 3, 7), tableOf(8, 1, 4, 2), tableOf(3, 4, 8, 1), tableOf(5, 8, 1, 6), tableOf(1, 2, 5, 8)}
}

// onlyOrder answers DepOrder of the two, if both are ordered.
func onlyOrder(a, b api.Op, e api.Edge) []api.Edge {
	traps := func(o api.Op) bool { return o.Do == api.Divide || o.Do == api.Rest || o.Do == api.Print }
	if traps(a) && traps(b) {
		e.Lat, e.Why = 1, api.DepOrder
		return edges(e)
	}
	return nil
}

// Each of DepTrue, DepAnti, DepOut alone, of every two kinds.
func TestLatencies(t *testing.T) {
	for _, m := range unlike() {
		for _, a := range wrote(1, 10) {
			for _, b := range append(wrote(2, 1), prints(1), stores(1, 9, 0), stores(9, 1, 0)) {
				if b.Do == api.Const || a.Do == api.Load && b.Do == api.Store {
					continue
				}
				want := edges(within(0, 1, latTold(a.Do, m), api.DepTrue))
				wantOf(t, list(a, b), m, append(want, onlyOrder(a, b, within(0, 1, 0, 0))...)...)
			}
			for _, b := range wrote(10, 11) {
				if a.Do == api.Const {
					continue
				}
				want := edges(within(0, 1, 0, api.DepAnti))
				wantOf(t, list(a, b), m, append(want, onlyOrder(a, b, within(0, 1, 0, 0))...)...)
			}
			for _, b := range wrote(1, 11) {
				want := edges(within(0, 1, max(0, latTold(a.Do, m)-latTold(b.Do, m)+1), api.DepOut))
				wantOf(t, list(a, b), m, append(want, onlyOrder(a, b, within(0, 1, 0, 0))...)...)
			}
		}
		for _, a := range list(prints(10), stores(10, 9, 0), stores(9, 10, 0)) {
			for _, b := range wrote(10, 11) {
				if b.Do == api.Load && a.Do == api.Store {
					continue
				}
				want := edges(within(0, 1, 0, api.DepAnti))
				wantOf(t, list(a, b), m, append(want, onlyOrder(a, b, within(0, 1, 0, 0))...)...)
			}
		}
	}
}

// DepOut where Lat(i) - Lat(j) + 1 is above 0, 0 and below 0, by every two latencies.
func TestOutLatencies(t *testing.T) {
	for slow := 1; slow <= 8; slow++ {
		for fast := 1; fast <= 8; fast++ {
			m := tableOf(slow, fast, 1, 1)
			wantOf(t, list(consts(1, 0), multiplies(1, 2, 2)), m, within(0, 1, max(0, slow-fast+1), api.DepOut))
			m = tableOf(1, slow, fast, 1)
			wantOf(t, list(multiplies(1, 2, 2), loads(1, 2, 0)), m, within(0, 1, max(0, slow-fast+1), api.DepOut))
			wantLoop(t, list(multiplies(1, 2, 2), loads(1, 2, 0)), m, around(0, 0, 1, api.DepOut), around(1, 0, max(0, fast-slow+1), api.DepOut),
				around(0, 1, max(0, slow-fast+1), api.DepOut), around(1, 1, 1, api.DepOut))
		}
	}
	wantOf(t, list(multiplies(1, 2, 2), consts(1, 0)), tableOf(2, 5, 1, 1), within(0, 1, 4, api.DepOut))
	wantOf(t, list(consts(1, 0), multiplies(1, 2, 2)), tableOf(2, 3, 1, 1), within(0, 1, 0, api.DepOut))
	wantOf(t, list(consts(1, 0), multiplies(1, 2, 2)), tableOf(2, 7, 1, 1), within(0, 1, 0, api.DepOut))
}

func TestTrueComesFromTheLastWriterAlone(t *testing.T) {
	m := tableOf(2, 5, 3, 7)
	wantOf(t, list(consts(1, 0), multiplies(1, 9, 9), prints(1)), m,
		within(0, 1, 0, api.DepOut), within(1, 2, 5, api.DepTrue))
	wantOf(t, list(consts(1, 0), prints(1), loads(1, 9, 0), prints(1)), m,
		within(0, 1, 2, api.DepTrue), within(0, 2, 0, api.DepOut), within(1, 2, 0, api.DepAnti), within(1, 3, 1, api.DepOrder), within(2, 3, 3, api.DepTrue))
	// Who stands between and writes another register hides nothing.
	wantOf(t, list(consts(1, 0), consts(2, 0), consts(0, 0), prints(1)), m, within(0, 3, 2, api.DepTrue))
	// A writer behind who reads is none of his.
	wantOf(t, list(prints(1), consts(1, 0)), m, within(0, 1, 0, api.DepAnti))
	// Every register.
	for r := range uint8(api.Registers) {
		o := (r + 5) % 32
		wantOf(t, list(consts(r, 0), consts(o, 0), consts(r, 0), prints(r)), m, within(0, 2, 1, api.DepOut), within(2, 3, 2, api.DepTrue))
	}
}

func TestReadsOfOneAndOfTwoWriters(t *testing.T) {
	m := tableOf(2, 5, 3, 7)
	// One register read twice: it stands there once.
	wantOf(t, list(consts(1, 0), adds(2, 1, 1)), m, within(0, 1, 2, api.DepTrue))
	wantOf(t, list(multiplies(1, 8, 8), stores(1, 1, 0)), m, within(0, 1, 5, api.DepTrue))
	// Two registers, of two writers in either order, and of one.
	wantOf(t, list(consts(1, 0), multiplies(2, 8, 8), adds(3, 1, 2)), m, within(0, 2, 2, api.DepTrue), within(1, 2, 5, api.DepTrue))
	wantOf(t, list(consts(1, 0), multiplies(2, 8, 8), adds(3, 2, 1)), m, within(0, 2, 2, api.DepTrue), within(1, 2, 5, api.DepTrue))
	wantOf(t, list(consts(1, 0), adds(3, 1, 2)), m, within(0, 1, 2, api.DepTrue))
	wantOf(t, list(consts(1, 0), adds(3, 2, 1)), m, within(0, 1, 2, api.DepTrue))
	wantOf(t, list(consts(1, 0), stores(2, 1, 0), stores(1, 2, 256)), m, within(0, 1, 2, api.DepTrue), within(0, 2, 2, api.DepTrue), within(1, 2, 1, api.DepMem))
	// It reads what it writes itself.
	wantOf(t, list(adds(1, 1, 1)), m)
	wantOf(t, list(adds(1, 1, 1), adds(1, 1, 1)), m, within(0, 1, 2, api.DepTrue), within(0, 1, 0, api.DepAnti), within(0, 1, 1, api.DepOut))
	wantOf(t, list(consts(1, 0), loads(1, 1, 0)), m, within(0, 1, 2, api.DepTrue), within(0, 1, 0, api.DepOut))
	// What is a number, or a field that does not count, is no register.
	wantOf(t, list(consts(5, 0), consts(0, 0), consts(1, 5), loads(2, 7, 5), stores(7, 8, 5+256*5)), m, within(3, 4, 0, api.DepMem))
	wantOf(t, list(consts(0, 0), consts(1, 0), stores(3, 4, 0), prints(3)), m)
	wantOf(t, list(prints(3), stores(3, 4, 0), consts(0, 0)), m)
}

// DepAnti and DepOut hold though others stand between that read and write the same.
func TestAntiAndOutOfAllAhead(t *testing.T) {
	m := tableOf(2, 5, 3, 7)
	wantOf(t, list(moves(9, 1), moves(8, 1), multiplies(7, 1, 2), consts(1, 0)), m,
		within(0, 3, 0, api.DepAnti), within(1, 3, 0, api.DepAnti), within(2, 3, 0, api.DepAnti))
	wantOf(t, list(moves(9, 1), consts(1, 0), consts(1, 0)), m,
		within(0, 1, 0, api.DepAnti), within(0, 2, 0, api.DepAnti), within(1, 2, 1, api.DepOut))
	wantOf(t, list(multiplies(1, 8, 8), consts(1, 0), loads(1, 8, 0), consts(1, 0)), m,
		within(0, 1, 4, api.DepOut), within(0, 2, 3, api.DepOut), within(1, 2, 0, api.DepOut),
		within(0, 3, 4, api.DepOut), within(1, 3, 1, api.DepOut), within(2, 3, 2, api.DepOut))
}

func TestMemory(t *testing.T) {
	for _, m := range unlike() {
		mem := m.Lat[api.Mem]
		wantOf(t, list(stores(1, 2, 8), loads(3, 1, 8)), m, within(0, 1, mem, api.DepMem))
		wantOf(t, list(stores(1, 2, 8), loads(3, 4, 9)), m, within(0, 1, mem, api.DepMem))
		wantOf(t, list(loads(3, 1, 8), stores(1, 2, 264)), m, within(0, 1, 0, api.DepMem))
		wantOf(t, list(loads(3, 1, 8), stores(4, 2, 9)), m, within(0, 1, 0, api.DepMem))
		wantOf(t, list(stores(1, 2, 8), stores(1, 5, -248)), m, within(0, 1, 1, api.DepMem))
		wantOf(t, list(stores(1, 2, 8), stores(4, 2, 9)), m, within(0, 1, 1, api.DepMem))
		// Two Loads, and what has no cell.
		wantOf(t, list(loads(3, 1, 8), loads(4, 1, 8)), m)
		wantOf(t, list(stores(1, 2, 8), prints(1), loads(3, 1, 9), prints(1)), m, within(1, 3, 1, api.DepOrder))
		// Cells that are told apart.
		wantOf(t, list(stores(1, 2, 8), loads(3, 1, 9)), m)
		wantOf(t, list(loads(3, 1, 9), stores(1, 2, 8)), m)
		wantOf(t, list(stores(1, 2, 9), stores(1, 2, 8)), m)
		// Their base is written between.
		wantOf(t, list(stores(1, 2, 8), consts(1, 0), loads(3, 1, 9)), m,
			within(0, 1, 0, api.DepAnti), within(0, 2, mem, api.DepMem), within(1, 2, m.Lat[api.Alu], api.DepTrue))
		// A Load that writes its base, and what it is stored into.
		wantOf(t, list(loads(1, 1, 8), stores(1, 2, 9)), m, within(0, 1, mem, api.DepTrue), within(0, 1, 0, api.DepMem))
		wantOf(t, list(stores(1, 2, 9), loads(1, 1, 8)), m, within(0, 1, 0, api.DepAnti))
	}
}

func TestOrder(t *testing.T) {
	kinds := func(d uint8) []api.Op { return list(prints(20), divides(d, 20, 21), rests(d, 21, 20)) }
	for _, m := range unlike() {
		for _, a := range kinds(1) {
			for _, b := range kinds(2) {
				wantOf(t, list(a, b), m, within(0, 1, 1, api.DepOrder))
				wantOf(t, list(a, consts(8, 0), b), m, within(0, 2, 1, api.DepOrder))
				wantOf(t, list(a, b, kinds(3)[0]), m, within(0, 1, 1, api.DepOrder), within(0, 2, 1, api.DepOrder), within(1, 2, 1, api.DepOrder))
			}
			// All the other kinds are of no order.
			for _, b := range append(wrote(2, 22), stores(22, 23, 0)) {
				if !slices.Contains([]int8{api.Divide, api.Rest}, b.Do) {
					wantOf(t, list(a, b), m)
					wantOf(t, list(b, a), m)
				}
			}
		}
	}
}

// By rising j, then by rising i, then as in the table, all of a pair that can hold at once.
func TestOrderOfWhatIsAnswered(t *testing.T) {
	m := tableOf(2, 5, 3, 7)
	wantOf(t, list(divides(1, 1, 2), divides(1, 1, 2), rests(1, 1, 1)), m,
		within(0, 1, 5, api.DepTrue), within(0, 1, 0, api.DepAnti), within(0, 1, 1, api.DepOut), within(0, 1, 1, api.DepOrder),
		within(0, 2, 0, api.DepAnti), within(0, 2, 1, api.DepOut), within(0, 2, 1, api.DepOrder),
		within(1, 2, 5, api.DepTrue), within(1, 2, 0, api.DepAnti), within(1, 2, 1, api.DepOut), within(1, 2, 1, api.DepOrder))
	wantOf(t, list(loads(1, 2, 0), stores(3, 1, 0), loads(3, 3, 0)), m,
		within(0, 1, 3, api.DepTrue), within(0, 1, 0, api.DepMem), within(1, 2, 0, api.DepAnti), within(1, 2, 3, api.DepMem))
	wantLoop(t, list(loads(1, 2, 0), stores(3, 1, 0), loads(3, 3, 0)), m,
		around(0, 0, 1, api.DepOut), around(1, 0, 0, api.DepAnti), around(1, 0, 3, api.DepMem),
		around(0, 1, 0, api.DepMem), around(1, 1, 1, api.DepMem), around(2, 1, 3, api.DepTrue), around(2, 1, 0, api.DepMem),
		around(1, 2, 0, api.DepAnti), around(1, 2, 3, api.DepMem), around(2, 2, 3, api.DepTrue), around(2, 2, 0, api.DepAnti), around(2, 2, 1, api.DepOut))
	wantLoop(t, list(divides(1, 1, 2)), m,
		around(0, 0, 5, api.DepTrue), around(0, 0, 0, api.DepAnti), around(0, 0, 1, api.DepOut), around(0, 0, 1, api.DepOrder))
}

func TestTrueFromRoundToRound(t *testing.T) {
	m := tableOf(2, 5, 3, 7)
	// From behind.
	wantLoop(t, list(moves(9, 1), multiplies(1, 8, 8)), m,
		around(0, 0, 1, api.DepOut), around(1, 0, 5, api.DepTrue), around(0, 1, 0, api.DepAnti), around(1, 1, 1, api.DepOut))
	// From itself.
	wantLoop(t, list(multiplies(1, 1, 8)), m, around(0, 0, 5, api.DepTrue), around(0, 0, 0, api.DepAnti), around(0, 0, 1, api.DepOut))
	// The last writer of the whole list alone.
	wantLoop(t, list(prints(1), consts(1, 0), multiplies(1, 8, 8)), m,
		around(0, 0, 1, api.DepOrder), around(2, 0, 5, api.DepTrue),
		around(0, 1, 0, api.DepAnti), around(1, 1, 1, api.DepOut), around(2, 1, 4, api.DepOut),
		around(0, 2, 0, api.DepAnti), around(1, 2, 0, api.DepOut), around(2, 2, 1, api.DepOut))
	// One ahead of j writes it in its own round.
	wantLoop(t, list(consts(1, 0), prints(1), consts(1, 0)), m,
		around(0, 0, 1, api.DepOut), around(1, 0, 0, api.DepAnti), around(2, 0, 1, api.DepOut), around(1, 1, 1, api.DepOrder),
		around(0, 2, 1, api.DepOut), around(1, 2, 0, api.DepAnti), around(2, 2, 1, api.DepOut))
	// Of two registers one is written ahead and one behind.
	wantLoop(t, list(consts(1, 0), stores(1, 2, 0), consts(2, 0)), m,
		around(0, 0, 1, api.DepOut), around(1, 0, 0, api.DepAnti),
		around(1, 1, 1, api.DepMem), around(2, 1, 2, api.DepTrue),
		around(1, 2, 0, api.DepAnti), around(2, 2, 1, api.DepOut))
	// Read ahead of its only writer, and behind it.
	wantLoop(t, list(moves(8, 1), moves(1, 7), moves(9, 1)), m,
		around(0, 0, 1, api.DepOut), around(1, 0, 2, api.DepTrue),
		around(0, 1, 0, api.DepAnti), around(1, 1, 1, api.DepOut), around(2, 1, 0, api.DepAnti), around(2, 2, 1, api.DepOut))
	// None writes it.
	wantLoop(t, list(prints(1), consts(2, 0)), m, around(0, 0, 1, api.DepOrder), around(1, 1, 1, api.DepOut))
}

func TestMemoryFromRoundToRound(t *testing.T) {
	for _, m := range unlike() {
		mem := m.Lat[api.Mem]
		// A Store with itself, a Load with itself.
		wantLoop(t, list(stores(1, 2, 8)), m, around(0, 0, 1, api.DepMem))
		wantLoop(t, list(loads(3, 1, 8)), m, around(0, 0, 1, api.DepOut))
		// Both ways, and told apart.
		wantLoop(t, list(stores(1, 2, 8), loads(3, 1, 264)), m, around(0, 0, 1, api.DepMem), around(1, 0, 0, api.DepMem),
			around(0, 1, mem, api.DepMem), around(1, 1, 1, api.DepOut))
		wantLoop(t, list(stores(1, 2, 8), loads(3, 1, 9)), m, around(0, 0, 1, api.DepMem), around(1, 1, 1, api.DepOut))
		wantLoop(t, list(stores(1, 2, 8), stores(1, 2, 9)), m, around(0, 0, 1, api.DepMem), around(1, 1, 1, api.DepMem))
		wantLoop(t, list(stores(1, 2, 8), stores(4, 2, 9)), m, around(0, 0, 1, api.DepMem), around(1, 0, 1, api.DepMem),
			around(0, 1, 1, api.DepMem), around(1, 1, 1, api.DepMem))
		// Told apart within a round, but the base goes on from round to round.
		l := list(loads(3, 1, 8), stores(1, 2, 9), adds(1, 1, 5))
		wantOf(t, l, m, within(0, 2, 0, api.DepAnti), within(1, 2, 0, api.DepAnti))
		alu := m.Lat[api.Alu]
		wantLoop(t, l, m,
			around(0, 0, 1, api.DepOut), around(1, 0, mem, api.DepMem), around(2, 0, alu, api.DepTrue),
			around(0, 1, 0, api.DepMem), around(1, 1, 1, api.DepMem), around(2, 1, alu, api.DepTrue),
			around(0, 2, 0, api.DepAnti), around(1, 2, 0, api.DepAnti),
			around(2, 2, alu, api.DepTrue), around(2, 2, 0, api.DepAnti), around(2, 2, 1, api.DepOut))
		// Two Loads by a base that goes on.
		wantLoop(t, list(loads(3, 1, 8), loads(4, 1, 8)), m, around(0, 0, 1, api.DepOut), around(1, 1, 1, api.DepOut))
	}
}

func TestOrderFromRoundToRound(t *testing.T) {
	l := list(prints(20), divides(1, 20, 21), adds(3, 20, 20), rests(2, 20, 21))
	wantLoop(t, l, tableOf(2, 5, 3, 7),
		around(0, 0, 1, api.DepOrder), around(1, 0, 1, api.DepOrder), around(3, 0, 1, api.DepOrder),
		around(0, 1, 1, api.DepOrder), around(1, 1, 1, api.DepOut), around(1, 1, 1, api.DepOrder), around(3, 1, 1, api.DepOrder),
		around(2, 2, 1, api.DepOut),
		around(0, 3, 1, api.DepOrder), around(1, 3, 1, api.DepOrder), around(3, 3, 1, api.DepOut), around(3, 3, 1, api.DepOrder))
}
