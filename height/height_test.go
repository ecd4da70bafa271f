package height

import (
	"math"
	"slices"
	"testing"

	"hayloft/api"
	"hayloft/deps"
	"hayloft/ops"
)

func consts(d uint8, imm int64) api.Op { return api.Op{Do: api.Const, D: d, Imm: imm} }

func moves(d, a uint8) api.Op { return api.Op{Do: api.Move, D: d, A: a} }

func adds(d, a, b uint8) api.Op { return api.Op{Do: api.Add, D: d, A: a, B: b} }

func multiplies(d, a, b uint8) api.Op { return api.Op{Do: api.Times, D: d, A: a, B: b} }

func divides(d, a, b uint8) api.Op { return api.Op{Do: api.Divide, D: d, A: a, B: b} }

func rests(d, a, b uint8) api.Op { return api.Op{Do: api.Rest, D: d, A: a, B: b} }

func loads(d, a uint8, imm int64) api.Op { return api.Op{Do: api.Load, D: d, A: a, Imm: imm} }

func stores(a, b uint8, imm int64) api.Op { return api.Op{Do: api.Store, A: a, B: b, Imm: imm} }

func prints(a uint8) api.Op { return api.Op{Do: api.Print, A: a} }

func list(l ...api.Op) []api.Op { return l }

// tableOf answers a table of these latencies, of one unit each.
func tableOf(alu, mul, mem, ctl int) api.Table {
	ones := [api.Classes]int{1, 1, 1, 1}
	return api.Table{Units: ones, Lat: [api.Classes]int{alu, mul, mem, ctl}, Busy: ones}
}

// The chapter's table.
func example() api.Table { return tableOf(1, 3, 2, 1) }

// unlike are tables whose classes have unlike latencies, each class once the slowest and once the fastest.
func unlike() []api.Table {
	return []api.Table{tableOf(2, 5, 3, 7), tableOf(8, 1, 4, 2), tableOf(3, 4, 8, 1), tableOf(5, 8, 1, 6), tableOf(1, 2, 5, 8), tableOf(1, 8, 2, 4)}
}

func wantHeights(t *testing.T, l []api.Op, m api.Table, want ...int) {
	t.Helper()
	if got, e := Of(l, m); e != api.OK || !slices.Equal(got, want) {
		t.Errorf("Of(%v, %v) is %v, %v, want %v", l, m.Lat, got, e, want)
	}
}

func wantOrder(t *testing.T, l []api.Op, m api.Table, want ...int) {
	t.Helper()
	if got, e := Order(l, m); e != api.OK || !slices.Equal(got, want) {
		t.Errorf("Order(%v, %v) is %v, %v, want %v", l, m.Lat, got, e, want)
	}
}

// wantRefused says what both calls answer of what they refuse: deps.Of's error, and nothing beside it.
func wantRefused(t *testing.T, l []api.Op, m api.Table, want api.Errno) {
	t.Helper()
	if got, e := Of(l, m); e != want || len(got) != 0 {
		t.Errorf("Of of %d operations, %v, is %v, %v, want %v", len(l), m, got, e, want)
	}
	if got, e := Order(l, m); e != want || len(got) != 0 {
		t.Errorf("Order of %d operations, %v, is %v, %v, want %v", len(l), m, got, e, want)
	}
	if _, e := deps.Of(l, m); e != want {
		t.Errorf("deps.Of of %d operations, %v, is %v, want %v", len(l), m, e, want)
	}
}

func TestChapterExamples(t *testing.T) {
	l := list(adds(1, 2, 3), multiplies(4, 1, 1), prints(4))
	wantHeights(t, l, example(), 6, 5, 2)
	wantOrder(t, l, example(), 0, 1, 2)
	l = list(adds(1, 2, 3), loads(4, 5, 0), prints(4))
	wantHeights(t, l, example(), 1, 4, 2)
	wantOrder(t, l, example(), 1, 2, 0)
	l = list(adds(1, 2, 3), consts(2, 5))
	wantHeights(t, l, example(), 1, 1)
	wantOrder(t, l, example(), 0, 1)
	wantHeights(t, nil, example())
	wantOrder(t, nil, example())
}

func TestEmptyLists(t *testing.T) {
	for _, l := range [][]api.Op{nil, {}, make([]api.Op, 0, 5), list(prints(1), prints(1))[:0]} {
		wantHeights(t, l, example())
		wantOrder(t, l, example())
		wantRefused(t, l, api.Table{}, api.ErrTable)
	}
}

// noTables are tables of which one number is out of its bounds.
func noTables() []api.Table {
	all := []api.Table{{}}
	spoil := func(change func(m *api.Table)) {
		m := example()
		change(&m)
		all = append(all, m)
	}
	for class := range api.Classes {
		for _, n := range []int{-1, 9, math.MinInt, math.MaxInt} {
			spoil(func(m *api.Table) { m.Units[class] = n })
		}
		for _, n := range []int{0, -1, 9, math.MinInt, math.MaxInt} {
			spoil(func(m *api.Table) { m.Lat[class] = n })
		}
		for _, n := range []int{0, -1, 5, math.MinInt, math.MaxInt} {
			spoil(func(m *api.Table) { m.Busy[class] = n })
		}
	}
	for _, n := range []int{-1, 5, math.MinInt, math.MaxInt} {
		spoil(func(m *api.Table) { m.Delay = n })
	}
	return all
}

// The errors in their order: each alone, each of two that hold at once, and all three.
func TestErrorsInTheirOrder(t *testing.T) {
	fine := list(prints(1), prints(1))
	wrong := list(prints(1), api.Op{Do: api.Jump})
	long := slices.Repeat(list(prints(1)), api.MaxOps+1)
	wrongAndLong := append(slices.Clone(long), wrong...)
	for _, m := range noTables() {
		wantRefused(t, fine, m, api.ErrTable)
		wantRefused(t, wrong, m, api.ErrTable)
		wantRefused(t, long, m, api.ErrTable)
		wantRefused(t, wrongAndLong, m, api.ErrTable)
	}
	wantRefused(t, long, example(), api.ErrLong)
	wantRefused(t, wrong, example(), api.ErrOp)
	wantRefused(t, wrongAndLong, example(), api.ErrLong)
	for _, at := range []int{0, 500, api.MaxOps - 1, api.MaxOps} {
		l := slices.Clone(long)
		l[at] = api.Op{Do: api.Jump}
		wantRefused(t, l, example(), api.ErrLong)
	}
	wantRefused(t, make([]api.Op, api.MaxOps+1), example(), api.ErrLong)
	wantRefused(t, make([]api.Op, api.MaxOps), example(), api.ErrOp)
	wantRefused(t, make([]api.Op, 100000), example(), api.ErrLong)
}

// whatIsNone are operations that stand in no list.
func whatIsNone() []api.Op {
	var all []api.Op
	for do := -128; do <= 127; do++ {
		if do < api.Const || do > api.Print {
			all = append(all, api.Op{Do: int8(do)}, api.Op{Do: int8(do), A: 1, Imm: 1})
		}
	}
	for do := int8(api.Const); do <= api.Print; do++ {
		all = append(all, api.Op{Do: do, D: 32}, api.Op{Do: do, A: 32}, api.Op{Do: do, B: 255},
			api.Op{Do: do, Imm: 1 << 31}, api.Op{Do: do, Imm: -1<<31 - 1}, api.Op{Do: do, Imm: math.MinInt64})
	}
	// A field that does not count is not 0.
	return append(all, api.Op{Do: api.Const, A: 1}, api.Op{Do: api.Move, B: 1}, api.Op{Do: api.Add, Imm: 1},
		api.Op{Do: api.Load, B: 1}, api.Op{Do: api.Store, D: 1}, api.Op{Do: api.Print, D: 1}, api.Op{Do: api.Print, Imm: 1})
}

func TestOperationsThatStandInNoList(t *testing.T) {
	for _, o := range whatIsNone() {
		wantRefused(t, list(o), example(), api.ErrOp)
		for at := range 4 {
			l := list(consts(1, 0), adds(2, 1, 1), stores(1, 2, 3), prints(2))
			l[at] = o
			wantRefused(t, l, example(), api.ErrOp)
		}
	}
}

// aloneOf answers an operation of each kind that stands in lists; no two of them depend on one another by a register.
func aloneOf() []api.Op {
	var all []api.Op
	for do := int8(api.Const); do <= api.Print; do++ {
		o := api.Op{Do: do, D: uint8(do), A: 30, B: 31}
		switch do {
		case api.Const:
			o.A, o.B = 0, 0
		case api.Move, api.Load:
			o.B = 0
		case api.Store:
			o.D = 0
		case api.Print:
			o.D, o.B = 0, 0
		}
		all = append(all, o)
	}
	return all
}

// latTold answers the latency of an operation's class, as ops tells it.
func latTold(t *testing.T, o api.Op, m api.Table) int {
	t.Helper()
	class, ok := ops.Class(o.Do)
	if !ok {
		t.Fatalf("%v has no class", o)
	}
	return m.Lat[class]
}

// From the last operation, and from one on which nothing depends, no edge goes: the height is its class's latency.
func TestOwnLatency(t *testing.T) {
	for _, m := range unlike() {
		for _, o := range aloneOf() {
			own := latTold(t, o, m)
			wantHeights(t, list(o), m, own)
			wantOrder(t, list(o), m, 0)
			// As the last one, of which another's result is read, and as one between on which nothing depends.
			wantHeights(t, list(moves(28, 27), moves(29, 28), o), m, 2*m.Lat[api.Alu], m.Lat[api.Alu], own)
			wantHeights(t, list(moves(28, 27), o, moves(29, 28)), m, 2*m.Lat[api.Alu], own, m.Lat[api.Alu])
			if o.Do != api.Const {
				wantHeights(t, list(multiplies(30, 1, 1), o), m, m.Lat[api.Mul]+own, own)
			}
		}
	}
}

// How many units there are, how long they are busy and the delay make no difference.
func TestTablesAtTheirBounds(t *testing.T) {
	for _, n := range []int{0, 1, 8} {
		for _, lat := range []int{1, 8} {
			m := tableOf(lat, lat, lat, lat)
			m.Units = [api.Classes]int{n, n, n, n}
			m.Busy = [api.Classes]int{1 + n/3, 1 + n/3, 1 + n/3, 1 + n/3}
			m.Delay = n / 2
			l := list(multiplies(1, 2, 3), adds(4, 1, 1), stores(9, 4, 0), loads(5, 9, 0))
			wantHeights(t, l, m, 4*lat, 3*lat, 2*lat, lat)
			wantOrder(t, l, m, 0, 1, 2, 3)
		}
	}
}

// Along an edge of latency 0 the height is that of the one to which it goes, if that is the greater one.
func TestEdgesOfNoLatency(t *testing.T) {
	m := tableOf(2, 5, 3, 7)
	// DepAnti: what is read ahead is written behind.
	wantHeights(t, list(moves(9, 1), multiplies(1, 8, 8)), m, 5, 5)
	wantOrder(t, list(moves(9, 1), multiplies(1, 8, 8)), m, 0, 1)
	wantHeights(t, list(moves(9, 1), multiplies(1, 8, 8), prints(1)), m, 8, 8, 3)
	wantHeights(t, list(multiplies(9, 1, 1), moves(1, 8)), m, 5, 2)
	// DepOut from a fast one to a slow one, where Lat(i) - Lat(j) + 1 is below 0.
	wantHeights(t, list(consts(1, 0), multiplies(1, 8, 8)), m, 5, 5)
	// And where it is 0 as it stands.
	wantHeights(t, list(consts(1, 0), loads(1, 8, 0)), m, 3, 3)
	// DepMem from a Load to a Store.
	wantHeights(t, list(loads(1, 2, 8), stores(2, 3, 8)), m, 3, 3)
	wantHeights(t, list(loads(1, 2, 8), stores(2, 3, 8), loads(4, 2, 8)), m, 6, 6, 3)
	// Several of them one behind the other.
	l := list(moves(9, 1), moves(1, 2), moves(2, 3), multiplies(3, 4, 4))
	wantHeights(t, l, m, 5, 5, 5, 5)
	wantOrder(t, l, m, 0, 1, 2, 3)
}

// An operation from which several edges go: the greatest of Lat and height together counts, wherever it stands.
func TestLongestWayOfSeveral(t *testing.T) {
	m := tableOf(1, 3, 2, 1)
	// The longest way goes by the first edge, by the middle one, and by the last one.
	long, short, least := multiplies(2, 1, 1), adds(3, 1, 1), moves(4, 1)
	rest := list(multiplies(5, 2, 2), multiplies(6, 5, 5))
	wantHeights(t, slices.Concat(list(consts(1, 0), long, short, least), rest), m, 10, 9, 1, 1, 6, 3)
	wantHeights(t, slices.Concat(list(consts(1, 0), short, long, least), rest), m, 10, 1, 9, 1, 6, 3)
	wantHeights(t, slices.Concat(list(consts(1, 0), short, least, long), rest), m, 10, 1, 1, 9, 6, 3)
	// Not by the longest edge: operation 0's DepTrue has a Lat of 3, but its DepAnti of 0 goes to the greater height.
	l := list(multiplies(1, 2, 2), moves(3, 1), consts(2, 0), multiplies(4, 2, 2), multiplies(5, 4, 4), multiplies(6, 5, 5))
	wantHeights(t, l, m, 10, 1, 10, 9, 6, 3)
	wantOrder(t, l, m, 0, 2, 3, 4, 5, 1)
	// Nor to the greatest height: the DepAnti goes to 5, and the DepTrue of 8 to 1.
	wantHeights(t, list(multiplies(1, 2, 2), moves(3, 1), loads(2, 9, 0)), tableOf(1, 8, 5, 1), 9, 1, 5)
	// By more edges, though each of them is shorter.
	l = list(consts(1, 0), multiplies(2, 1, 1), moves(3, 1), moves(4, 3), moves(5, 4), moves(6, 5), moves(7, 6))
	wantHeights(t, l, m, 6, 3, 5, 4, 3, 2, 1)
	// Two edges between the same two: the longer one counts.
	wantHeights(t, list(multiplies(1, 1, 1), adds(1, 1, 1)), m, 4, 1)
	wantHeights(t, list(divides(1, 2, 2), rests(2, 1, 1)), m, 6, 3)
}

// An operation from which edges go whose Lat and height together are less than its own latency.
func TestOwnLatencyIsGreater(t *testing.T) {
	m := tableOf(1, 8, 3, 1)
	// DepAnti, DepOrder, and both.
	wantHeights(t, list(multiplies(1, 2, 2), consts(2, 0)), m, 8, 1)
	wantHeights(t, list(divides(1, 2, 2), prints(3)), m, 8, 3)
	wantHeights(t, list(divides(1, 2, 2), prints(3), prints(3), consts(2, 0), moves(4, 2)), m, 8, 4, 3, 2, 1)
	wantOrder(t, list(prints(3), divides(1, 2, 2), prints(3), consts(2, 0), moves(4, 2)), m, 0, 1, 2, 3, 4)
	wantHeights(t, list(prints(1), consts(1, 0)), m, 3, 1)
	// The same of Mem, and two Stores, whose DepMem is always more than the own one.
	m = tableOf(1, 1, 8, 1)
	wantHeights(t, list(loads(1, 2, 8), consts(2, 0), moves(3, 2)), m, 8, 2, 1)
	wantHeights(t, list(prints(1), divides(3, 4, 4)), m, 8, 1)
	wantHeights(t, list(stores(1, 2, 8), stores(1, 2, 8)), m, 9, 8)
}

// Chains of each Why of chapter 11's table.
func TestChainsOfEachWhy(t *testing.T) {
	for _, m := range unlike() {
		alu, mul, mem := m.Lat[api.Alu], m.Lat[api.Mul], m.Lat[api.Mem]
		wantHeights(t, list(loads(1, 9, 0), multiplies(2, 1, 1), adds(3, 2, 2), prints(3)), m, mem+mul+alu+mem, mul+alu+mem, alu+mem, mem)
		wantHeights(t, list(prints(1), multiplies(1, 2, 2), moves(2, 3), loads(3, 4, 0)), m,
			max(mem, mul, alu, mem), max(mul, alu, mem), max(alu, mem), mem)
		out := func(a, b int) int { return max(0, a-b+1) }
		load := mem
		multiply := max(mul, out(mul, mem)+load)
		constant := max(alu, out(alu, mul)+multiply, out(alu, mem)+load)
		wantHeights(t, list(consts(1, 0), multiplies(1, 9, 9), loads(1, 9, 0)), m, constant, multiply, load)
		wantHeights(t, list(stores(1, 2, 8), loads(3, 1, 8)), m, 2*mem, mem)
		wantHeights(t, list(loads(3, 1, 8), stores(1, 2, 8)), m, mem, mem)
		wantHeights(t, list(stores(1, 2, 8), stores(1, 2, 264), stores(1, 2, 8)), m, mem+2, mem+1, mem)
		wantHeights(t, list(stores(1, 2, 8), loads(3, 1, 8), stores(1, 2, 8), loads(3, 1, 8)), m, 3*mem, 2*mem, 2*mem, mem)
		wantHeights(t, list(prints(9), divides(1, 9, 9), rests(2, 9, 9)), m, max(mem, mul+2), mul+1, mul)
		wantHeights(t, list(rests(2, 9, 9), divides(1, 9, 9), prints(9)), m, max(mul+1, mem+2), max(mul, mem+1), mem)
		// No edge at all.
		wantHeights(t, list(stores(1, 2, 8), loads(3, 1, 9), multiplies(4, 2, 2), consts(5, 0)), m, mem, mem, mul, alu)
	}
}

func TestOrderByFallingHeights(t *testing.T) {
	m := tableOf(1, 3, 2, 1)
	// Rising heights in the list: the order is the list's from behind.
	wantOrder(t, list(consts(1, 0), prints(9), multiplies(2, 9, 9)), m, 2, 1, 0)
	// Two chains, each of which stands in the list as it must.
	l := list(consts(1, 0), multiplies(2, 9, 9), moves(3, 1), multiplies(4, 2, 2), moves(5, 3))
	wantHeights(t, l, m, 3, 6, 2, 3, 1)
	wantOrder(t, l, m, 1, 0, 3, 2, 4)
	// Those of one height, with others between.
	l = list(consts(1, 0), multiplies(2, 9, 9), consts(3, 0), loads(4, 9, 0), consts(5, 0), multiplies(6, 9, 9), loads(7, 9, 0))
	wantOrder(t, l, m, 1, 5, 3, 6, 0, 2, 4)
}

// counted answers the numbers from 0 on.
func counted(count int) []int {
	l := make([]int, count)
	for n := range l {
		l[n] = n
	}
	return l
}

// Far more of one height than a small sort takes, all of the list and with others among them.
func TestOrderOfOneHeight(t *testing.T) {
	var l []api.Op
	for n := range 256 {
		l = append(l, stores(1, 2, int64(n)))
	}
	wantHeights(t, l, example(), slices.Repeat([]int{2}, 256)...)
	wantOrder(t, l, example(), counted(256)...)
	// Consts of unlike registers are less high than the Stores among which they stand.
	var high, low []int
	l = nil
	for n := range 224 {
		if n%8 == 3 {
			low = append(low, n)
			l = append(l, consts(uint8(4+n/8), 0))
		} else {
			high = append(high, n)
			l = append(l, stores(1, 2, int64(n)))
		}
	}
	wantOrder(t, l, example(), append(high, low...)...)
}

func TestLongestLists(t *testing.T) {
	slow := tableOf(8, 8, 8, 8)
	// One chain of all: the greatest height that there is.
	l := slices.Repeat(list(multiplies(1, 1, 1)), api.MaxOps)
	heights := make([]int, api.MaxOps)
	for n := range heights {
		heights[n] = 8 * (api.MaxOps - n)
	}
	wantHeights(t, l, slow, heights...)
	wantOrder(t, l, slow, counted(api.MaxOps)...)
	// 32 chains side by side, every second of them slower.
	for n := range l {
		register := uint8(n % api.Registers)
		l[n] = adds(register, register, register)
		heights[n] = 2 * (api.MaxOps/api.Registers - n/api.Registers)
		if n%2 == 1 {
			l[n].Do = api.Times
			heights[n] = heights[n] / 2 * 5
		}
	}
	m := tableOf(2, 5, 3, 7)
	wantHeights(t, l, m, heights...)
	wantOrder(t, l, m, orderTold(heights)...)
	wantRefused(t, append(l, consts(1, 0)), m, api.ErrLong)
}

// The classes are told in this package a second time: they are those of ops.
func TestLatencyIsThatOfTheClass(t *testing.T) {
	for _, m := range unlike() {
		for do := int8(api.Const); do <= api.Print; do++ {
			if got, want := latency(do, m), latTold(t, api.Op{Do: do}, m); got != want {
				t.Errorf("latency(%d, %v) is %d, want %d", do, m.Lat, got, want)
			}
		}
	}
}

func TestSortFallingOfOtherItems(t *testing.T) {
	words := []string{"a", "ccc", "bb", "b", "ddd", ""}
	sortFalling(words, func(word string) int { return len(word) })
	if want := []string{"ccc", "ddd", "bb", "a", "b", ""}; !slices.Equal(words, want) {
		t.Errorf("%v", words)
	}
	sortFalling(words, func(word string) string { return word })
	if want := []string{"ddd", "ccc", "bb", "b", "a", ""}; !slices.Equal(words, want) {
		t.Errorf("%v", words)
	}
}
