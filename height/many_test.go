package height

import (
	"math"
	"math/rand"
	"slices"
	"testing"

	"hayloft/api"
	"hayloft/deps"
)

func edgesOf(t *testing.T, l []api.Op, m api.Table) []api.Edge {
	t.Helper()
	found, e := deps.Of(l, m)
	if e != api.OK {
		t.Fatalf("%v, %v: %v", l, m, e)
	}
	return found
}

// heightsTold raises heights from the classes' latencies on, edge by edge, till none wants more: the chapter's words in
// whatever order.
func heightsTold(t *testing.T, l []api.Op, m api.Table) []int {
	t.Helper()
	heights := make([]int, len(l))
	for n, o := range l {
		heights[n] = latTold(t, o, m)
	}
	found := edgesOf(t, l, m)
	for raised := true; raised; {
		raised = false
		for _, d := range found {
			if way := d.Lat + heights[d.To]; way > heights[d.From] {
				heights[d.From], raised = way, true
			}
		}
	}
	return heights
}

// orderTold takes the first of the greatest height that is left, again and again.
func orderTold(heights []int) []int {
	var order []int
	for len(order) < len(heights) {
		next := -1
		for n, h := range heights {
			if !slices.Contains(order, n) && (next < 0 || h > heights[next]) {
				next = n
			}
		}
		order = append(order, next)
	}
	return order
}

func wantTold(t *testing.T, l []api.Op, m api.Table) {
	t.Helper()
	if _, want := deps.Of(l, m); want != api.OK {
		wantRefused(t, l, m, want)
		return
	}
	want := heightsTold(t, l, m)
	if got, e := Of(l, m); e != api.OK || !slices.Equal(got, want) {
		t.Fatalf("Of(%v, %v) is %v, %v, want %v", l, m.Lat, got, e, want)
	}
	if got, e := Order(l, m); e != api.OK || !slices.Equal(got, orderTold(want)) {
		t.Fatalf("Order(%v, %v) is %v, %v, want %v, as heights are %v", l, m.Lat, got, e, orderTold(want), want)
	}
}

// fewOps are operations of which every two depend on one another in some way, or in none.
func fewOps() []api.Op {
	return list(consts(1, 8), moves(2, 1), adds(1, 1, 2), adds(0, 1, 2), multiplies(2, 2, 1), divides(1, 2, 2), rests(2, 1, 1),
		loads(1, 2, 264), loads(2, 1, 9), stores(1, 2, 8), stores(2, 1, 8), prints(1), prints(0))
}

// Every list of up to three of these.
func TestAllShortLists(t *testing.T) {
	all := fewOps()
	for _, m := range []api.Table{tableOf(2, 5, 3, 7), tableOf(8, 1, 4, 2)} {
		wantTold(t, nil, m)
		for _, a := range all {
			wantTold(t, list(a), m)
			for _, b := range all {
				wantTold(t, list(a, b), m)
				for _, c := range all {
					wantTold(t, list(a, b, c), m)
				}
			}
		}
	}
}

// chanceOp answers an operation of a list, of few cells and few bases, so that many depend on one another.
func chanceOp(r *rand.Rand, registers int) api.Op {
	register := func() uint8 { return uint8(r.Intn(registers)) }
	imm := int64(r.Intn(4) + 256*r.Intn(3) - 256)
	switch do := int8(api.Const + r.Intn(api.Print+6)); {
	case do == api.Const:
		return consts(register(), imm)
	case do == api.Move:
		return moves(register(), register())
	case do < api.Load:
		return api.Op{Do: do, D: register(), A: register(), B: register()}
	case do == api.Print:
		return prints(register())
	case do%2 == 0:
		return loads(register(), register(), imm)
	}
	return stores(register(), register(), imm)
}

// chanceList answers a list of fewer than most; half of them of many registers, so that heights differ from the list's order.
func chanceList(r *rand.Rand, most int) []api.Op {
	registers := 1 + r.Intn(8)
	if r.Intn(2) == 0 {
		registers = 32
	}
	var l []api.Op
	for range r.Intn(most) {
		l = append(l, chanceOp(r, registers))
	}
	return l
}

func chanceTable(r *rand.Rand) api.Table {
	m := api.Table{Delay: r.Intn(5)}
	for class := range api.Classes {
		m.Units[class], m.Lat[class], m.Busy[class] = r.Intn(9), 1+r.Intn(8), 1+r.Intn(4)
	}
	return m
}

// spoilt answers an operation that is mostly none.
func spoilt(r *rand.Rand, o api.Op) api.Op {
	switch r.Intn(5) {
	case 0:
		o.Do = int8(r.Intn(256))
	case 1:
		o.D = uint8(r.Intn(256))
	case 2:
		o.A = uint8(r.Intn(256))
	case 3:
		o.B = uint8(r.Intn(256))
	case 4:
		o.Imm = int64(r.Uint64())
	}
	return o
}

func TestManyLists(t *testing.T) {
	r := rand.New(rand.NewSource(12))
	for range 6000 {
		l, m := chanceList(r, 20), chanceTable(r)
		wantTold(t, l, m)
		if len(l) > 0 {
			at := r.Intn(len(l))
			l[at] = spoilt(r, l[at])
		}
		if r.Intn(4) == 0 {
			m.Lat[r.Intn(api.Classes)] = r.Intn(11) - 1
		}
		wantTold(t, l, m)
	}
	for range 20 {
		wantTold(t, chanceList(r, 200), chanceTable(r))
	}
}

// P12.3; some edges of each Why must be there, some of Lat 0 whose To is ahead, and orders that are not the list's, or the
// test would be blind.
func TestAlongEdges(t *testing.T) {
	r := rand.New(rand.NewSource(123))
	var whys [5]int
	level, others := 0, 0
	for range 5000 {
		l, m := chanceList(r, 24), chanceTable(r)
		heights, e := Of(l, m)
		order, f := Order(l, m)
		if e != api.OK || f != api.OK || len(heights) != len(l) || len(order) != len(l) {
			t.Fatalf("%v: %v, %v; %v, %v", l, heights, e, order, f)
		}
		place := make([]int, len(l))
		for n := range place {
			place[n] = slices.Index(order, n)
			if place[n] < 0 {
				t.Fatalf("%v: %d is not in %v", l, n, order)
			}
		}
		if !slices.IsSorted(order) {
			others++
		}
		for _, d := range edgesOf(t, l, m) {
			whys[d.Why]++
			if heights[d.From] < heights[d.To]+d.Lat {
				t.Fatalf("%v, %v: heights %v, along %v", l, m.Lat, heights, d)
			}
			if d.Lat > 0 && place[d.From] > place[d.To] {
				t.Fatalf("%v, %v: order %v, along %v", l, m.Lat, order, d)
			}
			if heights[d.From] == heights[d.To] {
				level++
			}
		}
	}
	if slices.Min(whys[:]) < 500 || level < 500 || others < 1000 {
		t.Errorf("edges by Why %v, %d level, %d orders that are not the list's", whys, level, others)
	}
}

// landing answers when the last result of a schedule lands.
func landing(t *testing.T, l []api.Op, m api.Table, cycles []int) int {
	t.Helper()
	last := 0
	for n, o := range l {
		last = max(last, cycles[n]+latTold(t, o, m))
	}
	return last
}

func greatestHeight(t *testing.T, l []api.Op, m api.Table) int {
	t.Helper()
	heights, e := Of(l, m)
	if e != api.OK {
		t.Fatalf("%v, %v: %v", l, m, e)
	}
	return slices.Max(append(heights, 0))
}

// chanceCycles answers cycles that keep the edges, each operation up to slack later than it must.
func chanceCycles(r *rand.Rand, l []api.Op, found []api.Edge, slack int) []int {
	cycles := make([]int, len(l))
	for j := range l {
		for _, d := range found {
			if d.To == j {
				cycles[j] = max(cycles[j], cycles[d.From]+d.Lat)
			}
		}
		cycles[j] += r.Intn(slack + 1)
	}
	return cycles
}

// P12.4. With nothing later than it must be, the last result lands just at the greatest height: no height is too small.
func TestNoScheduleEndsAheadOfTheGreatestHeight(t *testing.T) {
	r := rand.New(rand.NewSource(124))
	for range 3000 {
		l, m := chanceList(r, 24), chanceTable(r)
		found, most := edgesOf(t, l, m), greatestHeight(t, l, m)
		for _, slack := range []int{0, 0, 1, 2, 9} {
			cycles := chanceCycles(r, l, found, slack)
			last := landing(t, l, m, cycles)
			if last < most || slack == 0 && last != most {
				t.Fatalf("%v, %v: by %v the last lands at %d, the greatest height is %d", l, m.Lat, cycles, last, most)
			}
		}
	}
}

// Of short lists all cycles up to some, not just those that are made from the edges on.
func TestNoShortScheduleEndsAheadOfTheGreatestHeight(t *testing.T) {
	m := tableOf(1, 3, 2, 1)
	const upTo = 8
	for _, a := range fewOps() {
		for _, b := range fewOps() {
			for _, c := range fewOps() {
				l := list(a, b, c)
				found, most := edgesOf(t, l, m), greatestHeight(t, l, m)
				earliest := math.MaxInt
				for n := range upTo * upTo * upTo {
					cycles := []int{n % upTo, n / upTo % upTo, n / upTo / upTo}
					if !slices.ContainsFunc(found, func(d api.Edge) bool { return cycles[d.To] < cycles[d.From]+d.Lat }) {
						earliest = min(earliest, landing(t, l, m, cycles))
					}
				}
				if earliest != most {
					t.Fatalf("%v: ends at %d at the earliest, the greatest height is %d", l, earliest, most)
				}
			}
		}
	}
}

func TestNothingThatIsHandedInIsChanged(t *testing.T) {
	r := rand.New(rand.NewSource(37))
	for range 2000 {
		l := append(chanceList(r, 14), stores(1, 2, 3), loads(1, 1, 4), api.Op{Do: -5, D: 255, A: 255, B: 255, Imm: math.MinInt64})
		room := l[:cap(l)]
		before := slices.Clone(room)
		part, m := l[:r.Intn(len(l)+1)], chanceTable(r)
		Of(part, m)
		Order(part, m)
		if !slices.Equal(room, before) {
			t.Fatalf("%v became %v", before, room)
		}
	}
}

// What a caller writes into an answer, with the room behind its end, is seen in no other one.
func TestAnswersAreTheCallersOwn(t *testing.T) {
	r := rand.New(rand.NewSource(73))
	for range 500 {
		l, m := chanceList(r, 14), chanceTable(r)
		heights, _ := Of(l, m)
		order, _ := Order(l, m)
		secondHeights, _ := Of(l, m)
		secondOrder, _ := Order(l, m)
		for _, answer := range [][]int{heights[:cap(heights)], order[:cap(order)]} {
			for n := range answer {
				answer[n] = -1
			}
		}
		want := heightsTold(t, l, m)
		if !slices.Equal(secondHeights, want) || !slices.Equal(secondOrder, orderTold(want)) {
			t.Fatalf("%v: %v, %v", l, secondHeights, secondOrder)
		}
		wantTold(t, l, m)
	}
}

// Nothing is kept: what the caller changes in his list is seen by the next call.
func TestLaterChangesAreSeen(t *testing.T) {
	l := list(consts(1, 8), moves(2, 1), prints(3))
	wantHeights(t, l, example(), 2, 1, 2)
	wantOrder(t, l, example(), 0, 2, 1)
	l[0].D = 9
	wantHeights(t, l, example(), 1, 1, 2)
	wantOrder(t, l, example(), 2, 0, 1)
	wantHeights(t, l, tableOf(4, 1, 1, 1), 4, 4, 1)
	wantOrder(t, l, tableOf(4, 1, 1, 1), 0, 1, 2)
	l[1] = api.Op{Do: api.Halt}
	wantRefused(t, l, example(), api.ErrOp)
	l[1] = multiplies(3, 9, 9)
	wantHeights(t, l, example(), 6, 5, 2)
}

func FuzzHeight(f *testing.F) {
	f.Add([]byte{2, 1, 2, 3, 0, 12, 4, 1, 1, 0, 17, 0, 4, 0, 0}, uint16(0x1231))
	f.Add([]byte{16, 0, 1, 2, 8, 15, 3, 1, 0, 9, 13, 1, 1, 2, 0}, uint16(0x8177))
	f.Add([]byte{18, 0, 0, 0, 1}, uint16(0x1111))
	f.Fuzz(func(t *testing.T, data []byte, lats uint16) {
		// Four bits a latency, five bytes an operation.
		m := tableOf(int(lats&15), int(lats>>4&15), int(lats>>8&15), int(lats>>12))
		var l []api.Op
		for ; len(data) >= 5 && len(l) < 40; data = data[5:] {
			l = append(l, api.Op{Do: int8(data[0]), D: data[1], A: data[2], B: data[3], Imm: int64(int8(data[4]))})
		}
		wantTold(t, l, m)
		wantTold(t, l, example())
	})
}
