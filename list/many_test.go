package list

import (
	"math"
	"math/rand"
	"slices"
	"testing"

	"hayloft/api"
	"hayloft/deps"
	"hayloft/height"
)

func edgesOf(t testing.TB, l []api.Op, m api.Table) []api.Edge {
	t.Helper()
	found, e := deps.Of(l, m)
	if e != api.OK {
		t.Fatalf("%v, %v: %v", l, m, e)
	}
	return found
}

// notPlaced stands where an operation has no cycle yet.
const notPlaced = -1

// usedTold counts the units of a class that are busy in a cycle, over all that is placed.
func usedTold(t testing.TB, l []api.Op, m api.Table, cycles []int, class, cycle int) int {
	t.Helper()
	sum := 0
	for n, o := range l {
		if cycles[n] != notPlaced && classTold(t, o) == class && cycles[n] <= cycle && cycle < cycles[n]+m.Busy[class] {
			sum++
		}
	}
	return sum
}

// fitsTold answers whether with one operation more in that cycle no more units of its class would be busy than there are.
func fitsTold(t testing.TB, l []api.Op, m api.Table, cycles []int, class, cycle int) bool {
	t.Helper()
	for k := range m.Busy[class] {
		if usedTold(t, l, m, cycles, class, cycle+k) >= m.Units[class] {
			return false
		}
	}
	return true
}

// letInTold answers whether all Froms of edges to n are placed, each of them Lat cycles ago or more.
func letInTold(edges []api.Edge, cycles []int, n, cycle int) bool {
	return !slices.ContainsFunc(edges, func(d api.Edge) bool {
		return d.To == n && (cycles[d.From] == notPlaced || cycle-cycles[d.From] < d.Lat)
	})
}

// cyclesTold goes the list's way by the chapter's words alone: all edges and all that is placed are gone over for each question.
func cyclesTold(t testing.TB, l []api.Op, m api.Table) ([]int, api.Errno) {
	t.Helper()
	order, e := height.Order(l, m)
	if e != api.OK {
		return nil, e
	}
	cycles := slices.Repeat([]int{notPlaced}, len(l))
	for _, o := range l {
		if m.Units[classTold(t, o)] == 0 {
			return nil, api.ErrNoUnit
		}
	}
	edges := edgesOf(t, l, m)
	for cycle := 0; slices.Contains(cycles, notPlaced); {
		at := slices.IndexFunc(order, func(n int) bool {
			return cycles[n] == notPlaced && letInTold(edges, cycles, n, cycle) && fitsTold(t, l, m, cycles, classTold(t, l[n]), cycle)
		})
		if at < 0 {
			cycle++
		} else {
			cycles[order[at]] = cycle
		}
	}
	return cycles, api.OK
}

// checkTold is P14.2's words told a second time.
func checkTold(t testing.TB, l []api.Op, m api.Table, cycles []int) bool {
	t.Helper()
	edges, e := deps.Of(l, m)
	if e != api.OK || len(cycles) != len(l) {
		return false
	}
	for n, o := range l {
		class := classTold(t, o)
		if m.Units[class] == 0 || cycles[n] < 0 || cycles[n] > api.MaxCycles {
			return false
		}
		for k := range m.Busy[class] {
			if usedTold(t, l, m, cycles, class, cycles[n]+k) > m.Units[class] {
				return false
			}
		}
	}
	return !slices.ContainsFunc(edges, func(d api.Edge) bool { return cycles[d.To]-cycles[d.From] < d.Lat })
}

// wantTold says that Cycles answers what is told a second time; the cycles are handed out.
func wantTold(t testing.TB, l []api.Op, m api.Table) ([]int, api.Errno) {
	t.Helper()
	want, e := cyclesTold(t, l, m)
	got, f := Cycles(l, m)
	if f != e || !slices.Equal(got, want) {
		t.Fatalf("Cycles(%v, %v) is %v, %v, want %v, %v", l, m, got, f, want, e)
	}
	if Check(l, m, got) != (e == api.OK) {
		t.Fatalf("Check(%v, %v, %v) is %v, where Cycles has %v", l, m, got, e != api.OK, e)
	}
	return got, e
}

// wantCheckTold says that Check answers what is told a second time, and hands it out.
func wantCheckTold(t testing.TB, l []api.Op, m api.Table, cycles []int) bool {
	t.Helper()
	want := checkTold(t, l, m, cycles)
	if got := Check(l, m, cycles); got != want {
		t.Fatalf("Check(%v, %v, %v) is %v, want %v", l, m, cycles, got, want)
	}
	return want
}

// fewOps are operations of which every two depend on one another in some way, or in none.
func fewOps() []api.Op {
	return list(consts(1, 8), moves(2, 1), adds(1, 1, 2), adds(0, 1, 2), multiplies(2, 2, 1), divides(1, 2, 2), rests(2, 1, 1),
		loads(1, 2, 264), loads(2, 1, 9), stores(1, 2, 8), stores(2, 1, 8), prints(1), prints(0))
}

// fewTables are tables in which now edges, now units are what keeps an operation.
func fewTables() []api.Table {
	return []api.Table{
		example(),
		busy(lats(units(example(), 2, 1, 2, 1), 1, 4, 3, 1), 1, 3, 2, 1),
		busy(lats(units(example(), 1, 2, 1, 1), 3, 1, 2, 1), 4, 1, 3, 1),
		wide(),
	}
}

// Every list of up to three of these.
func TestAllShortLists(t *testing.T) {
	all := fewOps()
	for _, m := range fewTables() {
		wantTold(t, nil, m)
		for _, a := range all {
			wantTold(t, list(a), m)
			for _, b := range all {
				wantTold(t, list(a, b), m)
				for _, c := range all {
					wantTold(t, list(a, b, c), m)
				}
			}
		}
	}
}

// Every two of these in all cycles from -1 to some.
func TestAllShortSchedules(t *testing.T) {
	const upTo = 7
	for _, m := range append(fewTables(), units(example(), 0, 1, 1, 0), units(example(), 1, 0, 1, 1)) {
		for _, a := range fewOps() {
			for _, b := range fewOps() {
				for n := range upTo * upTo {
					wantCheckTold(t, list(a, b), m, []int{n%upTo - 1, n/upTo - 1})
				}
			}
		}
	}
}

// chanceOp answers an operation of a list, of few cells and few bases, so that many depend on one another.
func chanceOp(r *rand.Rand, registers int) api.Op {
	register := func() uint8 { return uint8(r.Intn(registers)) }
	imm := int64(r.Intn(4) + 256*r.Intn(3) - 256)
	switch do := int8(api.Const + r.Intn(api.Print+6)); {
	case do == api.Const:
		return consts(register(), imm)
	case do == api.Move:
		return moves(register(), register())
	case do < api.Load:
		return api.Op{Do: do, D: register(), A: register(), B: register()}
	case do == api.Print:
		return prints(register())
	case do%2 == 0:
		return loads(register(), register(), imm)
	}
	return stores(register(), register(), imm)
}

// chanceList answers a list of fewer than most; half of them of many registers, so that units keep them, not edges.
func chanceList(r *rand.Rand, most int) []api.Op {
	registers := 1 + r.Intn(8)
	if r.Intn(2) == 0 {
		registers = 32
	}
	var l []api.Op
	for range r.Intn(most) {
		l = append(l, chanceOp(r, registers))
	}
	return l
}

// chanceTable answers a table, half of the time of few units, and now and then of none of a class.
func chanceTable(r *rand.Rand) api.Table {
	m := api.Table{Delay: r.Intn(5)}
	most := 1 + r.Intn(8)
	for class := range api.Classes {
		m.Units[class], m.Lat[class], m.Busy[class] = 1+r.Intn(most), 1+r.Intn(8), 1+r.Intn(4)
		if r.Intn(16) == 0 {
			m.Units[class] = 0
		}
	}
	return m
}

// spoilt answers an operation that is mostly none.
func spoilt(r *rand.Rand, o api.Op) api.Op {
	switch r.Intn(5) {
	case 0:
		o.Do = int8(r.Intn(256))
	case 1:
		o.D = uint8(r.Intn(256))
	case 2:
		o.A = uint8(r.Intn(256))
	case 3:
		o.B = uint8(r.Intn(256))
	case 4:
		o.Imm = int64(r.Uint64())
	}
	return o
}

func TestManyLists(t *testing.T) {
	r := rand.New(rand.NewSource(14))
	errors := map[api.Errno]int{}
	for range 4000 {
		l, m := chanceList(r, 20), chanceTable(r)
		_, e := wantTold(t, l, m)
		errors[e]++
		if len(l) > 0 {
			at := r.Intn(len(l))
			l[at] = spoilt(r, l[at])
		}
		if r.Intn(4) == 0 {
			m.Busy[r.Intn(api.Classes)] = r.Intn(7) - 1
		}
		_, e = wantTold(t, l, m)
		errors[e]++
	}
	for range 20 {
		wantTold(t, chanceList(r, 120), chanceTable(r))
	}
	if len(errors) != 4 || min(errors[api.OK], errors[api.ErrNoUnit], errors[api.ErrTable], errors[api.ErrOp]) < 100 {
		t.Errorf("by errors %v", errors)
	}
}

// P14.3, and with it P4: Check takes what Cycles answers, by its own words too, and no cycle is above 8 times the number of operations.
func TestCheckOfCycles(t *testing.T) {
	r := rand.New(rand.NewSource(143))
	scheduled, greatest := 0, 0
	for range 3000 {
		l, m := chanceList(r, 40), chanceTable(r)
		cycles, e := Cycles(l, m)
		if e != api.OK {
			continue
		}
		scheduled++
		if !Check(l, m, cycles) || !checkTold(t, l, m, cycles) {
			t.Fatalf("%v, %v: %v is no schedule", l, m, cycles)
		}
		if last := slices.Max(append(cycles, 0)); last > 8*len(l) {
			t.Fatalf("%v, %v: %v", l, m, cycles)
		} else if len(l) > 8 {
			greatest = max(greatest, 100*last/len(l))
		}
	}
	if scheduled < 2000 || greatest < 300 {
		t.Errorf("%d schedules; the longest takes %d cycles for 100 operations", scheduled, greatest)
	}
}

// P14.3 of long lists, up to MaxOps.
func TestCheckOfCyclesOfLongLists(t *testing.T) {
	r := rand.New(rand.NewSource(1433))
	for _, count := range []int{300, api.MaxOps - 1, api.MaxOps} {
		for _, registers := range []int{2, 32} {
			var l []api.Op
			for range count {
				l = append(l, chanceOp(r, registers))
			}
			m := chanceTable(r)
			for class := range m.Units {
				m.Units[class] = max(1, m.Units[class])
			}
			cycles, e := Cycles(l, m)
			if e != api.OK || len(cycles) != count || !Check(l, m, cycles) || slices.Max(cycles) > 8*count {
				t.Fatalf("%d operations, %v: %v, %v", count, m, cycles, e)
			}
		}
	}
}

// P14.4 and P6, by the chapter's words: for each operation and each earlier cycle an edge keeps it, or the units of its class.
func TestAsEarlyAsCanBe(t *testing.T) {
	r := rand.New(rand.NewSource(144))
	byEdge, byUnits := 0, 0
	for range 2500 {
		l, m := chanceList(r, 24), chanceTable(r)
		cycles, e := Cycles(l, m)
		if e != api.OK {
			continue
		}
		edges := edgesOf(t, l, m)
		for n, c := range cycles {
			for early := range c {
				kept := slices.ContainsFunc(edges, func(d api.Edge) bool {
					return d.To == n && (cycles[d.From] > early || early-cycles[d.From] < d.Lat)
				})
				if kept {
					byEdge++
					continue
				}
				if !allBusy(t, l, m, cycles, classTold(t, l[n]), early) {
					t.Fatalf("%v, %v: by %v, %d could be in cycle %d", l, m, cycles, n, early)
				}
				byUnits++
			}
		}
	}
	if byEdge < 10000 || byUnits < 10000 {
		t.Errorf("kept by edges %d times, by units %d times", byEdge, byUnits)
	}
}

// allBusy answers whether in one of the cycles from that one on, as many as Busy says, all units of the class are busy.
func allBusy(t *testing.T, l []api.Op, m api.Table, cycles []int, class, from int) bool {
	t.Helper()
	for k := range m.Busy[class] {
		if usedTold(t, l, m, cycles, class, from+k) == m.Units[class] {
			return true
		}
	}
	return false
}

// chanceCycles answers cycles that are about those of the list's way: some earlier, some later, one far off, one too many.
func chanceCycles(r *rand.Rand, cycles []int) []int {
	about := slices.Clone(cycles)
	for range r.Intn(3) {
		if len(about) > 0 {
			about[r.Intn(len(about))] += r.Intn(7) - 3
		}
	}
	switch r.Intn(8) {
	case 0:
		for n := range about {
			about[n] += api.MaxCycles - slices.Max(cycles) + r.Intn(2)
		}
	case 1:
		if len(about) > 0 {
			about[r.Intn(len(about))] = []int{-1, api.MaxCycles, api.MaxCycles + 1, math.MaxInt, math.MinInt}[r.Intn(5)]
		}
	case 2:
		if r.Intn(4) == 0 {
			about = append(about, 0)
		}
	}
	return about
}

func TestManySchedules(t *testing.T) {
	r := rand.New(rand.NewSource(142))
	taken, refused := 0, 0
	for range 2000 {
		l, m := chanceList(r, 16), chanceTable(r)
		cycles, _ := Cycles(l, m)
		for range 8 {
			if wantCheckTold(t, l, m, chanceCycles(r, cycles)) {
				taken++
			} else {
				refused++
			}
		}
	}
	if taken < 2000 || refused < 2000 {
		t.Errorf("%d schedules are some, %d none", taken, refused)
	}
}

// With a unit for each operation the last result lands at the greatest height; with fewer not ahead of it (P12.4).
func TestLastLanding(t *testing.T) {
	r := rand.New(rand.NewSource(124))
	for range 2000 {
		l, m := chanceList(r, 9), chanceTable(r)
		heights, e := height.Of(l, m)
		if e != api.OK {
			t.Fatal(e)
		}
		landing := func(m api.Table) int {
			cycles, e := Cycles(l, m)
			if e != api.OK {
				return math.MaxInt
			}
			last := 0
			for n, o := range l {
				last = max(last, cycles[n]+m.Lat[classTold(t, o)])
			}
			return last
		}
		most := slices.Max(append(heights, 0))
		if landing(m) < most || landing(units(m, 8, 8, 8, 8)) != most {
			t.Fatalf("%v, %v: lands at %d, with units for all at %d, the greatest height is %d", l, m, landing(m), landing(units(m, 8, 8, 8, 8)), most)
		}
	}
}

func TestNothingThatIsHandedInIsChanged(t *testing.T) {
	r := rand.New(rand.NewSource(37))
	for range 2000 {
		l := append(chanceList(r, 14), stores(1, 2, 3), loads(1, 1, 4), api.Op{Do: -5, D: 255, A: 255, B: 255, Imm: math.MinInt64})
		room := l[:cap(l)]
		before := slices.Clone(room)
		part, m := l[:r.Intn(len(l)+1)], chanceTable(r)
		cycles, _ := Cycles(part, m)
		if !slices.Equal(room, before) {
			t.Fatalf("%v became %v", before, room)
		}
		cycles = append(chanceCycles(r, cycles), 77, -88, 99)
		cyclesBefore := slices.Clone(cycles)
		Check(part, m, cycles[:len(cycles)-3])
		Check(part, m, cycles)
		if !slices.Equal(room, before) || !slices.Equal(cycles, cyclesBefore) {
			t.Fatalf("%v, %v became %v, %v", before, cyclesBefore, room, cycles)
		}
	}
}

// What a caller writes into an answer, with the room behind its end, is seen in no other one.
func TestAnswersAreTheCallersOwn(t *testing.T) {
	r := rand.New(rand.NewSource(73))
	for range 500 {
		l, m := chanceList(r, 14), chanceTable(r)
		first, _ := Cycles(l, m)
		second, _ := Cycles(l, m)
		first = first[:cap(first)]
		for n := range first {
			first[n] = -7
		}
		if want, _ := cyclesTold(t, l, m); !slices.Equal(second, want) {
			t.Fatalf("%v: %v", l, second)
		}
		wantTold(t, l, m)
	}
}

// Nothing is kept: what the caller changes in his list and his cycles is seen by the next call.
func TestLaterChangesAreSeen(t *testing.T) {
	l := list(multiplies(1, 8, 8), moves(2, 1), prints(3))
	wantCycles(t, l, example(), 0, 3, 0)
	cycles := []int{0, 3, 0}
	wantCheck(t, l, example(), true, cycles...)
	cycles[1] = 2
	wantCheck(t, l, example(), false, cycles...)
	l[1].A = 9
	wantCycles(t, l, example(), 0, 0, 0)
	wantCheck(t, l, example(), true, cycles...)
	l[1] = api.Op{Do: api.Halt}
	wantRefused(t, l, example(), api.ErrOp)
	l[1] = multiplies(3, 9, 9)
	wantCycles(t, l, example(), 2, 0, 3)
	wantRefused(t, l, units(example(), 1, 0, 1, 1), api.ErrNoUnit)
}

// Who asks at the same time, of the same list, gets the same answers.
func TestAskedAtTheSameTime(t *testing.T) {
	l := chanceList(rand.New(rand.NewSource(5)), 60)
	want, e := Cycles(l, example())
	if e != api.OK {
		t.Fatal(e)
	}
	done := make(chan bool)
	for range 8 {
		go func() {
			well := true
			for range 20 {
				got, e := Cycles(l, example())
				well = well && e == api.OK && slices.Equal(got, want) && Check(l, example(), want)
			}
			done <- well
		}()
	}
	for range 8 {
		if !<-done {
			t.Error("another answer")
		}
	}
}

func FuzzList(f *testing.F) {
	f.Add([]byte{2, 1, 2, 3, 0, 12, 4, 1, 1, 0, 17, 0, 4, 0, 0}, []byte{1, 1, 1, 1, 1, 3, 2, 1, 1, 2, 1, 1}, []byte{0, 1, 4})
	f.Add([]byte{16, 0, 1, 2, 8, 15, 3, 1, 0, 9, 13, 1, 1, 2, 0}, []byte{2, 1, 1, 0, 8, 1, 7, 7, 4, 3, 2, 1}, []byte{0, 0, 0})
	f.Add([]byte{18, 0, 0, 0, 1}, []byte{0, 9}, []byte{})
	f.Fuzz(func(t *testing.T, data, numbers, places []byte) {
		m := example()
		for n, b := range numbers[:min(len(numbers), 3*api.Classes)] {
			[]*[api.Classes]int{&m.Units, &m.Lat, &m.Busy}[n/api.Classes][n%api.Classes] = int(int8(b))
		}
		var l []api.Op
		for ; len(data) >= 5 && len(l) < 30; data = data[5:] {
			l = append(l, api.Op{Do: int8(data[0]), D: data[1], A: data[2], B: data[3], Imm: int64(int8(data[4]))})
		}
		var cycles []int
		for _, b := range places[:min(len(places), 40)] {
			cycles = append(cycles, int(int8(b)))
		}
		for _, m := range []api.Table{m, example()} {
			wantTold(t, l, m)
			if _, e := deps.Of(l, m); e == api.OK {
				wantCheckTold(t, l, m, cycles)
			} else if Check(l, m, cycles) {
				t.Fatalf("Check(%v, %v, %v), where deps.Of has %v", l, m, cycles, e)
			}
		}
	})
}
