package deps

import (
	"math"
	"math/rand"
	"slices"
	"testing"

	"hayloft/alias"
	"hayloft/api"
	"hayloft/ops"
	"hayloft/serial"
)

// writtenTold answers the register that an operation of a list writes. It and what follows are the chapter told a
// second time: each pair is looked at by itself, and what was written last is looked for from the back.
func writtenTold(o api.Op) (uint8, bool) { return o.D, o.Do != api.Store && o.Do != api.Print }

func readsTold(o api.Op, register uint8) bool {
	switch o.Do {
	case api.Const:
		return false
	case api.Move, api.Load, api.Print:
		return o.A == register
	}
	return o.A == register || o.B == register
}

// lastTold answers the last place of the stretch that writes a register; -1, if there is none.
func lastTold(stretch []api.Op, register uint8) int {
	for n := len(stretch) - 1; n >= 0; n-- {
		if d, ok := writtenTold(stretch[n]); ok && d == register {
			return n
		}
	}
	return -1
}

// comesFrom answers whether i, of as many rounds ahead, wrote what j reads.
func comesFrom(l []api.Op, i, j, dist int) bool {
	d, ok := writtenTold(l[i])
	if !ok || !readsTold(l[j], d) {
		return false
	}
	ahead := lastTold(l[:j], d)
	if dist == 0 {
		return ahead == i
	}
	return ahead == -1 && lastTold(l, d) == i
}

func pairTold(l []api.Op, m api.Table, i, j, dist int) []api.Edge {
	var out []api.Edge
	put := func(lat int, why int8) {
		out = append(out, api.Edge{From: i, To: j, Lat: lat, Dist: dist, Why: why})
	}
	a, b := l[i], l[j]
	di, iWrites := writtenTold(a)
	dj, jWrites := writtenTold(b)
	if comesFrom(l, i, j, dist) {
		put(latTold(a.Do, m), api.DepTrue)
	}
	if jWrites && readsTold(a, dj) {
		put(0, api.DepAnti)
	}
	if iWrites && jWrites && di == dj {
		lat := latTold(a.Do, m) - latTold(b.Do, m) + 1
		if lat < 0 {
			lat = 0
		}
		put(lat, api.DepOut)
	}
	if dist == 0 && alias.Meet(l, i, j) || dist == 1 && alias.Round(l, i, j) {
		switch {
		case a.Do == api.Store && b.Do == api.Load:
			put(m.Lat[2], api.DepMem)
		case a.Do == api.Load && b.Do == api.Store:
			put(0, api.DepMem)
		case a.Do == api.Store && b.Do == api.Store:
			put(1, api.DepMem)
		}
	}
	return append(out, onlyOrder(a, b, api.Edge{From: i, To: j, Dist: dist})...)
}

func ofTold(l []api.Op, m api.Table) []api.Edge {
	var out []api.Edge
	for j := range l {
		for i := range j {
			out = append(out, pairTold(l, m, i, j, 0)...)
		}
	}
	return out
}

func loopTold(l []api.Op, m api.Table) []api.Edge {
	out := ofTold(l, m)
	for j := range l {
		for i := range l {
			out = append(out, pairTold(l, m, i, j, 1)...)
		}
	}
	return out
}

// errorTold answers the error of a list and a table, the wrong numbers of which are told again.
func errorTold(l []api.Op, m api.Table) api.Errno {
	for class := range api.Classes {
		if m.Units[class] < 0 || m.Units[class] > 8 || m.Lat[class] < 1 || m.Lat[class] > 8 || m.Busy[class] < 1 || m.Busy[class] > 4 {
			return api.ErrTable
		}
	}
	if m.Delay < 0 || m.Delay > 4 {
		return api.ErrTable
	}
	if len(l) > 1024 {
		return api.ErrLong
	}
	for _, o := range l {
		if o.Do < 1 || o.Do > 17 || ops.Check(o) != api.OK {
			return api.ErrOp
		}
	}
	return api.OK
}

func wantTold(t *testing.T, l []api.Op, m api.Table) {
	t.Helper()
	if want := errorTold(l, m); want != api.OK {
		wantRefused(t, l, m, want)
		return
	}
	got, e := Of(l, m)
	if want := ofTold(l, m); e != api.OK || !slices.Equal(got, want) {
		t.Fatalf("Of(%v, %v) is %v, %v, want %v", l, m.Lat, got, e, want)
	}
	got, e = Loop(l, m)
	if want := loopTold(l, m); e != api.OK || !slices.Equal(got, want) {
		t.Fatalf("Loop(%v, %v) is %v, %v, want %v", l, m.Lat, got, e, want)
	}
}

// Every list of up to three of these.
func TestAllShortLists(t *testing.T) {
	all := list(consts(1, 8), consts(0, 0), moves(1, 2), moves(2, 1), adds(1, 1, 2), adds(2, 1, 1), adds(0, 1, 2), multiplies(1, 2, 2),
		multiplies(2, 2, 1), divides(1, 2, 1), divides(2, 2, 2), rests(2, 1, 1), loads(1, 1, 8), loads(1, 2, 264), loads(2, 1, 9),
		stores(1, 2, 8), stores(1, 1, 9), stores(2, 1, -248), stores(0, 1, 8), prints(1), prints(0))
	m := tableOf(2, 5, 3, 7)
	wantTold(t, nil, m)
	for _, a := range all {
		wantTold(t, list(a), m)
		for _, b := range all {
			wantTold(t, list(a, b), m)
			for _, c := range all {
				wantTold(t, list(a, b, c), m)
			}
		}
	}
}

// chanceOp answers an operation of a list, of few cells and few bases, so that many depend on one another.
func chanceOp(r *rand.Rand, registers int) api.Op {
	register := func() uint8 { return uint8(r.Intn(registers)) }
	imm := int64(r.Intn(4) + 256*r.Intn(3) - 256)
	if r.Intn(8) == 0 {
		imm = []int64{math.MinInt32, math.MaxInt32, -1, 255, 128, -128}[r.Intn(6)]
	}
	switch do := int8(api.Const + r.Intn(api.Print+6)); {
	case do == api.Const:
		return consts(register(), imm)
	case do == api.Move:
		return moves(register(), register())
	case do < api.Load:
		return api.Op{Do: do, D: register(), A: register(), B: register()}
	case do == api.Print:
		return prints(register())
	case do%2 == 0:
		return loads(register(), register(), imm)
	}
	return stores(register(), register(), imm)
}

func chanceList(r *rand.Rand, most int) []api.Op {
	registers := 1 + r.Intn(8)
	if r.Intn(8) == 0 {
		registers = 32
	}
	var l []api.Op
	for range r.Intn(most) {
		l = append(l, chanceOp(r, registers))
	}
	return l
}

func chanceTable(r *rand.Rand) api.Table {
	m := api.Table{Delay: r.Intn(5)}
	for class := range api.Classes {
		m.Units[class], m.Lat[class], m.Busy[class] = r.Intn(9), 1+r.Intn(8), 1+r.Intn(4)
	}
	return m
}

// spoilt answers an operation that is mostly none.
func spoilt(r *rand.Rand, o api.Op) api.Op {
	switch r.Intn(5) {
	case 0:
		o.Do = int8(r.Intn(256))
	case 1:
		o.D = uint8(r.Intn(256))
	case 2:
		o.A = uint8(r.Intn(256))
	case 3:
		o.B = uint8(r.Intn(256))
	case 4:
		o.Imm = int64(r.Uint64())
	}
	return o
}

func TestManyLists(t *testing.T) {
	r := rand.New(rand.NewSource(11))
	for range 8000 {
		l, m := chanceList(r, 16), chanceTable(r)
		wantTold(t, l, m)
		if len(l) > 0 {
			at := r.Intn(len(l))
			l[at] = spoilt(r, l[at])
		}
		if r.Intn(4) == 0 {
			m.Lat[r.Intn(api.Classes)] = r.Intn(11) - 1
		}
		wantTold(t, l, m)
	}
	for range 20 {
		wantTold(t, chanceList(r, 150), chanceTable(r))
	}
}

func chanceState(r *rand.Rand) api.State {
	numbers := func(count int) []int64 {
		l := make([]int64, count)
		for n := range l {
			l[n] = int64(r.Intn(5)+256*r.Intn(2)) - 1
			switch r.Intn(8) {
			case 0:
				l[n] = []int64{math.MinInt64, math.MaxInt64, math.MaxInt64 - 255, 1 << 40, -1}[r.Intn(5)]
			case 1:
				l[n] = int64(r.Uint64())
			}
		}
		return l
	}
	return api.State{Regs: numbers(32), Mem: numbers(256)}
}

// ending is how a list ends: what it printed, by which trap, and, where by none, in which state.
type ending struct {
	e      api.Errno
	prints []int64
	state  api.State
}

func (x ending) same(y ending) bool {
	if x.e != y.e || !slices.Equal(x.prints, y.prints) {
		return false
	}
	return x.e != api.OK || slices.Equal(x.state.Regs, y.state.Regs) && slices.Equal(x.state.Mem, y.state.Mem)
}

func run(t *testing.T, l []api.Op, s api.State) ending {
	t.Helper()
	m, e := serial.New(api.Program{Blocks: []api.Block{{Ops: l, End: api.EndHalt}}}, s)
	if e != api.OK {
		t.Fatalf("%v: %v", l, e)
	}
	o := m.Run(api.MaxSteps)
	return ending{o.E, o.Prints, m.State()}
}

func dependsOn(found []api.Edge, i, j int) bool {
	return slices.ContainsFunc(found, func(d api.Edge) bool { return d.From == i && d.To == j && d.Dist == 0 })
}

// swapped answers the list with at and the one behind it in each other's places.
func swapped(l []api.Op, at int) []api.Op {
	other := slices.Clone(l)
	other[at], other[at+1] = l[at+1], l[at]
	return other
}

// P11.3: both orders are run, from many states. Of those that depend on one another some must end otherwise, for each
// Why that can be alone, or the test would be blind.
func TestNeighboursThatChangePlaces(t *testing.T) {
	r := rand.New(rand.NewSource(113))
	free, trapped, printed := 0, 0, 0
	var otherwise [5]int
	for range 6000 {
		l := chanceList(r, 12)
		found, e := Of(l, chanceTable(r))
		if e != api.OK {
			t.Fatalf("%v: %v", l, e)
		}
		for range 3 {
			s := chanceState(r)
			before := run(t, l, s)
			for at := range max(0, len(l)-1) {
				same := before.same(run(t, swapped(l, at), s))
				if !dependsOn(found, at, at+1) {
					if !same {
						t.Fatalf("%v, %d: no dependence, but from %v it ends otherwise", l, at, s)
					}
					free++
					if before.e == api.ErrDivide {
						trapped++
					}
					if len(before.prints) > 0 {
						printed++
					}
				}
				if !same {
					for _, d := range found {
						if d.From == at && d.To == at+1 {
							otherwise[d.Why]++
						}
					}
				}
			}
		}
	}
	if free < 5000 || trapped < 500 || printed < 500 {
		t.Errorf("%d free, %d of them trapped, %d printed", free, trapped, printed)
	}
	if slices.Min(otherwise[:]) < 50 {
		t.Errorf("ended otherwise by Why: %v", otherwise)
	}
}

// P9, of the whole list: any order in which nobody comes ahead of what he depends on.
func TestOrdersThatKeepDependences(t *testing.T) {
	r := rand.New(rand.NewSource(9))
	changed := 0
	for range 4000 {
		l := chanceList(r, 14)
		found, _ := Of(l, chanceTable(r))
		var other []api.Op
		done := make([]bool, len(l))
		for len(other) < len(l) {
			var ready []int
			for j := range l {
				waits := slices.ContainsFunc(found, func(d api.Edge) bool { return d.To == j && !done[d.From] })
				if !done[j] && !waits {
					ready = append(ready, j)
				}
			}
			next := ready[r.Intn(len(ready))]
			done[next] = true
			other = append(other, l[next])
		}
		if !slices.Equal(l, other) {
			changed++
		}
		s := chanceState(r)
		if !run(t, l, s).same(run(t, other, s)) {
			t.Fatalf("%v and %v end unlike from %v", l, other, s)
		}
	}
	if changed < 1000 {
		t.Errorf("%d orders were others", changed)
	}
}

func withoutLat(found []api.Edge) []api.Edge {
	l := slices.Clone(found)
	for n := range l {
		l[n].Lat = 0
	}
	return l
}

// P11.4: a table of greater latencies.
func TestGreaterLatencies(t *testing.T) {
	r := rand.New(rand.NewSource(114))
	for range 3000 {
		l, m := chanceList(r, 16), chanceTable(r)
		greater := chanceTable(r)
		for class := range api.Classes {
			greater.Lat[class] = m.Lat[class] + r.Intn(9-m.Lat[class])
		}
		for _, call := range []func([]api.Op, api.Table) ([]api.Edge, api.Errno){Of, Loop} {
			a, e := call(l, m)
			b, f := call(l, greater)
			if e != api.OK || f != api.OK || !slices.Equal(withoutLat(a), withoutLat(b)) {
				t.Fatalf("%v: %v and %v, by %v and %v", l, a, b, m.Lat, greater.Lat)
			}
			for n, d := range a {
				if (d.Why == api.DepTrue || d.Why == api.DepMem || d.Why == api.DepOrder) && b[n].Lat < d.Lat {
					t.Fatalf("%v: %v became %v, by %v and %v", l, d, b[n], m.Lat, greater.Lat)
				}
			}
		}
	}
}

// writerOf answers which operation DepTrue of this distance names as the writer of a register that j reads; -1: none.
func writerOf(found []api.Edge, l []api.Op, j int, register uint8, dist int) int {
	for _, d := range found {
		if d.To == j && d.Dist == dist && d.Why == api.DepTrue && l[d.From].D == register {
			return d.From
		}
	}
	return -1
}

// traced answers the list with every writer made a Const of a number of its own, so that a register tells who wrote it.
func traced(l []api.Op) []api.Op {
	other := slices.Clone(l)
	for n, o := range l {
		if o.Do != api.Store && o.Do != api.Print && n%2 == 0 {
			other[n] = consts(o.D, int64(1000+n))
		}
	}
	return other
}

// P11.5: each register that is read holds what the one from which its DepTrue comes left there.
func TestWhoWroteWhatIsRead(t *testing.T) {
	r := rand.New(rand.NewSource(115))
	fromOne, fromNone := 0, 0
	for range 3000 {
		l := chanceList(r, 14)
		if r.Intn(2) == 0 {
			l = traced(l)
		}
		found, _ := Of(l, chanceTable(r))
		s := chanceState(r)
		m, e := serial.New(api.Program{Blocks: []api.Block{{Ops: l, End: api.EndHalt}}}, s)
		if e != api.OK {
			t.Fatal(e)
		}
		var behind [][]int64 // the registers behind each operation
		for j, o := range l {
			regs := m.State().Regs
			for _, register := range ops.Reads(o) {
				want := s.Regs[register]
				if from := writerOf(found, l, j, register, 0); from >= 0 {
					want = behind[from][register]
					fromOne++
				} else {
					fromNone++
				}
				if regs[register] != want {
					t.Fatalf("%v: %d reads %d in r%d, not %d", l, j, regs[register], register, want)
				}
			}
			if m.Run(1).E == api.ErrDivide {
				break
			}
			behind = append(behind, m.State().Regs)
		}
	}
	if fromOne < 3000 || fromNone < 3000 {
		t.Errorf("%d from one, %d from none", fromOne, fromNone)
	}
}

// P11.5 from round to round: what the round itself did not write comes from the round ahead, or was there at the beginning.
func TestWhoWroteWhatIsReadInRounds(t *testing.T) {
	r := rand.New(rand.NewSource(511))
	var read [3]int // within, around, from none
	for range 1500 {
		l := chanceList(r, 12)
		if r.Intn(2) == 0 {
			l = traced(l)
		}
		found, _ := Loop(l, chanceTable(r))
		s := chanceState(r)
		s.Regs[31] = int64(1 + r.Intn(4))
		m, e := serial.New(api.Program{Blocks: []api.Block{{End: api.EndLoop, A: 31, Body: l, Then: 1}, {End: api.EndHalt}}}, s)
		if e != api.OK {
			t.Fatal(e)
		}
		m.Run(1)
		var ahead [][]int64 // the registers behind each operation of the round ahead
		for range s.Regs[31] {
			var behind [][]int64
			for j, o := range l {
				regs := m.State().Regs
				for _, register := range ops.Reads(o) {
					want, how := s.Regs[register], 2
					if from := writerOf(found, l, j, register, 0); from >= 0 {
						want, how = behind[from][register], 0
					} else if from := writerOf(found, l, j, register, 1); from >= 0 && ahead != nil {
						want, how = ahead[from][register], 1
					}
					read[how]++
					if regs[register] != want {
						t.Fatalf("%v: %d reads %d in r%d, not %d", l, j, regs[register], register, want)
					}
				}
				m.Run(1)
				behind = append(behind, m.State().Regs)
			}
			// The end of the round; behind a trap nothing more is read.
			if m.Run(1).E == api.ErrDivide {
				break
			}
			ahead = behind
		}
	}
	if slices.Min(read[:]) < 1000 {
		t.Errorf("%v", read)
	}
}

func TestNothingThatIsHandedInIsChanged(t *testing.T) {
	r := rand.New(rand.NewSource(73))
	for range 2000 {
		l := append(chanceList(r, 14), stores(1, 2, 3), loads(1, 1, 4), api.Op{Do: -5, D: 255, A: 255, B: 255, Imm: math.MinInt64})
		room := l[:cap(l)]
		before := slices.Clone(room)
		part, m := l[:r.Intn(len(l)+1)], chanceTable(r)
		Of(part, m)
		Loop(part, m)
		if !slices.Equal(room, before) {
			t.Fatalf("%v became %v", before, room)
		}
	}
}

// What a caller writes into an answer, with the room behind its end, is seen in no other one.
func TestAnswersAreTheCallersOwn(t *testing.T) {
	r := rand.New(rand.NewSource(37))
	for range 500 {
		l, m := chanceList(r, 14), chanceTable(r)
		first, _ := Of(l, m)
		second, _ := Of(l, m)
		third, _ := Loop(l, m)
		for _, found := range [][]api.Edge{first[:cap(first)], third[:cap(third)]} {
			for n := range found {
				found[n] = api.Edge{From: -1, To: -1, Lat: -1, Dist: -1, Why: -1}
			}
		}
		if !slices.Equal(second, ofTold(l, m)) {
			t.Fatalf("%v: %v", l, second)
		}
		wantTold(t, l, m)
	}
}

// Nothing is kept: what the caller changes in his list is seen by the next call.
func TestLaterChangesAreSeen(t *testing.T) {
	l := list(consts(1, 8), prints(1))
	wantOf(t, l, example(), within(0, 1, 1, api.DepTrue))
	l[0].D = 2
	wantOf(t, l, example())
	l[1] = prints(2)
	wantOf(t, l, tableOf(4, 1, 1, 1), within(0, 1, 4, api.DepTrue))
	l[1] = api.Op{Do: api.Halt}
	wantRefused(t, l, example(), api.ErrOp)
	l[1] = consts(2, 1)
	wantOf(t, l, example(), within(0, 1, 1, api.DepOut))
}

func FuzzDeps(f *testing.F) {
	f.Add([]byte{1, 1, 0, 0, 8, 12, 2, 1, 1, 0, 2, 1, 2, 1, 0, 17, 0, 1, 0, 0}, uint16(0x1321), int64(0))
	f.Add([]byte{16, 0, 1, 2, 8, 15, 3, 1, 0, 9, 13, 1, 1, 2, 0}, uint16(0x8177), int64(256))
	f.Add([]byte{18, 0, 0, 0, 1}, uint16(0x1111), int64(1))
	f.Fuzz(func(t *testing.T, data []byte, lats uint16, far int64) {
		// Four bits a latency; five bytes an operation; far is what Imms of odd last bytes lie further off.
		m := tableOf(int(lats&15), int(lats>>4&15), int(lats>>8&15), int(lats>>12))
		var l []api.Op
		for ; len(data) >= 5 && len(l) < 40; data = data[5:] {
			o := api.Op{Do: int8(data[0]), D: data[1], A: data[2], B: data[3], Imm: int64(int8(data[4]))}
			if o.Imm%2 != 0 {
				o.Imm += far
			}
			l = append(l, o)
		}
		wantTold(t, l, m)
		m = example()
		wantTold(t, l, m)
	})
}
