package alias

import (
	"math"
	"math/rand"
	"slices"
	"testing"

	"hayloft/api"
	"hayloft/serial"
)

// takes answers whether o is a Load or a Store that there is. It and what follows are the chapter told a second time,
// without ops.
func takes(o api.Op) bool {
	if o.A > 31 || o.B > 31 || o.D > 31 || o.Imm < -1<<31 || o.Imm >= 1<<31 {
		return false
	}
	return o.Do == api.Load && o.B == 0 || o.Do == api.Store && o.D == 0
}

func writesTold(o api.Op, register uint8) bool {
	switch {
	case o.D != register || o.A > 31 || o.B > 31 || o.D > 31:
		return false
	case o.Do == api.Const:
		return o.A == 0 && o.B == 0 && o.Imm == int64(int32(o.Imm))
	case o.Do == api.Move:
		return o.B == 0 && o.Imm == 0
	case o.Do == api.Load:
		return takes(o)
	}
	return o.Do >= api.Add && o.Do <= api.Rest && o.Imm == 0
}

func told(l []api.Op, i, j, first, behind int) bool {
	for _, at := range []int{i, j} {
		if at < 0 || at >= len(l) || !takes(l[at]) {
			return false
		}
	}
	a, b := l[i], l[j]
	if a.Do == api.Load && b.Do == api.Load {
		return false
	}
	for k := first; k < behind; k++ {
		if writesTold(l[k], a.A) {
			return true
		}
	}
	return a.A != b.A || floor(a.Imm) == floor(b.Imm)
}

func meetTold(l []api.Op, i, j int) bool { return i < j && told(l, i, j, i, j) }

func roundTold(l []api.Op, i, j int) bool { return told(l, i, j, 0, len(l)) }

// wantTold holds Meet and Round of two places against the second telling, and against P10.4.
func wantTold(t *testing.T, l []api.Op, i, j int) {
	t.Helper()
	meet, round := Meet(l, i, j), Round(l, i, j)
	if meet != meetTold(l, i, j) {
		t.Fatalf("Meet(%v, %d, %d) = %v", l, i, j, meet)
	}
	if round != roundTold(l, i, j) {
		t.Fatalf("Round(%v, %d, %d) = %v", l, i, j, round)
	}
	if Round(l, j, i) != round {
		t.Fatalf("Round(%v, %d, %d) = %v, and not the other way", l, i, j, round)
	}
	if meet && !round {
		t.Fatalf("Meet(%v, %d, %d), but not Round", l, i, j)
	}
}

func wantAllTold(t *testing.T, l []api.Op) {
	t.Helper()
	for i := -1; i <= len(l); i++ {
		for j := -1; j <= len(l); j++ {
			wantTold(t, l, i, j)
		}
	}
}

// Every list of up to three of these, and every two places of it.
func TestAllShortLists(t *testing.T) {
	all := list(loads(1, 1, 8), loads(1, 2, 8), loads(2, 1, 264), loads(2, 2, 9), loads(0, 1, 9), loads(3, 0, 8),
		stores(1, 0, 8), stores(1, 2, 9), stores(1, 1, 264), stores(2, 1, 8), stores(2, 1, -248), stores(0, 3, 9), stores(0, 3, 8),
		adds(1, 2, 2), adds(2, 1, 2), adds(3, 1, 2), prints(1), api.Op{}, api.Op{Do: api.Const, D: 1, Imm: 1}, api.Op{Do: api.Move, A: 1},
		api.Op{Do: api.Jump, Imm: 1}, api.Op{Do: api.Move, D: 1, Imm: 1}, api.Op{Do: api.Load, D: 1, A: 1, B: 1, Imm: 8},
		api.Op{Do: api.Store, D: 1, A: 1, Imm: 8}, loads(1, 1, 1<<31), stores(1, 1, 1<<31), loads(1, 33, 8))
	wantAllTold(t, nil)
	for _, a := range all {
		wantAllTold(t, list(a))
		for _, b := range all {
			wantAllTold(t, list(a, b))
			for _, c := range all {
				wantAllTold(t, list(a, b, c))
			}
		}
	}
}

// chanceOp answers an operation of a block, mostly on memory.
func chanceOp(r *rand.Rand, registers int) api.Op {
	register := func() uint8 { return uint8(r.Intn(registers)) }
	imm := int64(r.Intn(4) + 256*r.Intn(3) - 256)
	if r.Intn(8) == 0 {
		imm = []int64{math.MinInt32, math.MaxInt32, -1, 255, 128, -128}[r.Intn(6)]
	}
	switch do := int8(api.Const + r.Intn(2*api.Print)); {
	case do == api.Const:
		return api.Op{Do: do, D: register(), Imm: imm}
	case do == api.Move:
		return api.Op{Do: do, D: register(), A: register()}
	case do < api.Load:
		return api.Op{Do: do, D: register(), A: register(), B: register()}
	case do == api.Print:
		return prints(register())
	case do%2 == 0:
		return loads(register(), register(), imm)
	}
	return stores(register(), register(), imm)
}

func chanceList(r *rand.Rand) []api.Op {
	registers := 1 + r.Intn(6)
	if r.Intn(10) == 0 {
		registers = 32
	}
	var l []api.Op
	for range r.Intn(14) {
		l = append(l, chanceOp(r, registers))
	}
	return l
}

// spoilt answers an operation that is mostly none.
func spoilt(r *rand.Rand, o api.Op) api.Op {
	switch r.Intn(5) {
	case 0:
		o.Do = int8(r.Intn(256))
	case 1:
		o.D = uint8(r.Intn(256))
	case 2:
		o.A = uint8(r.Intn(256))
	case 3:
		o.B = uint8(r.Intn(256))
	case 4:
		o.Imm = int64(r.Uint64())
	}
	return o
}

func TestManyLists(t *testing.T) {
	r := rand.New(rand.NewSource(10))
	for range 20000 {
		l := chanceList(r)
		wantAllTold(t, l)
		for n := range l {
			if r.Intn(4) == 0 {
				l[n] = spoilt(r, l[n])
			}
		}
		wantAllTold(t, l)
	}
}

func chanceState(r *rand.Rand) api.State {
	numbers := func(count int) []int64 {
		l := make([]int64, count)
		for n := range l {
			l[n] = int64(r.Intn(5)+256*r.Intn(2)) - 2
			if r.Intn(8) == 0 {
				l[n] = []int64{math.MinInt64, math.MaxInt64, math.MaxInt64 - 255, 1 << 40, -1 << 40}[r.Intn(5)]
			}
		}
		return l
	}
	return api.State{Regs: numbers(32), Mem: numbers(256)}
}

// touched answers which cells each operation of l touches, as serial runs it: as a block's Ops, or as many rounds.
func touched(t *testing.T, l []api.Op, s api.State, rounds int64) [][]int64 {
	t.Helper()
	cells := make([][]int64, len(l))
	p := api.Program{Blocks: []api.Block{{Ops: l, End: api.EndHalt}}}
	if rounds > 0 {
		// The counter's register is set ahead, for the loop asks it once.
		s.Regs[0] = rounds
		p = api.Program{Blocks: []api.Block{{End: api.EndLoop, Body: l, Then: 1}, {End: api.EndHalt}}}
	}
	tags, e := serial.Trail(p, s, 500)
	m, f := serial.New(p, s)
	if e != api.OK || f != api.OK {
		t.Fatalf("%v: %v, %v", l, e, f)
	}
	for _, tag := range tags {
		if tag.Op >= 0 {
			o, now := l[tag.Op], m.State()
			if o.Do == api.Load || o.Do == api.Store {
				cells[tag.Op] = append(cells[tag.Op], floor(floor(now.Regs[o.A])+floor(o.Imm)))
			}
		}
		m.Run(1)
	}
	return cells
}

func shared(a, b []int64) bool {
	return slices.ContainsFunc(a, func(cell int64) bool { return slices.Contains(b, cell) })
}

func isStore(o api.Op) bool { return o.Do == api.Store }

// P10.3: what touches one cell when a block is run meets.
func TestMeetIsSafe(t *testing.T) {
	r := rand.New(rand.NewSource(103))
	apart, together := 0, 0
	for range 3000 {
		l := chanceList(r)
		for range 3 {
			cells := touched(t, l, chanceState(r), 0)
			for i := range l {
				for j := i + 1; j < len(l); j++ {
					if len(cells[i]) == 0 || len(cells[j]) == 0 || !isStore(l[i]) && !isStore(l[j]) {
						continue
					}
					one, meet := shared(cells[i], cells[j]), Meet(l, i, j)
					if one && !meet {
						t.Fatalf("Meet(%v, %d, %d) is false, but both touch %v", l, i, j, cells[i])
					}
					if one {
						together++
					}
					if !meet {
						apart++
					}
				}
			}
		}
	}
	if apart < 2000 || together < 2000 {
		t.Errorf("%d apart, %d together", apart, together)
	}
}

// P10.3: what touches one cell in any two rounds meets from round to round.
func TestRoundIsSafe(t *testing.T) {
	r := rand.New(rand.NewSource(310))
	apart, together := 0, 0
	for range 4000 {
		l := chanceList(r)
		for range 3 {
			cells := touched(t, l, chanceState(r), int64(1+r.Intn(5)))
			for i := range l {
				for j := range l {
					if len(cells[i]) == 0 || len(cells[j]) == 0 || !isStore(l[i]) && !isStore(l[j]) {
						continue
					}
					one, round := shared(cells[i], cells[j]), Round(l, i, j)
					if one && !round {
						t.Fatalf("Round(%v, %d, %d) is false, but they touch %v and %v", l, i, j, cells[i], cells[j])
					}
					if one && i != j {
						together++
					}
					if !round {
						apart++
					}
				}
			}
		}
	}
	if apart < 2000 || together < 2000 {
		t.Errorf("%d apart, %d together", apart, together)
	}
}

func TestNothingThatIsHandedInIsChanged(t *testing.T) {
	r := rand.New(rand.NewSource(73))
	for range 2000 {
		l := append(chanceList(r), stores(1, 2, 3), loads(1, 1, 4), api.Op{Do: -5, D: 255, A: 255, B: 255, Imm: math.MinInt64})
		room := l[:cap(l)]
		before := slices.Clone(room)
		part := l[:r.Intn(len(l)+1)]
		for i := -1; i <= len(part)+1; i++ {
			for j := -1; j <= len(part)+1; j++ {
				first, again := [2]bool{Meet(part, i, j), Round(part, i, j)}, [2]bool{Meet(part, i, j), Round(part, i, j)}
				if first != again {
					t.Fatalf("%v, %d, %d: first %v, then %v", part, i, j, first, again)
				}
			}
		}
		if !slices.Equal(room, before) {
			t.Fatalf("%v became %v", before, room)
		}
	}
}

// Nothing is kept: what the caller changes in his list is seen by the next call.
func TestLaterChangesAreSeen(t *testing.T) {
	l := list(stores(1, 2, 8), prints(1), stores(1, 2, 9))
	wantBoth(t, l, 0, 2, false)
	l[1] = adds(1, 1, 1)
	wantBoth(t, l, 0, 2, true)
	l[1] = adds(2, 1, 1)
	wantBoth(t, l, 0, 2, false)
	l[2].Imm = 8
	wantBoth(t, l, 0, 2, true)
}

func FuzzAlias(f *testing.F) {
	f.Add([]byte{15, 1, 2, 0, 8, 16, 0, 2, 3, 8, 2, 2, 2, 4, 0, 16, 0, 2, 3, 9}, 0, 3, int64(256))
	f.Add([]byte{16, 0, 1, 2, 128, 15, 1, 1, 0, 129}, 1, -1, int64(math.MinInt32))
	f.Fuzz(func(t *testing.T, data []byte, i, j int, far int64) {
		// Five bytes an operation; far is what Imms of odd last bytes lie further off.
		var l []api.Op
		for ; len(data) >= 5 && len(l) < 40; data = data[5:] {
			o := api.Op{Do: int8(data[0]), D: data[1], A: data[2], B: data[3], Imm: int64(int8(data[4]))}
			if o.Do >= api.Const && o.Do <= api.Store && o.Imm%2 != 0 {
				o.Imm += far
			}
			l = append(l, o)
		}
		wantTold(t, l, i, j)
		wantAllTold(t, l)
	})
}
