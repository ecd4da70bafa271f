package ghost

import (
	"math"
	"math/big"
	"math/rand"
	"slices"
	"sync"
	"testing"

	"hayloft/api"
	"hayloft/bundle"
	"hayloft/ops"
)

// again is chapter 22 told a second time, with all that it holds in one place: what lands is a list of deeds for each cycle.
type again struct {
	l       []api.Bundle
	m       api.Table
	regs    [api.Registers]int64
	mem     [api.Cells]int64
	at      int64
	counter *big.Int
	lands   map[int][]func()
	cycle   int
	issues  []api.Issue
	values  [][]int64 // what each of them read
}

// put lets a deed be done in a later cycle.
func (g *again) put(behind int, deed func()) {
	g.lands[g.cycle+behind] = append(g.lands[g.cycle+behind], deed)
}

func (g *again) turn(o api.Op) { g.put(1+g.m.Delay, func() { g.at = o.Imm }) }

// control does an operation of Ctl; true where the run has ended.
func (g *again) control(o api.Op) bool {
	turns := o.Do == api.Jump || o.Do == api.Branch && g.regs[o.A] != 0 || o.Do == api.Short && g.regs[o.A] < int64(o.B)
	switch o.Do {
	case api.Count:
		g.counter.Sub(big.NewInt(g.regs[o.A]), big.NewInt(o.Imm))
		if g.counter.Sign() < 0 {
			g.counter.SetInt64(0)
		}
	case api.Again:
		g.counter.Sub(g.counter, big.NewInt(1))
		turns = g.counter.Sign() > 0
	}
	if turns {
		g.turn(o)
	}
	return o.Do == api.Halt
}

// cellOf is reckoned without wrapping round.
func (g *again) cellOf(o api.Op) *int64 {
	sum := new(big.Int).Add(big.NewInt(g.regs[o.A]), big.NewInt(o.Imm))
	return &g.mem[sum.Mod(sum, big.NewInt(api.Cells)).Int64()]
}

// do does an operation of a class; true where the run has ended.
func (g *again) do(o api.Op, class int) bool {
	if class == api.Ctl {
		return g.control(o)
	}
	to, value := &g.regs[o.D], o.Imm
	switch o.Do {
	case api.Print:
		return false
	case api.Const:
	case api.Load:
		value = *g.cellOf(o)
	case api.Store:
		to, value = g.cellOf(o), g.regs[o.B]
	default:
		if (o.Do == api.Divide || o.Do == api.Rest) && g.regs[o.B] == 0 {
			return true
		}
		value, _ = ops.Reckon(o.Do, g.regs[o.A], g.regs[o.B])
	}
	g.put(g.m.Lat[class], func() { *to = value })
	return false
}

// run makes as many cycles.
func (g *again) run(tags [][]api.Tag, cycles int) {
	for g.cycle = 0; g.cycle < cycles; g.cycle++ {
		for _, deed := range g.lands[g.cycle] {
			deed()
		}
		if g.at < 0 || g.at >= int64(len(g.l)) {
			return
		}
		row := tags[g.at]
		for class, list := range g.l[g.at].Ops {
			for _, o := range list {
				g.issues = append(g.issues, api.Issue{Cycle: g.cycle, At: int(g.at), Op: o, Tag: row[0]})
				g.values = append(g.values, valuesOf(o, g.regs[:]))
				row = row[1:]
				if g.do(o, class) {
					return
				}
			}
		}
		g.at++
	}
}

// valuesOf answers what an operation reads.
func valuesOf(o api.Op, regs []int64) []int64 {
	var l []int64
	for _, register := range ops.Reads(o) {
		l = append(l, regs[register])
	}
	return l
}

// tell answers a run that was made.
func tell(l []api.Bundle, tags [][]api.Tag, m api.Table, s api.State, cycles int) *again {
	g := &again{l: l, m: m, counter: new(big.Int), lands: map[int][]func(){}}
	copy(g.regs[:], s.Regs)
	copy(g.mem[:], s.Mem)
	g.run(tags, cycles)
	return g
}

// wantTold says that a run has the issues that the chapter tells, and pipe's outcome; and answers both.
func wantTold(t testing.TB, k api.Packed, l []api.Bundle, m api.Table, s api.State, cycles int) ([]api.Issue, api.Outcome) {
	t.Helper()
	issues, o, e := Run(k, m, s, cycles)
	if want := tell(l, k.Tags, m, s, min(cycles, 1<<16)).issues; e != api.OK || !slices.Equal(issues, want) {
		t.Fatalf("%v, %v, %v, %d cycles: %v, %v, want %v", l, m, s, cycles, issues, e, want)
	}
	if want := outcomeOf(t, k.Words, m, s, min(cycles, 1<<16)); !same(o, want) {
		t.Fatalf("%v, %v, %v, %d cycles: %v, want %v", l, m, s, cycles, o, want)
	}
	return issues, o
}

// chanceTable answers a table; half of the time of few units.
func chanceTable(r *rand.Rand) api.Table {
	m := api.Table{Delay: r.Intn(api.MaxDelay + 1)}
	most := 1 + r.Intn(api.MaxUnits)
	if r.Intn(2) == 0 {
		most = 1
	}
	for class := range api.Classes {
		m.Units[class], m.Lat[class], m.Busy[class] = 1+r.Intn(most), 1+r.Intn(api.MaxLatency), 1+r.Intn(api.MaxBusy)
	}
	return m
}

func chanceNumber(r *rand.Rand) int64 {
	switch r.Intn(12) {
	case 0:
		return math.MinInt64 + int64(r.Intn(3))
	case 1:
		return math.MaxInt64 - int64(r.Intn(3))
	case 2:
		return int64(r.Uint64())
	case 3:
		return int64(r.Intn(600) - 300)
	}
	return int64(r.Intn(9) - 1)
}

func chanceNumbers(r *rand.Rand, count int) []int64 {
	l := make([]int64, count)
	for n := range l {
		l[n] = chanceNumber(r)
	}
	return l
}

// chanceState answers any; most of the time no register is 0, so that not every divide is a trap.
func chanceState(r *rand.Rand) api.State {
	s := api.State{Regs: chanceNumbers(r, 32), Mem: chanceNumbers(r, 256)}
	if r.Intn(5) == 0 {
		return api.State{Regs: s.Regs[:r.Intn(33)], Mem: s.Mem[:r.Intn(257)]}
	}
	for n := range s.Regs {
		if s.Regs[n] == 0 {
			s.Regs[n] = 3
		}
	}
	return s
}

// chanceOp answers an operation of a class, for as many registers and bundles.
func chanceOp(r *rand.Rand, class, registers, bundles int) api.Op {
	first := [api.Classes]int{api.Const, api.Times, api.Load, api.Jump}[class]
	behind := [api.Classes]int{api.Times, api.Load, api.Jump, api.Kinds}[class]
	do := first + r.Intn(behind-first)
	if (do == api.Halt || do == api.Divide || do == api.Rest) && r.Intn(3) > 0 {
		do = behind - 1
		if class == api.Mul {
			do = api.Times
		}
	}
	register := func() uint8 { return uint8(r.Intn(registers)) }
	imm := int64(r.Intn(9) - 3)
	if class == api.Ctl && do != api.Count {
		imm = int64(r.Intn(bundles))
		if r.Intn(12) == 0 {
			imm += int64(r.Intn(7) - 3)
		}
	}
	return opOf(do, register(), register(), register(), imm)
}

// chanceBundles answers well formed ones, of few operations or of many.
func chanceBundles(r *rand.Rand, m api.Table) []api.Bundle {
	count, registers := 1+r.Intn(12), 1+r.Intn(8)
	if r.Intn(3) == 0 {
		registers = api.Registers
	}
	l := make([]api.Bundle, count)
	full := 1 + r.Intn(4)
	for n := range l {
		for class := range api.Classes {
			chance := full
			if class == api.Ctl {
				chance = 1
			}
			for range m.Units[class] {
				if r.Intn(4) < chance {
					l[n].Ops[class] = append(l[n].Ops[class], chanceOp(r, class, registers, count))
				}
			}
		}
	}
	if n := count - 1 - m.Delay; n >= 0 && r.Intn(4) > 0 { // so that not so many run out of bundles
		l[n].Ops[api.Ctl] = []api.Op{opOf(api.Jump, 0, 0, 0, int64(r.Intn(count)))}
	}
	return l
}

// chanceRounds answers bundles that go round as often as a register says, and halt then.
func chanceRounds(r *rand.Rand, m api.Table) []api.Bundle {
	l := chanceBundles(r, m)
	for n := range l {
		l[n].Ops[api.Ctl] = nil
	}
	first, last := make([]api.Bundle, 1), make([]api.Bundle, 1+m.Delay)
	first[0].Ops[api.Ctl] = []api.Op{opOf(api.Count, 0, uint8(r.Intn(32)), 0, int64(r.Intn(3)-2))}
	l[max(0, len(l)-1-m.Delay)].Ops[api.Ctl] = []api.Op{opOf(api.Again, 0, 0, 0, 1)}
	last[m.Delay].Ops[api.Ctl] = []api.Op{opOf(api.Halt, 0, uint8(r.Intn(32)), 0, 0)}
	return slices.Concat(first, l, last)
}

func TestManyRuns(t *testing.T) {
	r := rand.New(rand.NewSource(23))
	ends, long, cut := map[api.Errno]int{}, map[api.Errno]int{}, map[api.Errno]int{}
	for n := range 6000 {
		m := chanceTable(r)
		l, s, cycles := chanceBundles(r, m), chanceState(r), r.Intn(60)-1
		if n%3 == 0 {
			l, cycles = chanceRounds(r, m), 100
		}
		k := packed(t, m, l)
		issues, o := wantTold(t, k, l, m, s, cycles)
		ends[o.E]++
		if o.Steps > 12 {
			long[o.E]++
		}
		if len(issues) > 0 {
			last := issues[len(issues)-1]
			if row := k.Tags[last.At]; last.Tag != row[len(row)-1] {
				cut[o.E]++
			}
		}
	}
	for _, e := range []api.Errno{api.OK, api.ErrDivide, api.ErrNone, api.ErrFuel} {
		if ends[e] < 300 || long[e] < 60 {
			t.Errorf("ends %v, behind more than 12 cycles %v", ends, long)
			break
		}
	}
	if cut[api.OK] < 50 || cut[api.ErrDivide] < 300 || len(cut) != 2 {
		t.Errorf("cut off in the midst of a bundle: %v", cut)
	}
}

// What is issued in fewer cycles is a beginning of what is issued in more.
func TestRunsOfFewerCycles(t *testing.T) {
	r := rand.New(rand.NewSource(231))
	for range 300 {
		m := chanceTable(r)
		l, s := chanceRounds(r, m), chanceState(r)
		k := packed(t, m, l)
		all, _, _ := Run(k, m, s, 40)
		for cycles := range 41 {
			part, _, e := Run(k, m, s, cycles)
			want := slices.IndexFunc(all, func(i api.Issue) bool { return i.Cycle >= cycles })
			if want < 0 {
				want = len(all)
			}
			if e != api.OK || !slices.Equal(part, all[:want]) {
				t.Fatalf("%v, %v: of %d cycles %v, %v, of 40 %v", l, m, cycles, part, e, all)
			}
		}
	}
}

// busyTold is P23.2 a second time: each cycle is asked which units are busy in it.
func busyTold(l []api.Issue, m api.Table) bool {
	for _, i := range l {
		if i.Cycle < 0 || i.Cycle > 1<<20 {
			return false
		}
		for ahead := range api.MaxBusy {
			var count [api.Classes]int
			for _, other := range l {
				class, ok := ops.Class(other.Op.Do)
				if since := i.Cycle + ahead - other.Cycle; ok && since >= 0 && since <= m.Busy[class]-1 {
					count[class]++
				}
			}
			for class, n := range count {
				if n > m.Units[class] {
					return false
				}
			}
		}
	}
	return true
}

// hazardsTold is P23.3 a second time, pair by pair.
func hazardsTold(l []api.Issue, m api.Table) int {
	lands := func(i api.Issue) int {
		class, _ := ops.Class(i.Op.Do)
		return i.Cycle + m.Lat[class]
	}
	count := 0
	for n, i := range l {
		if i.Cycle < 0 || i.Cycle > 1<<20 {
			return 0
		}
		to, writes := ops.Writes(i.Op)
		for at, other := range l {
			if writes && other.Cycle > i.Cycle && other.Cycle < lands(i) && slices.Contains(ops.Reads(other.Op), to) {
				count++
			}
			otherTo, otherWrites := ops.Writes(other.Op)
			if n == at || !writes || !otherWrites || to != otherTo {
				continue
			}
			if n < at && lands(i) == lands(other) || i.Cycle < other.Cycle && lands(i) > lands(other) {
				count++
			}
		}
	}
	return count
}

// chanceIssues answers issues of few cycles, or of many, in any order.
func chanceIssues(r *rand.Rand) []api.Issue {
	registers, span, first := 1+r.Intn(8), 1+r.Intn(40), 0
	switch r.Intn(6) {
	case 0:
		first = r.Intn(1 << 20)
	case 1:
		first = 1<<20 - span + 1 - r.Intn(20)/19
	case 2:
		first = -r.Intn(20) / 19
	}
	l := make([]api.Issue, r.Intn(16))
	for n := range l {
		l[n] = api.Issue{Cycle: first + r.Intn(span), At: r.Intn(9), Op: chanceOp(r, r.Intn(api.Classes), registers, 9)}
		switch r.Intn(30) {
		case 0:
			l[n].Op = api.Op{}
		case 1:
			l[n].Op.Imm = 1 << 40
		case 2:
			l[n].Op.A += 32
		}
	}
	if r.Intn(3) == 0 {
		slices.SortFunc(l, func(a, b api.Issue) int { return a.Cycle - b.Cycle })
	}
	return l
}

func wantCounted(t testing.TB, l []api.Issue, m api.Table) (bool, int) {
	t.Helper()
	busy, hazards := Busy(l, m), Hazards(l, m)
	if wantBusy, wantHazards := busyTold(l, m), hazardsTold(l, m); busy != wantBusy || hazards != wantHazards {
		t.Fatalf("%q, %v: %v, %d, want %v, %d", told(l), m, busy, hazards, wantBusy, wantHazards)
	}
	return busy, hazards
}

func TestManyCounts(t *testing.T) {
	r := rand.New(rand.NewSource(232))
	busy, hazards := map[bool]int{}, map[int]int{}
	for range 20000 {
		l, m := chanceIssues(r), chanceTable(r)
		was, count := wantCounted(t, l, m)
		busy[was]++
		hazards[min(count, 8)]++
		r.Shuffle(len(l), func(a, b int) { l[a], l[b] = l[b], l[a] })
		if Busy(l, m) != was || Hazards(l, m) != count {
			t.Fatalf("%q, %v: in another order %v, %d, want %v, %d", told(l), m, Busy(l, m), Hazards(l, m), was, count)
		}
	}
	if min(busy[true], busy[false]) < 3000 {
		t.Errorf("busy %v", busy)
	}
	for count := range 9 {
		if hazards[count] < 300 {
			t.Errorf("by hazards %v", hazards)
			break
		}
	}
}

// The counts of what was issued in any runs, whatever their bundles are.
func TestCountsOfManyRuns(t *testing.T) {
	r := rand.New(rand.NewSource(233))
	busy := map[bool]int{}
	for range 600 {
		m := chanceTable(r)
		if r.Intn(2) == 0 {
			m.Busy = [api.Classes]int{1, 1, 1, 1}
		}
		l, _, _ := Run(packed(t, m, chanceRounds(r, m)), m, chanceState(r), 25)
		was, _ := wantCounted(t, l, m)
		busy[was]++
	}
	if min(busy[true], busy[false]) < 100 {
		t.Errorf("busy %v", busy)
	}
}

// R3: what is handed in is not changed, with the room behind its ends and within.
func TestArgumentsStay(t *testing.T) {
	r := rand.New(rand.NewSource(234))
	for range 300 {
		m := chanceTable(r)
		l, s := chanceRounds(r, m), chanceState(r)
		k := packed(t, m, l)
		copied := api.Packed{Words: slices.Clone(k.Words), Begins: slices.Clone(k.Begins)}
		roomy := api.Packed{Words: append(slices.Clone(k.Words), 7, 8)[:len(k.Words)], Begins: k.Begins}
		for _, row := range k.Tags {
			copied.Tags = append(copied.Tags, slices.Clone(row))
			roomy.Tags = append(roomy.Tags, append(slices.Clone(row), api.Tag{Block: 77})[:len(row)])
		}
		state := api.State{Regs: append(slices.Clone(s.Regs), 7)[:len(s.Regs)], Mem: append(slices.Clone(s.Mem), 8)[:len(s.Mem)]}
		issues, _, _ := Run(roomy, m, state, 30)
		issues = append(slices.Clone(issues), api.Issue{Cycle: -9})[:len(issues)]
		before := slices.Clone(issues[:len(issues)+1])
		Busy(issues, m)
		Hazards(issues, m)
		fine := slices.Equal(roomy.Words[:len(k.Words)+2], append(copied.Words, 7, 8)) && slices.Equal(roomy.Begins, copied.Begins) &&
			slices.Equal(state.Regs[:len(s.Regs)+1], append(slices.Clone(s.Regs), 7)) && slices.Equal(state.Mem[:len(s.Mem)+1], append(slices.Clone(s.Mem), 8)) &&
			slices.Equal(issues[:len(issues)+1], before)
		for n, row := range roomy.Tags {
			fine = fine && slices.Equal(row[:len(row)+1], append(copied.Tags[n], api.Tag{Block: 77}))
		}
		if !fine {
			t.Fatal("what was handed in was changed")
		}
	}
	// In an order that is not by cycles, too.
	for range 300 {
		l, m := chanceIssues(r), chanceTable(r)
		before := slices.Clone(l)
		Busy(l, m)
		Hazards(l, m)
		if !slices.Equal(l, before) {
			t.Fatal("the issues were changed")
		}
	}
}

func spoil[T any](l []T, with T) {
	for n := range l[:cap(l)] {
		l[:cap(l)][n] = with
	}
}

// R3: answers are the caller's own, and show nothing of what was handed in.
func TestAnswersAreTheCallersOwn(t *testing.T) {
	r := rand.New(rand.NewSource(235))
	for range 300 {
		m := chanceTable(r)
		l, s := chanceRounds(r, m), chanceState(r)
		k := packed(t, m, l)
		other, otherOut, _ := Run(k, m, s, 60)
		issues, o, _ := Run(k, m, s, 60)
		spoil(other, api.Issue{Cycle: -9})
		spoil(otherOut.Prints, -9)
		spoil(otherOut.Mem, -9)
		want := tell(l, k.Tags, m, s, 60).issues
		wantOut := outcomeOf(t, k.Words, m, s, 60)
		spoil(k.Words, 9)
		for _, row := range k.Tags {
			spoil(row, api.Tag{Block: 99})
		}
		spoil(s.Regs, -9)
		spoil(s.Mem, -9)
		if !slices.Equal(issues, want) || !same(o, wantOut) {
			t.Fatal("an answer shows what was written elsewhere")
		}
		spoil(issues, api.Issue{Cycle: -9})
		if !same(o, wantOut) {
			t.Fatal("an outcome shows what was written into the issues")
		}
	}
}

// R2: runs and counts know nothing of one another, and of how many are asked at the same time.
func TestManyAtATime(t *testing.T) {
	r := rand.New(rand.NewSource(236))
	for range 25 {
		m := chanceTable(r)
		l, s := chanceRounds(r, m), chanceState(r)
		k := packed(t, m, l)
		want, out := wantTold(t, k, l, m, s, 40)
		busy, hazards := wantCounted(t, want, m)
		var all sync.WaitGroup
		for range 8 {
			all.Go(func() {
				issues, o, e := Run(k, m, s, 40)
				if e != api.OK || !slices.Equal(issues, want) || !same(o, out) || Busy(want, m) != busy || Hazards(want, m) != hazards {
					t.Errorf("%v, %v: %v, %v, %v", l, m, issues, o, e)
				}
			})
		}
		all.Wait()
	}
}

// fuzzed answers bundles, a table, a state, how many cycles, and issues of any bytes.
func fuzzed(data []byte) ([]api.Bundle, api.Table, api.State, int, []api.Issue) {
	next := func() int {
		if len(data) == 0 {
			return 0
		}
		b := data[0]
		data = data[1:]
		return int(b)
	}
	m := api.Table{Delay: next() % 5}
	for class := range api.Classes {
		m.Units[class], m.Lat[class], m.Busy[class] = next()%9, 1+next()%8, 1+next()%4
	}
	s := api.State{Regs: make([]int64, next()%33), Mem: make([]int64, next())}
	for n := range min(8, len(s.Regs)) {
		s.Regs[n] = int64(int8(next())) << (next() % 64)
	}
	cycles := next()
	l := make([]api.Bundle, next()%16)
	var issues []api.Issue
	for n := range l {
		for range next() % 12 {
			o := opOf(1+next()%(api.Kinds-1), uint8(next()%32), uint8(next()%32), uint8(next()%32), int64(int8(next())))
			class, _ := ops.Class(o.Do)
			if class == api.Ctl && o.Imm > 16 && o.Do != api.Count {
				o.Imm %= 16
			}
			if len(issues) < 40 {
				issues = append(issues, api.Issue{Cycle: next()%24 + len(l) - 2, Op: o})
			}
			if len(l[n].Ops[class]) < m.Units[class] {
				l[n].Ops[class] = append(l[n].Ops[class], o)
			}
		}
	}
	if m.Units == [api.Classes]int{} {
		l = nil // they have no words
	}
	return l, m, s, cycles, issues
}

func FuzzGhost(f *testing.F) {
	r := rand.New(rand.NewSource(237))
	for range 40 {
		data := make([]byte, 40+r.Intn(300))
		r.Read(data)
		f.Add(data)
	}
	f.Fuzz(func(t *testing.T, data []byte) {
		l, m, s, cycles, issues := fuzzed(data)
		wantCounted(t, issues, m)
		own, _ := wantTold(t, packed(t, m, l), l, m, s, cycles)
		if len(own) < 200 {
			wantCounted(t, own, m)
		}
	})
}

// P23.1's errors told a second time, by what bundle.Decode tells.
func TestManyErrors(t *testing.T) {
	r := rand.New(rand.NewSource(238))
	found := map[api.Errno]int{}
	for range 4000 {
		m := chanceTable(r)
		k := packed(t, m, chanceBundles(r, m))
		s := api.State{Regs: make([]int64, 20), Mem: make([]int64, 200)}
		for range r.Intn(3) {
			switch r.Intn(8) {
			case 0:
				m.Lat[r.Intn(api.Classes)] = r.Intn(11) - 1
			case 1:
				m.Delay = r.Intn(8) - 1
			case 2:
				k.Words[r.Intn(len(k.Words))] ^= 1 << r.Intn(64)
			case 3:
				k.Words = append(k.Words, 0)
			case 4:
				s.Regs = make([]int64, 31+r.Intn(3))
			case 5:
				s.Mem = make([]int64, 255+r.Intn(3))
			case 6:
				k.Tags = append(k.Tags[:r.Intn(len(k.Tags)+1)], nil)
			case 7:
				at := r.Intn(len(k.Tags))
				k.Tags[at] = make([]api.Tag, r.Intn(4))
			}
		}
		l, want := bundle.Decode(k.Words, m)
		fits := len(l) == len(k.Tags) && len(s.Regs) <= 32 && len(s.Mem) <= 256
		for n := 0; fits && n < len(l); n++ {
			fits = len(slices.Concat(l[n].Ops[:]...)) == len(k.Tags[n])
		}
		if want == api.OK && !fits {
			want = api.ErrArg
		}
		if issues, o, e := Run(k, m, s, 20); want != api.OK {
			wantRefused(t, issues, o, e, want)
		} else {
			wantTold(t, k, l, m, s, 20)
		}
		found[want]++
	}
	if len(found) != 4 || min(found[api.OK], found[api.ErrTable], found[api.ErrBadBundle], found[api.ErrArg]) < 200 {
		t.Errorf("by errors %v", found)
	}
}
