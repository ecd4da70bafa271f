package race

import (
	"math"
	"math/rand"
	"reflect"
	"slices"
	"sync"
	"testing"

	"hayloft/api"
	"hayloft/modulo"
	"hayloft/ops"
	"hayloft/program"
)

// opOf answers an operation of a program of that kind, with those of the fields that count with it.
func opOf(do int, d, a, b uint8, imm int64) api.Op {
	switch do {
	case api.Const:
		return api.Op{Do: int8(do), D: d, Imm: imm}
	case api.Move:
		return api.Op{Do: int8(do), D: d, A: a}
	case api.Load:
		return api.Op{Do: int8(do), D: d, A: a, Imm: imm}
	case api.Store:
		return api.Op{Do: int8(do), A: a, B: b, Imm: imm}
	case api.Print:
		return api.Op{Do: int8(do), A: a}
	}
	return api.Op{Do: int8(do), D: d, A: a, B: b}
}

func with(b api.Block, l ...api.Op) api.Block {
	b.Ops = l
	return b
}

func branches(a uint8, then, orElse int) api.Block {
	return api.Block{End: api.EndBranch, A: a, Then: then, Else: orElse}
}

func halts(a uint8) api.Block { return api.Block{End: api.EndHalt, A: a} }

func loops(a uint8, then int, body ...api.Op) api.Block {
	return api.Block{End: api.EndLoop, A: a, Body: body, Then: then}
}

// chanceOps answers at most as many operations of a program that has as many registers.
func chanceOps(r *rand.Rand, registers, most int) []api.Op {
	var l []api.Op
	register := func() uint8 { return uint8(r.Intn(registers)) }
	for range r.Intn(most + 1) {
		do := api.Const + r.Intn(api.Print+3)
		imm := int64(r.Intn(9) - 2)
		if do > api.Print { // more of these than of others
			do = api.Load + do%3
		}
		if do == api.Load || do == api.Store {
			imm += 256 * int64(r.Intn(3)-1)
		}
		if (do == api.Divide || do == api.Rest) && r.Intn(2) == 0 {
			do = api.Add + r.Intn(10)
		}
		l = append(l, opOf(do, register(), register(), register(), imm))
	}
	return l
}

// chanceProgram answers a program of any blocks; half of the time most of its turns go on to later ones.
func chanceProgram(r *rand.Rand) api.Program {
	count, registers, onward := 1+r.Intn(7), 3+r.Intn(29), r.Intn(2) == 0
	most := []int{3, 7, 14}[r.Intn(3)]
	var p api.Program
	for n := range count {
		to := func() int {
			if onward && n < count-1 && r.Intn(5) > 0 {
				return n + 1 + r.Intn(count-1-n)
			}
			return r.Intn(count)
		}
		a := uint8(r.Intn(registers))
		b := [5]api.Block{{End: api.EndJump, Then: to()}, branches(a, to(), to()), halts(a), loops(a, to(), chanceOps(r, registers, most)...), loops(a, to(), chanceOps(r, registers, 3)...)}[r.Intn(5)]
		p.Blocks = append(p.Blocks, with(b, chanceOps(r, registers, most)...))
	}
	if onward {
		p.Blocks[count-1] = with(halts(uint8(r.Intn(registers))), p.Blocks[count-1].Ops...)
	}
	return p
}

// chanceForks answers a program of branches to blocks that begin with what could be done early; half of the time some of it is come to again
// and again.
func chanceForks(r *rand.Rand) api.Program {
	var p api.Program
	count, registers := 3+r.Intn(6), 8+r.Intn(24)
	for n := range count {
		var l []api.Op
		for range r.Intn(3) {
			l = append(l, opOf(api.Const+r.Intn(api.Times), uint8(r.Intn(registers)), uint8(r.Intn(registers)), uint8(r.Intn(registers)), 3))
		}
		l = append(l, chanceOps(r, registers, 4)...)
		b := loops(uint8(r.Intn(registers)), min(n+1, count-1), chanceOps(r, registers, 4)...)
		if n < count-1 && r.Intn(4) > 0 {
			b = branches(uint8(r.Intn(registers)), n+1, n+1+r.Intn(count-1-n))
			if r.Intn(2) == 0 {
				b.Else = count - 1
			}
		}
		p.Blocks = append(p.Blocks, with(b, l...))
	}
	p.Blocks[count-1] = with(halts(uint8(r.Intn(registers))), p.Blocks[count-1].Ops...)
	if back := 1 + r.Intn(count-1); back < count-1 && r.Intn(2) == 0 { // a register less each time that it goes back to the first block
		p.Blocks[back] = with(branches(0, 0, count-1), opOf(api.Const, 1, 0, 0, 1), opOf(api.Sub, 0, 0, 1, 0))
	}
	return p
}

// chanceTable answers a table; half of the time of few units, a third of the time of results that land soon, so that there is room behind a branch.
func chanceTable(r *rand.Rand) api.Table {
	m := api.Table{Delay: r.Intn(api.MaxDelay + 1)}
	most := 1 + r.Intn(api.MaxUnits)
	if r.Intn(2) == 0 {
		most = 1
	}
	lat, busy := api.MaxLatency, api.MaxBusy
	if r.Intn(3) == 0 {
		lat, busy = 3, 2
	}
	for class := range api.Classes {
		m.Units[class], m.Lat[class], m.Busy[class] = 1+r.Intn(most), 1+r.Intn(lat), 1+r.Intn(busy)
	}
	return m
}

// bare answers a table without the units that a program does not need.
func bare(p api.Program, m api.Table) api.Table {
	for class := range api.Classes {
		less := m
		less.Units[class] = 0
		if program.Needs(p, less) == api.OK {
			m = less
		}
	}
	return m
}

// chanceState answers a state of small numbers, so that loops are of few rounds; now and then some are great, or missing.
func chanceState(r *rand.Rand) api.State {
	s := api.State{Regs: make([]int64, api.Registers), Mem: make([]int64, api.Cells)}
	for n := range s.Regs {
		s.Regs[n] = int64(r.Intn(12) - 2)
		if r.Intn(5) == 0 {
			s.Regs[n] = 0
		}
		if r.Intn(40) == 0 {
			s.Regs[n] = []int64{math.MinInt64, math.MaxInt64, 1 << 40, -1 << 32, 200}[r.Intn(5)]
		}
	}
	for n := range s.Mem {
		s.Mem[n] = int64(r.Intn(7) - 2)
	}
	if r.Intn(6) == 0 {
		s.Regs, s.Mem = s.Regs[:r.Intn(33)], s.Mem[:r.Intn(257)]
	}
	return s
}

// early answers whether some of its operations are done early.
func (c course) early() bool {
	for _, row := range c.k.Tags {
		if slices.ContainsFunc(row, func(tag api.Tag) bool { return tag.Spec }) {
			return true
		}
	}
	return false
}

// someOf answers numbers from 0 to one more than a run has, the last ones among them; and one that is less than any.
func someOf(r *rand.Rand, whole int) []int {
	l := []int{-1 - r.Intn(5), 0, 1, whole - 1, whole, whole + 1}
	for range 6 {
		l = append(l, r.Intn(whole+2))
	}
	return l
}

// wantAgreement says that both agree behind any steps and any cycles, and that where the one has ended so has the other one, if cycles are as many
// as there are bundles for each step, and for one more; and answers how the program ends, if it does within some hundred steps.
func (c course) wantAgreement(t testing.TB, r *rand.Rand, s api.State) api.Errno {
	t.Helper()
	const most = 300
	a, b := c.want(t, s, most, most)
	if a.E != api.ErrFuel {
		b = c.wantEnd(t, s, a)
	}
	ones, many := []api.Outcome{a}, []api.Outcome{b}
	lefts, rights := someOf(r, a.Steps), someOf(r, b.Steps)
	for n := range lefts {
		a, b := c.alone(t, s, lefts[n], rights[n])
		ones, many = append(ones, a), append(many, b)
	}
	for _, a := range ones {
		for _, b := range many {
			c.wantAgree(t, s, a, b)
		}
	}
	c.want(t, s, lefts[r.Intn(len(lefts))], rights[r.Intn(len(rights))])
	return a.E
}

// wantEnd says that where the program ends so, the packed one does in as many cycles as the chapter tells; and answers what it tells.
func (c course) wantEnd(t testing.TB, s api.State, a api.Outcome) api.Outcome {
	t.Helper()
	limit := len(c.k.Tags) * (a.Steps + 1)
	if limit > api.MaxSteps {
		t.Fatalf("%d bundles, %d steps", len(c.k.Tags), a.Steps)
	}
	again, b := c.want(t, s, a.Steps, limit)
	if !same(a, again) || b.E != a.E || b.Value != a.Value || !slices.Equal(b.Prints, a.Prints) || !slices.Equal(b.Mem, a.Mem) || b.Steps > limit {
		t.Fatalf("%v, %v, %v: %s behind %d cycles, want %s", c.p, c.m, s, told(b), limit, told(a))
	}
	return b
}

// P24.3, P24.4.
func TestManyPrograms(t *testing.T) {
	r := rand.New(rand.NewSource(24))
	ended := map[api.Errno]int{}
	for range 700 {
		p := chanceProgram(r)
		m := chanceTable(r)
		if r.Intn(3) == 0 {
			m = bare(p, m)
		}
		ended[courseOf(t, p, m).wantAgreement(t, r, chanceState(r))]++
	}
	if len(ended) != 3 || min(ended[api.OK], ended[api.ErrDivide], ended[api.ErrFuel]) < 100 {
		t.Errorf("by ends %v", ended)
	}
}

// P24.3, P24.4 of operations that are done early, whichever way is taken.
func TestManyForks(t *testing.T) {
	r := rand.New(rand.NewSource(241))
	ended := map[api.Errno]int{}
	for range 500 {
		m := chanceTable(r)
		for class := range api.Classes { // there must be room behind a branch
			m.Lat[class], m.Busy[class] = min(m.Lat[class], 3), min(m.Busy[class], 2)
		}
		c := courseOf(t, chanceForks(r), m)
		if !c.early() {
			continue
		}
		for range 3 {
			ended[c.wantAgreement(t, r, chanceState(r))]++
		}
	}
	if min(ended[api.OK], ended[api.ErrDivide]) < 60 || ended[api.ErrFuel] < 30 {
		t.Errorf("with what is done early, by ends %v", ended)
	}
}

// P2: loops of any number of rounds, one behind the other, none and fewer than overlap too, with and without a trap in the midst of them.
func TestAnyRounds(t *testing.T) {
	p := read(t, "const r5 1, branch r31 1 3",
		"add r6 r5 r5, loop r31 {, load r1 r2 0, times r4 r1 r1, add r7 r4 r4, add r3 r3 r7, add r2 r2 r5, print r7, }, jump 2",
		"loop r30 {, times r4 r3 r1, add r2 r2 r5, store r2 r4 100, print r4, }, jump 3",
		"print r1, print r2, print r3, print r4, halt r3")
	trap := read(t, "loop r31 {, add r7 r7 r8, divide r9 r5 r7, load r1 r2 0, add r3 r3 r1, add r2 r2 r5, print r3, }, jump 1", "halt r3")
	r := rand.New(rand.NewSource(242))
	overlap := 0
	for range 15 {
		m, s := chanceTable(r), chanceState(r)
		m.Busy = [api.Classes]int{1, 1, 1, 1}
		s.Regs, s.Mem = append(s.Regs, make([]int64, 32)...)[:32], nil
		if plan, _ := modulo.Find(p.Blocks[1].Body, m); plan.Stages > 1 {
			overlap++
		}
		halts, traps := courseOf(t, p, m), courseOf(t, trap, m)
		for rounds := int64(-2); rounds < 14; rounds++ {
			s.Regs[31], s.Regs[30] = rounds, 9-rounds
			if e := halts.wantAgreement(t, r, s); e != api.OK {
				t.Fatal(m, s, e)
			}
			s.Regs[5], s.Regs[7], s.Regs[8] = 6, -5, 1 // the fifth round traps
			want := api.OK
			if rounds >= 5 {
				want = api.ErrDivide
			}
			if e := traps.wantAgreement(t, r, s); e != want {
				t.Fatal(m, s, e)
			}
		}
		s.Regs[31], s.Regs[30] = math.MinInt64, 2
		if e := halts.wantAgreement(t, r, s); e != api.OK {
			t.Fatal(m, s, e)
		}
		s.Regs[31], s.Regs[30] = math.MaxInt64, 2
		if e := halts.wantAgreement(t, r, s); e != api.ErrFuel {
			t.Fatal(m, s, e)
		}
	}
	if overlap < 8 {
		t.Errorf("rounds overlap under %d tables", overlap)
	}
}

// chain answers a body in which each operation waits for the one ahead; a third of the time some do for one of an earlier round, too.
func chain(r *rand.Rand, count int) []api.Op {
	kinds := []int{api.Add, api.Sub, api.Times, api.Xor}
	sort := r.Intn(3)
	if sort > 0 {
		kinds = append(kinds, api.Load, api.Print, api.Or)
	}
	if sort > 1 {
		kinds = append(kinds, api.Store)
	}
	var l []api.Op
	for n := range count {
		to := uint8(1 + n%29)
		do := kinds[r.Intn(len(kinds))]
		other := uint8(30)
		if sort > 1 && r.Intn(9) == 0 {
			other = uint8(r.Intn(30))
		}
		l = append(l, opOf(do, to, to-1, other, int64(n)))
	}
	return l
}

// Bodies up to as many operations as may overlap, and longer ones, of as many rounds as overlap, fewer and more.
func TestLongBodies(t *testing.T) {
	r := rand.New(rand.NewSource(243))
	most := 0
	for range 6 {
		for _, count := range []int{12, 28, 29, api.MaxBody, api.MaxBody + 1, 100} {
			m := chanceTable(r)
			m.Units, m.Busy = [api.Classes]int{8, 8, 8, 1}, [api.Classes]int{1, 1, 1, 1}
			m.Lat[api.Mul] = m.Lat[api.Alu] // so that more rounds overlap
			c := courseOf(t, api.Program{Blocks: []api.Block{loops(31, 1, chain(r, count)...), halts(uint8(count % 30))}}, m)
			plan, _ := modulo.Find(c.p.Blocks[0].Body, m)
			most = max(most, plan.Stages)
			s := chanceState(r)
			s.Regs = append(s.Regs, make([]int64, 32)...)[:32]
			for _, rounds := range []int{0, 1, plan.Stages - 1, plan.Stages, plan.Stages + 1, 2*plan.Stages + 3} {
				s.Regs[31] = int64(rounds)
				a, _ := c.alone(t, s, api.MaxSteps, 0)
				if a.E != api.OK {
					t.Fatal(m, rounds, told(a))
				}
				c.wantEnd(t, s, a)
			}
		}
	}
	if most < 15 {
		t.Errorf("at most %d rounds overlap", most)
	}
}

// P24.4 as far as it goes: as many rounds as let bundles and steps come to just below MaxSteps together.
func TestLongRuns(t *testing.T) {
	p := read(t, "loop r1 {, load r4 r2 0, add r3 r3 r4, store r2 r3 0, add r2 r2 r5, }, jump 1", "print r3, halt r3")
	for _, m := range tables() {
		c := courseOf(t, p, m)
		rounds := (api.MaxSteps/len(c.k.Tags) - 4) / 5
		s := regs(0, int64(rounds), 0, 0, 0, 1)
		s.Mem = cells(1, -2, 3)
		a, b := c.want(t, s, math.MaxInt, api.MaxSteps)
		if a.E != api.OK || a.Steps != 5*rounds+3 || b.E != api.OK || a.Value != b.Value {
			t.Errorf("%v: %s; %s", m, told(a), told(b))
		}
		c.wantEnd(t, s, a)
	}
}

// A program of as many blocks and operations as there can be.
func TestTheGreatestProgram(t *testing.T) {
	r := rand.New(rand.NewSource(244))
	var p api.Program
	for n := range api.MaxBlocks - 1 {
		var l []api.Op
		for len(l) < 6 {
			l = append(l, chanceOps(r, 32, 6-len(l))...)
		}
		b := branches(uint8(r.Intn(32)), n+1, min(n+2, api.MaxBlocks-1))
		if n%9 == 0 {
			b = loops(uint8(r.Intn(32)), n+1, l[5])
			l = l[:5]
		}
		p.Blocks = append(p.Blocks, with(b, l...))
	}
	p.Blocks = append(p.Blocks, halts(3))
	rest := api.MaxOps - program.Ops(p)
	p.Blocks[api.MaxBlocks-1].Ops = slices.Repeat([]api.Op{opOf(api.Print, 0, 3, 0, 0)}, rest)
	if program.Ops(p) != api.MaxOps {
		t.Fatal(program.Ops(p))
	}
	s := api.State{Regs: slices.Repeat([]int64{3}, 32), Mem: slices.Repeat([]int64{2}, 256)}
	a, b := courseOf(t, p, chanceTable(r)).want(t, s, api.MaxSteps, api.MaxSteps)
	if a.E == api.ErrFuel || b.E != a.E {
		t.Fatal(told(a), told(b))
	}
}

// roomy answers a list with room behind its end.
func roomy[T any](l []T, behind T) []T {
	return append(slices.Clone(l), behind, behind)[:len(l)]
}

// whole answers a list with all that stands in the room behind its end.
func whole[T any](l []T) []T { return l[:cap(l)] }

// roomyProgram answers a program all whose lists have room behind their ends.
func roomyProgram(p api.Program) api.Program {
	list := roomy(p.Blocks, api.Block{A: 99})
	for n, b := range list {
		list[n].Ops, list[n].Body = roomy(b.Ops, api.Op{Do: 77}), roomy(b.Body, api.Op{Do: 77})
	}
	return api.Program{Blocks: list}
}

// wholeProgram answers a copy of all lists of a program, to the ends of their rooms.
func wholeProgram(p api.Program) []api.Block {
	list := slices.Clone(whole(p.Blocks))
	for n, b := range list {
		list[n].Ops, list[n].Body = slices.Clone(whole(b.Ops)), slices.Clone(whole(b.Body))
	}
	return list
}

func spoil[T any](l []T, with T) {
	for n := range whole(l) {
		whole(l)[n] = with
	}
}

// R3: what is handed in is not changed and not kept; what is handed out is the caller's own, and no two lists of it share anything.
func TestArgumentsAndAnswersShareNothing(t *testing.T) {
	r := rand.New(rand.NewSource(245))
	for range 500 {
		p, m, s := roomyProgram(chanceProgram(r)), chanceTable(r), chanceState(r)
		s = api.State{Regs: roomy(s.Regs, 99), Mem: roomy(s.Mem, 99)}
		blocks, registers, cells := wholeProgram(p), slices.Clone(whole(s.Regs)), slices.Clone(whole(s.Mem))
		stays := func(when string) {
			t.Helper()
			if !reflect.DeepEqual(wholeProgram(p), blocks) || !slices.Equal(whole(s.Regs), registers) || !slices.Equal(whole(s.Mem), cells) {
				t.Fatalf("what was handed in was changed %s", when)
			}
		}
		steps, cycles := r.Intn(200), r.Intn(600)
		a, b := wantBoth(t, p, m, s, steps, cycles)
		stays("by Both")
		again, wideAgain, _ := Both(p, m, s, steps, cycles)
		for n, l := range [][]int64{a.Prints, a.Mem, b.Prints, b.Mem} {
			spoil(l, -99)
			stays("by an answer")
			if now := [][]int64{a.Prints, a.Mem, b.Prints, b.Mem}; slices.ContainsFunc(now[n+1:], func(l []int64) bool { return slices.Contains(l, -99) }) {
				t.Fatal("lists of one answer share something")
			}
		}
		one, many := courseOf(t, p, m).alone(t, s, steps, cycles)
		if !same(again, one) || !same(wideAgain, many) {
			t.Fatal("an answer shows what was written into another one")
		}
		for _, b := range whole(p.Blocks) {
			spoil(b.Ops, api.Op{Do: 66})
			spoil(b.Body, api.Op{Do: 66})
		}
		spoil(p.Blocks, api.Block{A: 66})
		spoil(s.Regs, 66)
		spoil(s.Mem, 66)
		if !same(again, one) || !same(wideAgain, many) {
			t.Fatal("an answer shows what was written into what was handed in")
		}
	}
}

// R2: what is asked at the same time, or ahead of it, changes nothing.
func TestManyRacesAtATime(t *testing.T) {
	r := rand.New(rand.NewSource(246))
	for range 30 {
		p, m, s := chanceProgram(r), chanceTable(r), chanceState(r)
		a, b := wantBoth(t, p, m, s, 200, 600)
		var all sync.WaitGroup
		for range 8 {
			all.Go(func() {
				one, many, e := Both(p, m, s, 200, 600)
				if e != api.OK || !same(one, a) || !same(many, b) || !Agree(one, many) {
					t.Errorf("%v, %v: %s; %s, want %s; %s", p, m, told(one), told(many), told(a), told(b))
				}
			})
		}
		all.Wait()
	}
}

// fuzzed answers a program, a table, a state, steps and cycles of any bytes; mostly they are let in.
func fuzzed(data []byte) (p api.Program, m api.Table, s api.State, steps, cycles int) {
	next := func() int {
		if len(data) == 0 {
			return 0
		}
		b := data[0]
		data = data[1:]
		return int(b)
	}
	m.Delay = next() % 6
	for class := range api.Classes {
		m.Units[class], m.Lat[class], m.Busy[class] = next()%9, 1+next()%8, 1+next()%4
	}
	steps, cycles = next(), next()*4
	s = api.State{Regs: make([]int64, next()%36), Mem: make([]int64, next()+10)}
	for n := range min(8, len(s.Regs)) {
		s.Regs[n] = int64(int8(next())) % 16
	}
	for n := range min(8, len(s.Mem)) {
		s.Mem[n] = int64(int8(next()))
	}
	operations := func() []api.Op {
		var l []api.Op
		for range next() % 12 {
			do := next()
			if do < 253 { // all else is none of a program
				do = api.Const + do%api.Print
			}
			l = append(l, opOf(do, uint8(next()%9), uint8(next()%9), uint8(next()%9), int64(int8(next()))))
		}
		return l
	}
	count := 1 + next()%6
	for range count {
		end := next()
		b := api.Block{Ops: operations(), End: int8(end % 4), Then: next() % count}
		switch {
		case end > 250: // with fields that do not count, or count
			b = api.Block{Ops: b.Ops, End: int8(end - 251), A: uint8(next() % 34), Then: next() % (count + 1), Else: next() % 2}
		case b.End == api.EndJump:
		case b.End == api.EndBranch:
			b.A, b.Else = uint8(next()%9), next()%count
		case b.End == api.EndHalt:
			b.A, b.Then = uint8(next()%9), 0
		case b.End == api.EndLoop:
			b.A, b.Body = uint8(next()%9), operations()
		}
		p.Blocks = append(p.Blocks, b)
	}
	return p, m, s, steps, cycles
}

// wantError answers what Both refuses, told a second time.
func wantError(p api.Program, m api.Table, s api.State) api.Errno {
	if e := program.Needs(p, m); e != api.OK {
		return e
	}
	if len(s.Regs) > api.Registers || len(s.Mem) > api.Cells {
		return api.ErrArg
	}
	return api.OK
}

func wantFuzzed(t testing.TB, data []byte) api.Errno {
	t.Helper()
	p, m, s, steps, cycles := fuzzed(data)
	want := wantError(p, m, s)
	a, b, e := Both(p, m, s, steps, cycles)
	if e != want || e != api.OK && (!zero(a) || !zero(b)) {
		t.Fatalf("%v, %v, %v: %s; %s; %v, want %v", p, m, s, told(a), told(b), e, want)
	}
	if e == api.OK {
		c := courseOf(t, p, m)
		c.want(t, s, steps, cycles)
		c.wantAgreement(t, rand.New(rand.NewSource(int64(steps))), s)
	}
	return e
}

func chanceBytes(r *rand.Rand) []byte {
	data := make([]byte, 60+r.Intn(300))
	r.Read(data)
	return data
}

// P24.1's errors, and what is told where there is none.
func TestManyErrors(t *testing.T) {
	r := rand.New(rand.NewSource(247))
	found := map[api.Errno]int{}
	for range 1000 {
		found[wantFuzzed(t, chanceBytes(r))]++
	}
	if min(found[api.OK], found[api.ErrTable], found[api.ErrNoUnit], found[api.ErrArg], found[api.ErrOp], found[api.ErrProgram]) < 20 {
		t.Errorf("by errors %v", found)
	}
}

func FuzzRace(f *testing.F) {
	r := rand.New(rand.NewSource(248))
	for range 40 {
		f.Add(chanceBytes(r))
	}
	f.Fuzz(func(t *testing.T, data []byte) { wantFuzzed(t, data) })
}

// Of all kinds some stand in the programs that are made by chance.
func TestChanceOpsAreOperations(t *testing.T) {
	r := rand.New(rand.NewSource(249))
	found := map[int8]int{}
	for range 300 {
		for _, o := range chanceOps(r, 32, 20) {
			if e := ops.Check(o); e != api.OK {
				t.Fatal(o, e)
			}
			found[o.Do]++
		}
	}
	if len(found) != api.Print {
		t.Error(found)
	}
}
