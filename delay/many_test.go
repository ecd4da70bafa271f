package delay

import (
	"math"
	"math/rand"
	"reflect"
	"slices"
	"testing"

	"hayloft/api"
	"hayloft/flow"
	"hayloft/list"
	"hayloft/live"
	"hayloft/ops"
	"hayloft/program"
	"hayloft/serial"
	"hayloft/table"
)

// leadTold answers how many cycles from a block's beginning a unit of Ctl may be busy yet, counted out: the end of the
// block ahead is issued in the cycle 0, and keeps it busy from there on.
func leadTold(m api.Table) int {
	cycle := 1 + m.Delay
	for cycle < m.Busy[api.Ctl] {
		cycle++
	}
	return cycle - 1 - m.Delay
}

// drainedTold answers whether by that cycle everything has landed, and no unit is busy.
func drainedTold(l []api.Op, m api.Table, cycles []int, by int) bool {
	for n, o := range l {
		class, _ := ops.Class(o.Do)
		if cycles[n]+m.Lat[class] > by || cycles[n]+m.Busy[class] > by {
			return false
		}
	}
	return true
}

// flyingTold answers whether in that cycle a result to the register is in flight yet, or not issued.
func flyingTold(l []api.Op, m api.Table, cycles []int, register uint8, cycle int) bool {
	for n, o := range l {
		class, _ := ops.Class(o.Do)
		if d, ok := ops.Writes(o); ok && d == register && cycle < cycles[n]+m.Lat[class] {
			return true
		}
	}
	return false
}

// landedTold answers whether in that cycle all that was issued has landed, stores too.
func landedTold(l []api.Op, m api.Table, cycles []int, cycle int) bool {
	for n, o := range l {
		if class, _ := ops.Class(o.Do); cycle < cycles[n]+m.Lat[class] {
			return false
		}
	}
	return true
}

// endTold looks for what End answers cycle by cycle, by the chapter's words.
func endTold(b api.Block, m api.Table, cycles []int) (at, length int, e api.Errno) {
	if e := table.Check(m); e != api.OK {
		return 0, 0, e
	}
	if m.Units[api.Ctl] < 1 {
		return 0, 0, api.ErrNoUnit
	}
	if b.End < 0 || b.End > 3 || b.End > 0 && b.A > 31 {
		return 0, 0, api.ErrProgram
	}
	if !list.Check(b.Ops, m, cycles) {
		return 0, 0, api.ErrCycles
	}
	for length = 0; ; length++ {
		at = length - 1 - m.Delay
		late := at >= leadTold(m)
		switch {
		case b.End == api.EndLoop && drainedTold(b.Ops, m, cycles, length):
			return -1, length, api.OK
		case b.End == api.EndJump && late && drainedTold(b.Ops, m, cycles, length),
			b.End == api.EndBranch && late && drainedTold(b.Ops, m, cycles, length) && !flyingTold(b.Ops, m, cycles, b.A, at):
			return at, length, api.OK
		case b.End == api.EndHalt && length > leadTold(m) && landedTold(b.Ops, m, cycles, length-1):
			return length - 1, length, api.OK
		}
	}
}

// wantTold says that End answers what is told a second time, and hands it out.
func wantTold(t testing.TB, b api.Block, m api.Table, cycles []int) (at, length int, e api.Errno) {
	t.Helper()
	at, length, e = End(b, m, cycles)
	if wantAt, wantLength, want := endTold(b, m, cycles); at != wantAt || length != wantLength || e != want {
		t.Fatalf("End(%v, %v, %v) is %d, %d, %v, want %d, %d, %v", b, m, cycles, at, length, e, wantAt, wantLength, want)
	}
	return at, length, e
}

// chanceOp answers an operation of a program that has as many registers, of few cells.
func chanceOp(r *rand.Rand, registers int) api.Op {
	register := func() uint8 { return uint8(r.Intn(registers)) }
	imm := int64(r.Intn(4) + 256*r.Intn(3) - 256)
	switch do := int8(api.Const + r.Intn(api.Print)); do {
	case api.Const:
		return consts(register(), imm)
	case api.Move:
		return moves(register(), register())
	case api.Load:
		return loads(register(), register(), imm)
	case api.Store:
		return stores(register(), register(), imm)
	case api.Print:
		return prints(register())
	default:
		return api.Op{Do: do, D: register(), A: register(), B: register()}
	}
}

// chanceList answers a list of fewer than most.
func chanceList(r *rand.Rand, registers, most int) []api.Op {
	var l []api.Op
	for range r.Intn(most) {
		l = append(l, chanceOp(r, registers))
	}
	return l
}

// chanceBlock answers a block, half of them of so few registers that their ends' are written often.
func chanceBlock(r *rand.Rand, most int) api.Block {
	registers := 1 + r.Intn(6)
	if r.Intn(2) == 0 {
		registers = api.Registers
	}
	b := with(api.Block{End: int8(r.Intn(4))}, chanceList(r, registers, most)...)
	if b.End != api.EndJump {
		b.A = uint8(r.Intn(registers))
	}
	return b
}

// chanceTable answers a table that has a unit of each class.
func chanceTable(r *rand.Rand) api.Table {
	m := api.Table{Delay: r.Intn(api.MaxDelay + 1)}
	most := 1 + r.Intn(api.MaxUnits)
	for class := range api.Classes {
		m.Units[class], m.Lat[class], m.Busy[class] = 1+r.Intn(most), 1+r.Intn(api.MaxLatency), 1+r.Intn(api.MaxBusy)
	}
	return m
}

// chanceCycles answers cycles that list.Check takes: the list's own, or with cycles in between in which nothing is issued.
func chanceCycles(t testing.TB, r *rand.Rand, l []api.Op, m api.Table) []int {
	t.Helper()
	cycles, e := list.Cycles(l, m)
	if e != api.OK {
		t.Fatal(l, m, e)
	}
	for range r.Intn(3) {
		from, by := r.Intn(8), r.Intn(6)
		for n := range cycles {
			if cycles[n] >= from {
				cycles[n] += by
			}
		}
	}
	return cycles
}

func TestManyBlocks(t *testing.T) {
	r := rand.New(rand.NewSource(18))
	leads, waits := map[int]int{}, 0
	for range 12000 {
		b, m := chanceBlock(r, 10), chanceTable(r)
		cycles := chanceCycles(t, r, b.Ops, m)
		at, length, e := wantTold(t, b, m, cycles)
		if e != api.OK {
			t.Fatal(b, m, cycles, e)
		}
		leads[leadTold(m)]++
		if b.End <= api.EndBranch && length != at+1+m.Delay {
			t.Fatal(b, m, cycles, at, length)
		}
		if b.End == api.EndBranch && !drainedTold(b.Ops, m, cycles, at) {
			waits++
		}
	}
	if min(leads[0], leads[1], leads[2], leads[3]) < 200 || waits < 500 {
		t.Errorf("leads %v; %d branches ahead of their block's drain", leads, waits)
	}
}

// What may be handed in as it likes: tables, ends, registers and cycles that are none.
func TestManyErrors(t *testing.T) {
	r := rand.New(rand.NewSource(181))
	errors := map[api.Errno]int{}
	for range 12000 {
		b, m := chanceBlock(r, 6), chanceTable(r)
		cycles := chanceCycles(t, r, b.Ops, m)
		for range r.Intn(3) {
			switch r.Intn(8) {
			case 0:
				m.Lat[r.Intn(api.Classes)] = r.Intn(11) - 1
			case 1:
				m.Units[r.Intn(api.Classes)] = 0
			case 2:
				b.End = int8(r.Intn(8) - 2)
			case 3:
				b.A = uint8(30 + r.Intn(4))
			case 4:
				cycles = append(cycles, r.Intn(30))
			case 5:
				cycles = cycles[:r.Intn(len(cycles)+1)]
			case 6:
				if len(cycles) > 0 {
					cycles[r.Intn(len(cycles))] += r.Intn(9) - 4
				}
			case 7:
				if len(b.Ops) > 0 {
					b.Ops[r.Intn(len(b.Ops))].Do = int8(r.Intn(28) - 2)
				}
			}
		}
		_, _, e := wantTold(t, b, m, cycles)
		errors[e]++
	}
	if len(errors) != 5 || min(errors[api.OK], errors[api.ErrTable], errors[api.ErrNoUnit], errors[api.ErrProgram], errors[api.ErrCycles]) < 100 {
		t.Errorf("by errors %v", errors)
	}
}

// Every end behind every two of these operations, in all cycles up to some.
func TestAllShortBlocks(t *testing.T) {
	few := []api.Op{consts(1, 8), adds(2, 1, 1), multiplies(1, 2, 2), loads(0, 2, 3), stores(1, 2, 3), prints(0)}
	const upTo = 6
	for busyCtl := 1; busyCtl <= api.MaxBusy; busyCtl++ {
		for delay := range api.MaxDelay + 1 {
			m := delayed(busy(lats(units(example(), 2, 1, 1, 1), 1, 3, 2, 1), 2, 1, 3, busyCtl), delay)
			for _, b := range ends() {
				for a := range uint8(3) {
					b.A = a
					for n := range len(few) * len(few) {
						b.Ops = []api.Op{few[n/len(few)], few[n%len(few)]}
						for k := range upTo * upTo {
							wantTold(t, b, m, []int{k / upTo, k % upTo})
						}
					}
				}
			}
		}
	}
}

// flight is a result or a store that was issued.
type flight struct {
	lands, issued int
	o             api.Op
	value         int64
	cell          uint8
}

// pipes is a machine that issues operations in their cycles and waits for nothing, as chapter 22 tells it.
type pipes struct {
	regs   [api.Registers]int64
	mem    [api.Cells]int64
	flying []flight
}

// land writes all that lands in that cycle, in the order in which it was issued.
func (p *pipes) land(cycle int) {
	slices.SortStableFunc(p.flying, func(a, b flight) int { return a.issued - b.issued })
	for _, f := range p.flying {
		switch {
		case f.lands != cycle:
		case f.o.Do == api.Store:
			p.mem[f.cell] = f.value
		default:
			p.regs[f.o.D] = f.value
		}
	}
	p.flying = slices.DeleteFunc(p.flying, func(f flight) bool { return f.lands == cycle })
}

// issue begins an operation with what registers and cells hold; false where it traps.
func (p *pipes) issue(o api.Op, cycle, lat int) bool {
	f := flight{lands: cycle + lat, issued: cycle, o: o, cell: uint8(p.regs[o.A] + o.Imm)}
	switch o.Do {
	case api.Print:
		return true
	case api.Const:
		f.value = o.Imm
	case api.Load:
		f.value = p.mem[f.cell]
	case api.Store:
		f.value = p.regs[o.B]
	default:
		value, e := ops.Reckon(o.Do, p.regs[o.A], p.regs[o.B])
		if e != api.OK {
			return false
		}
		f.value = value
	}
	p.flying = append(p.flying, f)
	return true
}

// run issues a block from a cycle on up to the cycle that is behind it by until; false where it traps.
func (p *pipes) run(b api.Block, m api.Table, cycles []int, from, until int) bool {
	for cycle := from; ; cycle++ {
		p.land(cycle)
		if cycle == from+until {
			return true
		}
		for n, o := range b.Ops {
			class, _ := ops.Class(o.Do)
			if cycles[n] == cycle-from && !p.issue(o, cycle, m.Lat[class]) {
				return false
			}
		}
	}
}

func chanceState(r *rand.Rand) api.State {
	s := api.State{Regs: make([]int64, api.Registers), Mem: make([]int64, api.Cells)}
	for n := range s.Regs {
		if s.Regs[n] = int64(r.Intn(9) - 3); r.Intn(2) == 0 {
			s.Regs[n] = 0
		}
	}
	for n := range s.Mem {
		s.Mem[n] = int64(r.Intn(7) - 2)
	}
	return s
}

// serially answers what registers and cells hold behind the block's Ops; false where they trap.
func serially(t testing.TB, l []api.Op, s api.State) (api.State, bool) {
	t.Helper()
	one, e := serial.New(of(with(halts(0), l...)), s)
	if e != api.OK {
		t.Fatal(l, e)
	}
	o := one.Run(len(l) + 1)
	return one.State(), o.E == api.OK
}

// P18.3, P5 and P1: what stands in A in the cycle at is what the block's Ops made of it; behind length nothing is in flight.
func TestWhatTheEndReads(t *testing.T) {
	r := rand.New(rand.NewSource(183))
	ran, changed := 0, 0
	for range 12000 {
		b, m, s := chanceBlock(r, 9), chanceTable(r), chanceState(r)
		cycles := chanceCycles(t, r, b.Ops, m)
		want, goesOn := serially(t, b.Ops, s)
		if !goesOn {
			continue
		}
		at, length, e := End(b, m, cycles)
		if e != api.OK {
			t.Fatal(b, m, cycles, e)
		}
		ran++
		if at >= 0 {
			early := pipes{regs: [api.Registers]int64(s.Regs), mem: [api.Cells]int64(s.Mem)}
			early.run(b, m, cycles, 0, at)
			if b.End != api.EndJump && early.regs[b.A] != want.Regs[b.A] {
				t.Fatalf("%v, %v, %v: in cycle %d r%d is %d, want %d", b, m, cycles, at, b.A, early.regs[b.A], want.Regs[b.A])
			}
			if b.End == api.EndHalt && !slices.Equal(early.mem[:], want.Mem) {
				t.Fatalf("%v, %v, %v: in cycle %d another memory", b, m, cycles, at)
			}
		}
		whole := pipes{regs: [api.Registers]int64(s.Regs), mem: [api.Cells]int64(s.Mem)}
		whole.run(b, m, cycles, 0, length)
		if len(whole.flying) > 0 || !slices.Equal(whole.regs[:], want.Regs) || !slices.Equal(whole.mem[:], want.Mem) {
			t.Fatalf("%v, %v, %v: behind %d cycles %v, in flight %v, want %v", b, m, cycles, length, whole.regs, whole.flying, want.Regs)
		}
		if want.Regs[b.A] != s.Regs[b.A] && b.End == api.EndBranch {
			changed++
		}
	}
	if ran < 6000 || changed < 400 {
		t.Errorf("%d ran, %d branches read what was written", ran, changed)
	}
}

// P18.3 and P4: where a block begins behind a turn of the one ahead, in no cycle more units are busy than there are, Ctl's too.
func TestUnitsOfBlocksBehindOneAnother(t *testing.T) {
	r := rand.New(rand.NewSource(184))
	together := 0
	for range 4000 {
		m := chanceTable(r)
		m.Units[api.Ctl] = 1 // whoever has more has it easier
		var taken [api.Classes]map[int]int
		for class := range taken {
			taken[class] = map[int]int{}
		}
		take := func(class, cycle int) {
			for k := range m.Busy[class] {
				if taken[class][cycle+k]++; taken[class][cycle+k] > m.Units[class] {
					t.Fatalf("%v: too many of class %d in cycle %d", m, class, cycle+k)
				}
			}
		}
		from := 0
		for range 5 {
			b := chanceBlock(r, 4)
			if r.Intn(3) == 0 {
				b.Ops = nil
			}
			b.End %= 2 // a jump or a branch
			cycles := chanceCycles(t, r, b.Ops, m)
			at, length, e := End(b, m, cycles)
			if e != api.OK || at < leadTold(m) || length != at+1+m.Delay || !drainedTold(b.Ops, m, cycles, length) {
				t.Fatal(b, m, cycles, at, length, e)
			}
			for n, o := range b.Ops {
				class, _ := ops.Class(o.Do)
				take(class, from+cycles[n])
			}
			take(api.Ctl, from+at)
			if m.Busy[api.Ctl] > length {
				t.Fatalf("%v, %v: the next end could be issued too early", b, m)
			}
			if at == leadTold(m) {
				together++
			}
			from += length
		}
	}
	if together < 1000 {
		t.Errorf("only %d ends as early as the lead lets them", together)
	}
}

// earlyTold is P18.2's words told a second time.
func earlyTold(p api.Program, block int) []int {
	if program.Check(p) != api.OK || block < 0 || block >= len(p.Blocks) {
		return nil
	}
	b := p.Blocks[block]
	if b.End != api.EndBranch || b.Then == 0 || b.Then == b.Else || b.Then == block {
		return nil
	}
	for n := range p.Blocks {
		if n != block && slices.Contains(flow.After(p, n), b.Then) {
			return nil
		}
	}
	if then := p.Blocks[b.Then]; len(then.Ops) > 0 && mayTold(p, b, then.Ops[0]) {
		if len(then.Ops) > 1 && mayTold(p, b, then.Ops[1]) {
			return []int{0, 1}
		}
		return []int{0}
	}
	return nil
}

func mayTold(p api.Program, b api.Block, o api.Op) bool {
	d, _ := ops.Writes(o)
	return o.Do >= api.Const && o.Do <= api.Times && d != b.A && live.At(p, b.Else, 0)>>d%2 == 0
}

// chanceProgram answers a program in which many a branch has the next block for its Then, to which mostly nobody else turns.
func chanceProgram(r *rand.Rand) api.Program {
	blocks, registers := 2+r.Intn(6), 3+r.Intn(9)
	if r.Intn(40) == 0 {
		blocks, registers = 2+r.Intn(60), api.Registers
	}
	others := []int{0}
	var p api.Program
	for n := range blocks {
		b := with(api.Block{End: int8(r.Intn(4))}, chanceList(r, registers, 5)...)
		if n+1 < blocks && r.Intn(2) == 0 {
			b.End, b.Then = api.EndBranch, n+1
		} else {
			others = append(others, min(n+1, blocks-1))
		}
		if n > 1 && r.Intn(4) == 0 {
			b.End, b.Then = api.EndHalt, 0
		}
		if b.End == api.EndLoop {
			b.Body = chanceList(r, registers, 4)
		}
		p.Blocks = append(p.Blocks, b)
	}
	for n := range p.Blocks {
		b := &p.Blocks[n]
		turn := func() int {
			if r.Intn(10) == 0 {
				return r.Intn(blocks)
			}
			return others[r.Intn(len(others))]
		}
		if b.End != api.EndJump {
			b.A = uint8(r.Intn(registers))
		}
		if b.End != api.EndHalt && b.Then == 0 {
			b.Then = turn()
		}
		if b.End == api.EndBranch {
			b.Else = turn()
		}
	}
	return p
}

func wantEarlyTold(t testing.TB, p api.Program, block int) []int {
	t.Helper()
	got := Early(p, block)
	if want := earlyTold(p, block); !slices.Equal(got, want) {
		t.Fatalf("Early(%v, %d) is %v, want %v", p, block, got, want)
	}
	return got
}

func TestManyPrograms(t *testing.T) {
	r := rand.New(rand.NewSource(182))
	counts := [3]int{}
	for range 4000 {
		p := chanceProgram(r)
		for block := -1; block <= len(p.Blocks); block++ {
			counts[len(wantEarlyTold(t, p, block))]++
		}
	}
	if min(counts[0], counts[1], counts[2]) < 200 {
		t.Errorf("none, one and two come ahead: %v", counts)
	}
}

// Now and then what is no program.
func TestManyThatAreNoPrograms(t *testing.T) {
	r := rand.New(rand.NewSource(185))
	none := 0
	for range 3000 {
		p := chanceProgram(r)
		b := &p.Blocks[r.Intn(len(p.Blocks))]
		switch r.Intn(6) {
		case 0:
			b.End = int8(r.Intn(256))
		case 1:
			b.A = uint8(r.Intn(256))
		case 2:
			b.Then = r.Intn(90) - 30
		case 3:
			b.Else = r.Intn(90) - 30
		case 4:
			b.Body = append(b.Body, api.Op{Do: int8(r.Intn(256))})
		case 5:
			b.Ops = append(b.Ops, api.Op{Do: int8(r.Intn(256)), D: uint8(r.Intn(256)), A: uint8(r.Intn(256))})
		}
		if program.Check(p) != api.OK {
			none++
		}
		for block := -1; block <= len(p.Blocks); block++ {
			wantEarlyTold(t, p, block)
		}
	}
	if none < 1000 {
		t.Errorf("only %d are none", none)
	}
}

// ahead answers the program with as many first operations of the branch's Then done at the end of the block, and left out there.
func ahead(p api.Program, block, count int) api.Program {
	blocks := slices.Clone(p.Blocks)
	then := blocks[block].Then
	blocks[block].Ops = slices.Concat(blocks[block].Ops, blocks[then].Ops[:count])
	blocks[then].Ops = slices.Clone(blocks[then].Ops[count:])
	return api.Program{Blocks: blocks}
}

// outcomeOf runs a program, and leaves Steps out of what it tells.
func outcomeOf(t testing.TB, p api.Program, s api.State, steps int) (o api.Outcome, done int) {
	t.Helper()
	one, e := serial.New(p, s)
	if e != api.OK {
		t.Fatal(p, e)
	}
	o = one.Run(steps)
	done, o.Steps = o.Steps, 0
	return o, done
}

func sameOutcome(a, b api.Outcome) bool {
	return a.E == b.E && a.Value == b.Value && slices.Equal(a.Prints, b.Prints) && slices.Equal(a.Mem, b.Mem)
}

// P18.4: done ahead of the branch they make a program that ends as it did.
func TestEarlyIsSafe(t *testing.T) {
	const steps = 300
	r := rand.New(rand.NewSource(1844))
	ended, trapped, other := 0, 0, 0
	for range 12000 {
		p := chanceProgram(r)
		for block := range p.Blocks {
			early := Early(p, block)
			if len(early) == 0 {
				continue
			}
			moved, s := ahead(p, block, len(early)), chanceState(r)
			before, done := outcomeOf(t, p, s, steps)
			// Where Else is taken, each time as many steps more are done as were put ahead.
			behind, took := outcomeOf(t, moved, s, 3*steps)
			if before.E == api.ErrFuel {
				if behind.E != api.ErrFuel && took < steps {
					t.Fatalf("%v, %v: %d ends as %+v, and did not", p, s, block, behind)
				}
				continue
			}
			if !sameOutcome(before, behind) {
				t.Fatalf("%v, %v, block %d, %v ahead: %+v became %+v", p, s, block, early, before, behind)
			}
			switch {
			case before.E == api.ErrDivide:
				trapped++
			default:
				ended++
			}
			if took > done {
				other++ // the other way was taken
			}
		}
	}
	if ended < 700 || trapped < 300 || other < 300 {
		t.Errorf("%d ended, %d trapped, %d went to Else", ended, trapped, other)
	}
}

// The same where early operations of one branch behind the other are put ahead, as far as they come.
func TestEarlyIsSafeAgainAndAgain(t *testing.T) {
	r := rand.New(rand.NewSource(1845))
	compared := 0
	for range 4000 {
		p, s := chanceProgram(r), chanceState(r)
		moved, count := p, 0
		for block := range p.Blocks {
			for range 3 {
				early := Early(moved, block)
				moved, count = aheadIf(moved, block, len(early)), count+len(early)
			}
		}
		before, _ := outcomeOf(t, p, s, 200)
		if before.E == api.ErrFuel || count == 0 {
			continue
		}
		compared++
		if behind, _ := outcomeOf(t, moved, s, api.MaxSteps); !sameOutcome(before, behind) {
			t.Fatalf("%v became %v, %v: %+v, %+v", p, moved, s, before, behind)
		}
	}
	if compared < 300 {
		t.Errorf("only %d compared", compared)
	}
}

func aheadIf(p api.Program, block, count int) api.Program {
	if count == 0 {
		return p
	}
	return ahead(p, block, count)
}

// withRoom answers a list with something behind its end.
func withRoom[T any](l []T, behind ...T) []T { return append(slices.Clone(l), behind...)[:len(l)] }

func roomyProgram(r *rand.Rand) api.Program {
	p := chanceProgram(r)
	p.Blocks = withRoom(p.Blocks, halts(200), api.Block{End: 77})
	for n, b := range p.Blocks {
		p.Blocks[n].Ops = withRoom(b.Ops, prints(30), consts(255, 99))
		p.Blocks[n].Body = withRoom(b.Body, prints(29), consts(255, 98))
	}
	return p
}

// copied answers p anew, with the room behind the ends of its lists.
func copied(p api.Program) [][]api.Block {
	all := slices.Clone(p.Blocks[:cap(p.Blocks)])
	for n, b := range all {
		all[n].Ops = slices.Clone(b.Ops[:cap(b.Ops)])
		all[n].Body = slices.Clone(b.Body[:cap(b.Body)])
	}
	return [][]api.Block{all[:len(p.Blocks)], all}
}

func TestNothingThatIsHandedInIsChanged(t *testing.T) {
	r := rand.New(rand.NewSource(37))
	for range 1500 {
		p := roomyProgram(r)
		before := copied(p)
		for block := range p.Blocks {
			Early(p, block)
		}
		m := chanceTable(r)
		for _, b := range p.Blocks {
			cycles := withRoom(chanceCycles(t, r, b.Ops, m), 77, -88)
			whole := slices.Clone(cycles[:cap(cycles)])
			End(b, m, cycles)
			End(b, m, cycles[:len(cycles)/2])
			if !slices.Equal(cycles[:cap(cycles)], whole) {
				t.Fatalf("%v became %v", whole, cycles[:cap(cycles)])
			}
		}
		if !reflect.DeepEqual(copied(p), before) {
			t.Fatalf("%v became %v", before, copied(p))
		}
	}
}

// What a caller writes into an answer, with the room behind its end, is seen in no other one.
func TestAnswersAreTheCallersOwn(t *testing.T) {
	p := splits(adds(5, 2, 3), adds(7, 2, 3), adds(8, 2, 3))
	for range 3 {
		first, second := Early(p, 0), Early(p, 0)
		first = first[:cap(first)]
		for n := range first {
			first[n] = -7
		}
		if !slices.Equal(second, in(0, 1)) {
			t.Fatal(second)
		}
		wantEarly(t, p, 0, 0, 1)
	}
}

// Nothing is kept: what the caller changes is seen by the next call, and in no answer that he has.
func TestLaterChangesAreSeen(t *testing.T) {
	p := splits(adds(5, 2, 3), adds(7, 2, 3))
	early := Early(p, 0)
	p.Blocks[1].Ops[1].D = 6
	wantEarly(t, p, 0, 0)
	p.Blocks[2].A = 5
	wantEarly(t, p, 0)
	p.Blocks[0].A = 32
	if len(Early(p, 0)) != 0 || !slices.Equal(early, in(0, 1)) {
		t.Error(Early(p, 0), early)
	}
	b, cycles := with(branches(1, 0, 0), multiplies(1, 2, 3)), in(0)
	wantEnd(t, b, example(), cycles, 3, 6)
	cycles[0] = 4
	wantEnd(t, b, example(), cycles, 7, 10)
	b.Ops[0].D = 2
	wantEnd(t, b, example(), cycles, 4, 7)
	b.Ops[0].Do = api.Halt
	wantEndRefused(t, b, example(), cycles, api.ErrCycles)
}

// Who asks at the same time, of the same block and program, gets the same answers.
func TestAskedAtTheSameTime(t *testing.T) {
	p := splits(adds(5, 2, 3), adds(7, 2, 3))
	b, cycles := with(branches(1, 0, 0), multiplies(1, 2, 3)), in(0)
	done := make(chan bool)
	for range 8 {
		go func() {
			well := true
			for range 50 {
				at, length, e := End(b, example(), cycles)
				well = well && at == 3 && length == 6 && e == api.OK && slices.Equal(Early(p, 0), in(0, 1))
			}
			done <- well
		}()
	}
	for range 8 {
		if !<-done {
			t.Error("another answer")
		}
	}
}

func FuzzEnd(f *testing.F) {
	f.Add([]byte{12, 1, 2, 3, 0}, []byte{1, 1, 1, 1, 1, 3, 2, 1, 1, 1, 1, 4, 2}, []byte{0}, int8(1), uint8(1))
	f.Add([]byte{16, 0, 1, 2, 8, 15, 3, 1, 0, 9}, []byte{2, 1, 1, 0, 8, 1, 7, 7, 4, 3, 2, 1, 0}, []byte{0, 7}, int8(2), uint8(32))
	f.Add([]byte{18, 0, 0, 0, 1}, []byte{0, 9}, []byte{}, int8(-1), uint8(0))
	f.Fuzz(func(t *testing.T, data, numbers, places []byte, end int8, a uint8) {
		m := example()
		for n, b := range numbers[:min(len(numbers), 3*api.Classes+1)] {
			if n == 3*api.Classes {
				m.Delay = int(int8(b))
				break
			}
			[]*[api.Classes]int{&m.Units, &m.Lat, &m.Busy}[n/api.Classes][n%api.Classes] = int(int8(b))
		}
		b := api.Block{End: end, A: a}
		for ; len(data) >= 5 && len(b.Ops) < 20; data = data[5:] {
			b.Ops = append(b.Ops, api.Op{Do: int8(data[0]), D: data[1], A: data[2], B: data[3], Imm: int64(int8(data[4]))})
		}
		var cycles []int
		for _, place := range places {
			cycles = append(cycles, int(int8(place)))
		}
		wantTold(t, b, m, cycles)
		if own, e := list.Cycles(b.Ops, m); e == api.OK {
			wantTold(t, b, m, own)
		}
	})
}

func FuzzEarly(f *testing.F) {
	f.Add([]byte{0, 1, 1, 1, 2, 0, 0, 2, 5, 0, 0, 0, 128, 2, 5, 2, 3, 0, 0, 2, 6, 0, 0, 0}, 0)
	f.Add([]byte{0, 1, 2, 3, 4, 5}, math.MinInt)
	f.Fuzz(func(t *testing.T, data []byte, block int) {
		// Six bytes a block and as many an operation of its Ops or its Body.
		var p api.Program
		for ; len(data) >= 6 && len(p.Blocks) < 9; data = data[6:] {
			if data[0] < 128 || len(p.Blocks) == 0 {
				b := api.Block{End: int8(data[1]), A: data[2], Then: int(int8(data[3])), Else: int(int8(data[4]))}
				p.Blocks = append(p.Blocks, b)
				continue
			}
			o := api.Op{Do: int8(data[1]), D: data[2], A: data[3], B: data[4], Imm: int64(int8(data[5]))}
			last := &p.Blocks[len(p.Blocks)-1]
			if data[0] < 192 {
				last.Ops = append(last.Ops, o)
			} else {
				last.Body = append(last.Body, o)
			}
		}
		wantEarlyTold(t, p, block)
		for n := range p.Blocks {
			early := wantEarlyTold(t, p, n)
			if len(early) == 0 {
				continue
			}
			before, _ := outcomeOf(t, p, api.State{Regs: []int64{1, -1, 2}}, 100)
			behind, _ := outcomeOf(t, ahead(p, n, len(early)), api.State{Regs: []int64{1, -1, 2}}, 300)
			if before.E != api.ErrFuel && !sameOutcome(before, behind) {
				t.Fatalf("%v, block %d: %+v became %+v", p, n, before, behind)
			}
		}
	})
}
