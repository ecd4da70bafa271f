package race

import (
	"fmt"
	"math"
	"slices"
	"strings"
	"testing"

	"hayloft/api"
	"hayloft/pack"
	"hayloft/parse"
	"hayloft/pipe"
	"hayloft/program"
	"hayloft/serial"
)

// read answers the program that is told so: its blocks, with commas between their lines, from block 0 on.
func read(t testing.TB, blocks ...string) api.Program {
	t.Helper()
	var text strings.Builder
	for n, lines := range blocks {
		fmt.Fprintf(&text, "block %d:\n%s\n", n, strings.ReplaceAll(lines, ", ", "\n"))
	}
	p, e := parse.Program(text.String())
	if e != nil {
		t.Fatalf("%q: %v", text.String(), e)
	}
	return p
}

func ones() api.Table {
	return api.Table{Units: [api.Classes]int{1, 1, 1, 1}, Lat: [api.Classes]int{1, 1, 1, 1}, Busy: [api.Classes]int{1, 1, 1, 1}}
}

// wide is a table of many units, and of latencies that are unlike.
func wide() api.Table {
	return api.Table{Units: [api.Classes]int{8, 8, 8, 8}, Lat: [api.Classes]int{2, 5, 3, 1}, Busy: [api.Classes]int{1, 2, 1, 1}, Delay: 2}
}

// slow is a table by which everything takes as long as it can.
func slow() api.Table {
	return api.Table{Units: [api.Classes]int{1, 1, 1, 1}, Lat: [api.Classes]int{8, 8, 8, 8}, Busy: [api.Classes]int{4, 4, 4, 4}, Delay: 4}
}

func tables() []api.Table {
	late, busy := ones(), ones()
	late.Lat, late.Delay = [api.Classes]int{1, 3, 2, 1}, 1
	busy.Busy = [api.Classes]int{2, 4, 3, 4}
	return []api.Table{ones(), wide(), slow(), late, busy}
}

func regs(l ...int64) api.State { return api.State{Regs: l} }

// same answers whether two outcomes are one, be an empty list nil or not.
func same(a, b api.Outcome) bool {
	return a.E == b.E && a.Value == b.Value && a.Steps == b.Steps && slices.Equal(a.Prints, b.Prints) && slices.Equal(a.Mem, b.Mem)
}

// zero answers whether there is nothing in an outcome.
func zero(o api.Outcome) bool {
	return o.E == api.OK && o.Value == 0 && o.Steps == 0 && len(o.Prints) == 0 && len(o.Mem) == 0
}

// told is an outcome without most of its cells and prints.
func told(o api.Outcome) string {
	return fmt.Sprintf("%v, value %d, %d prints %v, %d cells %v, %d steps", o.E, o.Value, len(o.Prints), o.Prints[:min(8, len(o.Prints))], len(o.Mem), o.Mem[:min(8, len(o.Mem))], o.Steps)
}

// course is a program that is one, packed for a table that lets it in.
type course struct {
	p api.Program
	m api.Table
	k api.Packed
}

func courseOf(t testing.TB, p api.Program, m api.Table) course {
	t.Helper()
	k, e := pack.Pack(p, m)
	if e != api.OK {
		t.Fatal(p, m, e)
	}
	return course{p, m, k}
}

// alone answers what each machine tells that is asked by itself.
func (c course) alone(t testing.TB, s api.State, steps, cycles int) (a, b api.Outcome) {
	t.Helper()
	one, e := serial.New(c.p, s)
	if e != api.OK {
		t.Fatal(c.p, e)
	}
	many, e := pipe.New(c.k.Words, c.m, s)
	if e != api.OK {
		t.Fatal(c.p, c.m, e)
	}
	return one.Run(steps), many.Run(cycles)
}

// want says that Both tells what the machines tell, and that they agree; and answers it.
func (c course) want(t testing.TB, s api.State, steps, cycles int) (a, b api.Outcome) {
	t.Helper()
	a, b, e := Both(c.p, c.m, s, steps, cycles)
	if e != api.OK {
		t.Fatalf("%v, %v: %v", c.p, c.m, e)
	}
	one, many := c.alone(t, s, steps, cycles)
	if !same(a, one) || !same(b, many) {
		t.Fatalf("%v, %v, %v, %d, %d: %s; %s; want %s; %s", c.p, c.m, s, steps, cycles, told(a), told(b), told(one), told(many))
	}
	c.wantAgree(t, s, a, b)
	return a, b
}

// wantAgree says that two outcomes of its own agree.
func (c course) wantAgree(t testing.TB, s api.State, a, b api.Outcome) {
	t.Helper()
	if !Agree(a, b) || !agreeTold(a, b) {
		t.Fatalf("%v, %v, %v: %s; %s do not agree", c.p, c.m, s, told(a), told(b))
	}
}

// wantBoth says it of a program that is packed for this alone.
func wantBoth(t testing.TB, p api.Program, m api.Table, s api.State, steps, cycles int) (a, b api.Outcome) {
	t.Helper()
	return courseOf(t, p, m).want(t, s, steps, cycles)
}

// wantEnd says how both end, but for steps and memory.
func wantEnd(t testing.TB, a, b api.Outcome, end api.Errno, value int64, prints ...int64) {
	t.Helper()
	for _, o := range []api.Outcome{a, b} {
		if o.E != end || o.Value != value || !slices.Equal(o.Prints, prints) || end == api.OK && len(o.Mem) != api.Cells {
			t.Errorf("%s, want %v, %d, %v", told(o), end, value, prints)
		}
	}
}

func TestChapterExamples(t *testing.T) {
	for _, m := range tables() {
		p := read(t, "halt r3")
		a, b := wantBoth(t, p, m, regs(0, 0, 0, 7), 9, 9)
		wantEnd(t, a, b, api.OK, 7)
		if a.Steps != 1 || b.Steps < 1 {
			t.Errorf("%v: %s; %s", m, told(a), told(b))
		}
		a, b = wantBoth(t, p, m, regs(0, 0, 0, 7), 0, 9)
		if !same(a, api.Outcome{E: api.ErrFuel}) {
			t.Errorf("%v: %s", m, told(a))
		}
		wantEnd(t, b, b, api.OK, 7)
		p = read(t, "print r4, divide r1 r1 r0, print r4, halt r4")
		a, b = wantBoth(t, p, m, regs(0, 5, 0, 0, 6), 99, 99)
		wantEnd(t, a, b, api.ErrDivide, 0, 6)
		if a.Steps != 1 {
			t.Errorf("%v: %s", m, told(a))
		}
	}
}

// The third one, by each table of one and of two units: a loop of no round ends both with OK, with nothing of its body done.
func TestALoopOfNoRound(t *testing.T) {
	p := read(t, "loop r1 {, print r2, add r3 r3 r2, times r2 r3 r3, store r2 r3 0, divide r2 r2 r0, }, jump 1", "halt r3")
	for lat := 1; lat <= api.MaxLatency; lat++ {
		for busy := 1; busy <= api.MaxBusy; busy++ {
			for delay := range api.MaxDelay + 1 {
				for units := 1; units <= 2; units++ {
					m := api.Table{Delay: delay}
					for class := range api.Classes {
						m.Units[class], m.Lat[class], m.Busy[class] = units, 1+(lat+class)%api.MaxLatency, busy
					}
					for _, rounds := range []int64{0, -1, math.MinInt64} {
						a, b := wantBoth(t, p, m, regs(0, rounds, 4, 9), 50, 500)
						wantEnd(t, a, b, api.OK, 9)
						if a.Steps != 2 {
							t.Errorf("%v: %s", m, told(a))
						}
					}
				}
			}
		}
	}
}

// longer answers a program of so many operations, and as many blocks.
func longer(operations, blocks int) api.Program {
	p := api.Program{Blocks: make([]api.Block, blocks)}
	p.Blocks[0].Ops = slices.Repeat([]api.Op{{Do: api.Print}}, operations-blocks)
	for n := range p.Blocks {
		p.Blocks[n].End = api.EndHalt
	}
	return p
}

// refusal is something that is none, and the error that tells it.
type refusal[T any] struct {
	what T
	want api.Errno
}

// programs are some of all ways in which a program can be none, behind one that is.
func programs(t testing.TB) []refusal[api.Program] {
	spoiled := func(change func(b *api.Block)) api.Program {
		p := read(t, "times r1 r2 r3, branch r1 0 1", "halt r0")
		change(&p.Blocks[0])
		return p
	}
	return []refusal[api.Program]{
		{spoiled(func(b *api.Block) {}), api.OK},
		{api.Program{}, api.ErrProgram},
		{api.Program{Blocks: []api.Block{}}, api.ErrProgram},
		{longer(api.MaxBlocks+1, api.MaxBlocks+1), api.ErrLong},
		{longer(api.MaxOps+1, 1), api.ErrLong},
		{spoiled(func(b *api.Block) { b.Ops[0].Do = api.Kinds }), api.ErrOp},
		{spoiled(func(b *api.Block) { b.Ops[0].Do = -1 }), api.ErrOp},
		{spoiled(func(b *api.Block) { b.Ops[0] = api.Op{} }), api.ErrOp},
		{spoiled(func(b *api.Block) { b.Ops[0] = api.Op{Do: api.Jump} }), api.ErrOp},
		{spoiled(func(b *api.Block) { b.Ops[0].D = 32 }), api.ErrOp},
		{spoiled(func(b *api.Block) { b.Ops[0].Imm = 1 }), api.ErrOp},
		{spoiled(func(b *api.Block) { b.End = 4 }), api.ErrProgram},
		{spoiled(func(b *api.Block) { b.End = -1 }), api.ErrProgram},
		{spoiled(func(b *api.Block) { b.A = 32 }), api.ErrProgram},
		{spoiled(func(b *api.Block) { b.Then = 2 }), api.ErrProgram},
		{spoiled(func(b *api.Block) { b.Else = -1 }), api.ErrProgram},
		{spoiled(func(b *api.Block) { b.Body = []api.Op{{Do: api.Print}} }), api.ErrProgram},
		{api.Program{Blocks: []api.Block{{End: api.EndLoop, Body: []api.Op{{Do: api.Halt}}}}}, api.ErrOp},
	}
}

// tablesToo are some of all ways in which a table can be none, or have too few units for the first program, behind one that it can be packed for.
func tablesToo() []refusal[api.Table] {
	spoiled := func(change func(m *api.Table)) api.Table {
		m := ones()
		change(&m)
		return m
	}
	return []refusal[api.Table]{
		{spoiled(func(m *api.Table) { m.Units[api.Mem], m.Units[api.Alu] = 0, 0 }), api.OK},
		{api.Table{}, api.ErrTable},
		{spoiled(func(m *api.Table) { m.Units[api.Mem] = -1 }), api.ErrTable},
		{spoiled(func(m *api.Table) { m.Units[api.Alu] = api.MaxUnits + 1 }), api.ErrTable},
		{spoiled(func(m *api.Table) { m.Lat[api.Mem] = 0 }), api.ErrTable},
		{spoiled(func(m *api.Table) { m.Lat[api.Ctl] = api.MaxLatency + 1 }), api.ErrTable},
		{spoiled(func(m *api.Table) { m.Busy[api.Mul] = 0 }), api.ErrTable},
		{spoiled(func(m *api.Table) { m.Busy[api.Mul] = api.MaxBusy + 1 }), api.ErrTable},
		{spoiled(func(m *api.Table) { m.Delay = -1 }), api.ErrTable},
		{spoiled(func(m *api.Table) { m.Delay = api.MaxDelay + 1 }), api.ErrTable},
		{spoiled(func(m *api.Table) { m.Units[api.Mul], m.Lat[api.Alu] = 0, 0 }), api.ErrTable},
		{spoiled(func(m *api.Table) { m.Units[api.Mul] = 0 }), api.ErrNoUnit},
		{spoiled(func(m *api.Table) { m.Units[api.Ctl] = 0 }), api.ErrNoUnit},
		{spoiled(func(m *api.Table) { m.Units = [api.Classes]int{} }), api.ErrNoUnit},
	}
}

// states are those that are taken, and that are not.
func states() []refusal[api.State] {
	var l []refusal[api.State]
	for _, cells := range []int{0, 1, 255, 256, 257, 300} {
		for _, registers := range []int{0, 1, 31, 32, 33, 64} {
			want := api.OK
			if registers > api.Registers || cells > api.Cells {
				want = api.ErrArg
			}
			l = append(l, refusal[api.State]{api.State{Regs: make([]int64, registers), Mem: make([]int64, cells)}, want})
		}
	}
	return append(l, refusal[api.State]{api.State{}, api.OK})
}

// Each way of being refused, with each other one: the program's comes first, then the table's, then the state's.
func TestBothRefuses(t *testing.T) {
	found := map[api.Errno]int{}
	for _, p := range programs(t) {
		for _, m := range tablesToo() {
			for _, s := range states() {
				want := p.want
				if want == api.OK {
					want = m.want
				}
				if want == api.OK {
					want = s.want
				}
				a, b, e := Both(p.what, m.what, s.what, 5, 50)
				if e != want || e != api.OK && (!zero(a) || !zero(b)) || e == api.OK && a.E != api.OK {
					t.Errorf("%v, %v, %d registers, %d cells: %s; %s; %v, want %v", p.what, m.what, len(s.what.Regs), len(s.what.Mem), told(a), told(b), e, want)
				}
				found[e]++
			}
		}
	}
	if len(found) != 7 {
		t.Errorf("by errors %v", found)
	}
}

// Where a table has all that is needed, and a state all that it may have, nothing else is asked for: not even steps.
func TestBothTakes(t *testing.T) {
	for _, count := range []int{-1, 0, 1} {
		a, b, e := Both(longer(api.MaxOps, api.MaxBlocks), ones(), api.State{Regs: make([]int64, 32), Mem: make([]int64, 256)}, count, count)
		if e != api.OK || a.E != api.ErrFuel || b.E != api.ErrFuel || a.Steps != max(0, count) || b.Steps != max(0, count) {
			t.Errorf("%s; %s; %v", told(a), told(b), e)
		}
	}
	p := read(t, "times r1 r2 r3, halt r1")
	for class := range api.Classes {
		m := ones()
		m.Units[class] = 0
		_, _, e := Both(p, m, api.State{}, 9, 9)
		if needed := class == api.Mul || class == api.Ctl; needed != (e == api.ErrNoUnit) || e != program.Needs(p, m) {
			t.Errorf("without units of class %d: %v", class, e)
		}
	}
}

// What a state does not have is 0, what it has is there in both machines, to the last register and the last cell.
func TestStates(t *testing.T) {
	p := read(t, "print r31, print r1, load r2 r0 255, load r3 r0 1, print r2, store r0 r31 254, halt r3")
	full := api.State{Regs: make([]int64, 32), Mem: make([]int64, 256)}
	full.Regs[1], full.Regs[31], full.Mem[1], full.Mem[255] = 11, 31, -12, -255
	for _, c := range []struct {
		registers, cells int
		prints           []int64
		value            int64
	}{
		{32, 256, []int64{31, 11, -255}, -12}, {31, 256, []int64{0, 11, -255}, -12}, {32, 255, []int64{31, 11, 0}, -12}, {2, 2, []int64{0, 11, 0}, -12},
		{1, 1, []int64{0, 0, 0}, 0}, {0, 256, []int64{0, 0, -255}, -12}, {32, 0, []int64{31, 11, 0}, 0}, {0, 0, []int64{0, 0, 0}, 0},
	} {
		for _, m := range tables() {
			a, b := wantBoth(t, p, m, api.State{Regs: full.Regs[:c.registers], Mem: full.Mem[:c.cells]}, 99, 999)
			wantEnd(t, a, b, api.OK, c.value, c.prints...)
			want := make([]int64, 256)
			copy(want, full.Mem[:c.cells])
			if want[254] = 0; c.registers == 32 {
				want[254] = 31
			}
			if !slices.Equal(a.Mem, want) || !slices.Equal(b.Mem, want) {
				t.Errorf("%v, %v: %v; %v", c, m, a.Mem, b.Mem)
			}
		}
	}
	a, b := wantBoth(t, p, ones(), api.State{Regs: nil, Mem: []int64{}}, 99, 999)
	wantEnd(t, a, b, api.OK, 0, 0, 0, 0)
}

// counts are steps and cycles: all up to some more than a run takes, and beyond what there can be on either side.
func counts(most int) []int {
	l := []int{math.MinInt, math.MinInt + 1, -1 << 32, -2, -1}
	for n := range most + 3 {
		l = append(l, n)
	}
	return append(l, 1<<16, api.MaxSteps-1, api.MaxSteps, api.MaxSteps+1, 1<<32, 1<<32+1, math.MaxInt)
}

// All steps and cycles of programs that halt and that trap: each of what is told hangs on its own number alone.
func TestStepsAndCyclesOfRunsThatEnd(t *testing.T) {
	for _, c := range []struct {
		p      api.Program
		s      api.State
		end    api.Errno
		value  int64
		steps  int
		prints []int64
	}{
		{read(t, "halt r3"), regs(0, 0, 0, 7), api.OK, 7, 1, nil},
		{read(t, "print r1, store r0 r1 3, jump 1", "print r2, halt r1"), regs(0, 4, 5), api.OK, 4, 5, []int64{4, 5}},
		{read(t, "loop r1 {, add r2 r2 r1, print r2, }, jump 1", "halt r2"), regs(0, 5, 1), api.OK, 26, 17, []int64{6, 11, 16, 21, 26}},
		{read(t, "sub r1 r1 r2, print r1, branch r1 0 1", "halt r2"), regs(0, 4, 1), api.OK, 1, 13, []int64{3, 2, 1, 0}},
		{read(t, "divide r1 r1 r0, halt r1"), regs(0, 4), api.ErrDivide, 0, 0, nil},
		{read(t, "print r1, rest r1 r1 r0, halt r1"), regs(0, 4), api.ErrDivide, 0, 1, []int64{4}},
		{read(t, "loop r1 {, sub r2 r2 r3, print r2, divide r4 r1 r2, }, jump 1", "halt r2"), regs(0, 9, 3, 1), api.ErrDivide, 0, 11, []int64{2, 1, 0}},
		{read(t, "loop r1 {, }, jump 1", "branch r2 2 3", "halt r1", "divide r1 r1 r1, divide r1 r1 r2, jump 0"), regs(0, 2), api.ErrDivide, 0, 5, nil},
	} {
		for _, m := range tables() {
			way := courseOf(t, c.p, m)
			_, whole := way.want(t, c.s, api.MaxSteps, api.MaxSteps)
			few := max(0, c.steps-1)
			for _, steps := range counts(c.steps) {
				a, b := way.want(t, c.s, steps, whole.Steps)
				wantEnd(t, b, b, c.end, c.value, c.prints...)
				if ends := steps >= c.steps || c.steps == 0; ends != (a.E == c.end) || ends && a.Steps != c.steps {
					t.Errorf("%v, %d steps: %s", c.p, steps, told(a))
				} else if !ends && (a.E != api.ErrFuel || a.Value != 0 || len(a.Mem) != 0 || a.Steps != max(0, steps)) {
					t.Errorf("%v, %d steps: %s", c.p, steps, told(a))
				}
			}
			for _, cycles := range counts(whole.Steps) {
				a, b := way.want(t, c.s, few, cycles)
				if c.steps > 0 && (a.E != api.ErrFuel || a.Steps != few) {
					t.Errorf("%v, %d steps: %s", c.p, few, told(a))
				}
				if ends := cycles >= whole.Steps; ends && !same(b, whole) || !ends && (b.E != api.ErrFuel || b.Steps != max(0, cycles)) {
					t.Errorf("%v, %v, %d cycles: %s, want %s", c.p, m, cycles, told(b), told(whole))
				}
			}
		}
	}
}

// Programs that have no end take as many steps and cycles as are wanted, up to MaxSteps.
func TestStepsAndCyclesOfRunsWithoutEnd(t *testing.T) {
	for _, c := range []struct {
		p api.Program
		s api.State
	}{
		{read(t, "jump 0"), api.State{}},
		{read(t, "add r1 r1 r2, print r1, branch r1 0 0"), regs(0, 5, 1)},
		{read(t, "loop r1 {, }, jump 0"), regs(0, 3)},
		{read(t, "loop r1 {, print r2, add r2 r2 r1, }, jump 1", "jump 0"), regs(0, math.MaxInt64)},
		{read(t, "loop r1 {, store r2 r3 0, add r3 r2 r2, add r2 r2 r1, }, jump 0"), regs(0, 4)},
	} {
		for n, m := range tables() {
			way := courseOf(t, c.p, m)
			for _, count := range []int{math.MinInt, -1, 0, 1, 2, 77, 5000, api.MaxSteps, api.MaxSteps + 1, math.MaxInt} {
				if count > 5000 && n > 0 {
					break // and spare going on so long by each table
				}
				want := min(max(count, 0), api.MaxSteps)
				a, b := way.want(t, c.s, count, 40)
				if a.E != api.ErrFuel || a.Steps != want || b.E != api.ErrFuel || b.Steps != 40 {
					t.Errorf("%v, %v, %d steps: %s; %s", c.p, m, count, told(a), told(b))
				}
				a, b = way.want(t, c.s, 40, count)
				if a.E != api.ErrFuel || a.Steps != 40 || b.E != api.ErrFuel || b.Steps != want {
					t.Errorf("%v, %v, %d cycles: %s; %s", c.p, m, count, told(a), told(b))
				}
			}
		}
	}
}
