package serial

import (
	"math"
	"reflect"
	"slices"
	"testing"

	"hayloft/api"
	"hayloft/program"
)

func of(blocks ...api.Block) api.Program { return api.Program{Blocks: blocks} }

func with(b api.Block, list ...api.Op) api.Block {
	b.Ops = list
	return b
}

func jumps(then int) api.Block { return api.Block{End: api.EndJump, Then: then} }

func branches(a uint8, then, orElse int) api.Block {
	return api.Block{End: api.EndBranch, A: a, Then: then, Else: orElse}
}

func halts(a uint8) api.Block { return api.Block{End: api.EndHalt, A: a} }

func loops(a uint8, then int, body ...api.Op) api.Block {
	return api.Block{End: api.EndLoop, A: a, Body: body, Then: then}
}

func adds(d, a, b uint8) api.Op { return api.Op{Do: api.Add, D: d, A: a, B: b} }

func consts(d uint8, imm int64) api.Op { return api.Op{Do: api.Const, D: d, Imm: imm} }

func moves(d, a uint8) api.Op { return api.Op{Do: api.Move, D: d, A: a} }

func divides(d, a, b uint8) api.Op { return api.Op{Do: api.Divide, D: d, A: a, B: b} }

func loads(d, a uint8, imm int64) api.Op { return api.Op{Do: api.Load, D: d, A: a, Imm: imm} }

func stores(a, b uint8, imm int64) api.Op { return api.Op{Do: api.Store, A: a, B: b, Imm: imm} }

func prints(a uint8) api.Op { return api.Op{Do: api.Print, A: a} }

func regs(list ...int64) api.State { return api.State{Regs: list} }

func numbers(list ...int64) []int64 { return list }

// full answers the state that a machine holds of s: what is missing is 0.
func full(s api.State) api.State {
	whole := api.State{Regs: make([]int64, 32), Mem: make([]int64, 256)}
	copy(whole.Regs, s.Regs)
	copy(whole.Mem, s.Mem)
	return whole
}

func machine(t *testing.T, p api.Program, s api.State) *Machine {
	t.Helper()
	m, e := New(p, s)
	if e != api.OK || m == nil {
		t.Fatalf("New(%v) = %v, %v", p, m, e)
	}
	return m
}

// same answers whether two outcomes are one, be an empty list nil or not.
func same(a, b api.Outcome) bool {
	return a.E == b.E && a.Value == b.Value && a.Steps == b.Steps &&
		slices.Equal(a.Prints, b.Prints) && slices.Equal(a.Mem, b.Mem)
}

func sameState(a, b api.State) bool {
	return slices.Equal(a.Regs, b.Regs) && slices.Equal(a.Mem, b.Mem)
}

func wantOutcome(t *testing.T, got, want api.Outcome) {
	t.Helper()
	if !same(got, want) {
		t.Errorf("%+v, want %+v", got, want)
	}
}

// wantRun holds a run of p, and the state behind it, against what they must be.
func wantRun(t *testing.T, p api.Program, s api.State, steps int, want api.Outcome, state api.State) {
	t.Helper()
	m := machine(t, p, s)
	state = full(state)
	if want.E == api.OK {
		want.Mem = state.Mem
	}
	wantOutcome(t, m.Run(steps), want)
	if got := m.State(); !sameState(got, state) {
		t.Errorf("state %v, want %v", got, state)
	}
}

func halted(value int64, steps int, printed ...int64) api.Outcome {
	return api.Outcome{Value: value, Steps: steps, Prints: printed}
}

func fuel(steps int, printed ...int64) api.Outcome {
	return api.Outcome{E: api.ErrFuel, Steps: steps, Prints: printed}
}

func trapped(steps int, printed ...int64) api.Outcome {
	return api.Outcome{E: api.ErrDivide, Steps: steps, Prints: printed}
}

// tags of the chapter's form: a block and an operation of Ops or its end; of a body.
func at(block, op int) api.Tag { return api.Tag{Block: block, Op: op} }

func body(block, op int) api.Tag { return api.Tag{Block: block, Loop: true, Op: op} }

func wantTrail(t *testing.T, p api.Program, s api.State, steps int, want ...api.Tag) {
	t.Helper()
	got, e := Trail(p, s, steps)
	if e != api.OK || !slices.Equal(got, want) {
		t.Errorf("Trail(%v, %d) = %v, %v, want %v", p, steps, got, e, want)
	}
}

// sums is the chapter's example.
func sums() api.Program {
	return of(with(loops(1, 1, adds(2, 2, 1)), consts(1, 3)), with(halts(2), prints(2)))
}

func TestChapterExamples(t *testing.T) {
	wantRun(t, sums(), api.State{}, 100, halted(9, 10, 9), regs(0, 3, 9))
	wantRun(t, sums(), api.State{}, 3, fuel(3), regs(0, 3, 3))
	wantTrail(t, sums(), api.State{}, 3, at(0, 0), at(0, -1), body(0, 0))
	wantTrail(t, sums(), api.State{}, 100, at(0, 0), at(0, -1), body(0, 0), at(0, -1), body(0, 0), at(0, -1),
		body(0, 0), at(0, -1), at(1, 0), at(1, -1))
	wantRun(t, of(with(halts(0), divides(1, 1, 2))), regs(0, 7), 0, trapped(0), regs(0, 7))
}

func TestNewRefuses(t *testing.T) {
	long := slices.Repeat([]api.Op{prints(1)}, api.MaxOps-2)
	tooMany := api.State{Regs: make([]int64, 33)}
	for _, c := range []struct {
		name string
		p    api.Program
		want api.Errno
	}{
		{"no block", api.Program{}, api.ErrProgram},
		{"an empty list of blocks", api.Program{Blocks: []api.Block{}}, api.ErrProgram},
		{"too many blocks", of(slices.Repeat([]api.Block{halts(1)}, api.MaxBlocks+1)...), api.ErrLong},
		{"too many operations", of(halts(1), with(halts(1), append(long, prints(1))...)), api.ErrLong},
		{"too long a body", of(halts(1), loops(1, 0, append(long, prints(2))...)), api.ErrLong},
		{"a Nop", of(halts(1), with(jumps(0), api.Op{})), api.ErrOp},
		{"an operation that turns", of(halts(1), with(jumps(0), api.Op{Do: api.Jump})), api.ErrOp},
		{"a kind that there is not", of(with(halts(1), api.Op{Do: api.Kinds})), api.ErrOp},
		{"a kind below 0", of(with(halts(1), api.Op{Do: -1})), api.ErrOp},
		{"a Nop in a body", of(halts(1), loops(1, 0, api.Op{})), api.ErrOp},
		{"a register of an operation", of(with(halts(1), prints(32))), api.ErrOp},
		{"a register of a body", of(loops(1, 0, moves(64, 1))), api.ErrOp},
		{"too great an Imm", of(with(halts(1), consts(1, 1<<31))), api.ErrOp},
		{"an end that is none", of(halts(1), api.Block{End: 4}), api.ErrProgram},
		{"an end below 0", of(api.Block{End: -1}), api.ErrProgram},
		{"a register above 31", of(halts(32)), api.ErrProgram},
		{"a register of a branch", of(branches(33, 0, 0)), api.ErrProgram},
		{"a register of a loop", of(loops(255, 0)), api.ErrProgram},
		{"a register that does not count", of(api.Block{A: 1}), api.ErrProgram},
		{"Then is no block", of(halts(1), jumps(2)), api.ErrProgram},
		{"Then below 0", of(loops(1, -1)), api.ErrProgram},
		{"Else is no block", of(halts(1), branches(1, 1, 2)), api.ErrProgram},
		{"a body that does not count", of(api.Block{Body: []api.Op{prints(1)}}), api.ErrProgram},
	} {
		if e := program.Check(c.p); e != c.want {
			t.Errorf("%s: Check = %v, want %v", c.name, e, c.want)
		}
		wantRefused(t, c.name, c.p, api.State{}, c.want)
		// Of both errors it is the program's.
		wantRefused(t, c.name, c.p, tooMany, c.want)
		wantRefused(t, c.name, c.p, api.State{Mem: make([]int64, 257)}, c.want)
	}
	machine(t, of(halts(2), with(jumps(0), long...)), api.State{})
}

func wantRefused(t *testing.T, name string, p api.Program, s api.State, want api.Errno) {
	t.Helper()
	if m, e := New(p, s); e != want || m != nil {
		t.Errorf("%s: New = %v, %v, want %v", name, m, e, want)
	}
	for _, steps := range []int{0, 1, 100, -1, math.MaxInt, math.MinInt} {
		if tags, e := Trail(p, s, steps); e != want || len(tags) != 0 {
			t.Errorf("%s: Trail(%d) = %v, %v, want %v", name, steps, tags, e, want)
		}
	}
}

func TestStatesOfNew(t *testing.T) {
	p := of(halts(31))
	for _, c := range []struct{ regs, mem int }{{0, 0}, {1, 0}, {0, 1}, {31, 255}, {32, 255}, {31, 256}, {32, 256}} {
		s := api.State{Regs: make([]int64, c.regs), Mem: make([]int64, c.mem)}
		for n := range s.Regs {
			s.Regs[n] = int64(n) - 40
		}
		for n := range s.Mem {
			s.Mem[n] = int64(n)*3 + 1
		}
		m := machine(t, p, s)
		if got := m.State(); !sameState(got, full(s)) || len(got.Regs) != 32 || len(got.Mem) != 256 {
			t.Errorf("%d registers, %d cells: %v", c.regs, c.mem, got)
		}
		wantOutcome(t, m.Run(1), api.Outcome{Value: full(s).Regs[31], Mem: full(s).Mem, Steps: 1})
	}
	for _, c := range []struct{ regs, mem int }{{33, 0}, {0, 257}, {33, 256}, {32, 257}, {33, 257}, {1000, 0}, {0, 1000}} {
		s := api.State{Regs: make([]int64, c.regs), Mem: make([]int64, c.mem)}
		wantRefused(t, "too great a state", p, s, api.ErrArg)
	}
}

// TestEachKind: a step of each kind, on a state whose numbers all differ.
func TestEachKind(t *testing.T) {
	const least, most = math.MinInt64, math.MaxInt64
	for _, c := range []struct {
		do         int8
		a, b, want int64
	}{
		{api.Add, 5, -7, -2}, {api.Add, most, 1, least}, {api.Add, least, -1, most}, {api.Add, least, least, 0},
		{api.Sub, 5, 7, -2}, {api.Sub, least, 1, most}, {api.Sub, 0, least, least}, {api.Sub, most, -1, least},
		{api.And, 12, 10, 8}, {api.And, least, -1, least}, {api.And, most, least, 0},
		{api.Or, 12, 10, 14}, {api.Or, least, most, -1},
		{api.Xor, 12, 10, 6}, {api.Xor, -1, most, least},
		{api.Shl, 3, 2, 12}, {api.Shl, 1, 63, least}, {api.Shl, 3, 64, 3}, {api.Shl, 1, -1, least}, {api.Shl, 5, least, 5},
		{api.Shr, -8, 65, -4}, {api.Shr, least, 63, -1}, {api.Shr, most, 62, 1}, {api.Shr, 9, -64, 9},
		{api.Less, 1, 2, 1}, {api.Less, 2, 2, 0}, {api.Less, least, most, 1}, {api.Less, most, least, 0}, {api.Less, -1, 0, 1},
		{api.Equal, 2, 2, 1}, {api.Equal, least, most, 0}, {api.Equal, least, least, 1},
		{api.Times, -3, 7, -21}, {api.Times, least, -1, least}, {api.Times, most, most, 1}, {api.Times, 1 << 32, 1 << 32, 0},
		{api.Divide, -7, 2, -3}, {api.Divide, 7, -2, -3}, {api.Divide, least, -1, least}, {api.Divide, most, least, 0},
		{api.Rest, -7, 2, -1}, {api.Rest, 7, -2, 1}, {api.Rest, least, -1, 0}, {api.Rest, most, least, most},
	} {
		p := of(with(halts(9), api.Op{Do: c.do, D: 9, A: 4, B: 6}))
		wantRun(t, p, regs(1, 2, 3, 4, c.a, 5, c.b, 7, 8, 9), 2, halted(c.want, 2), regs(1, 2, 3, 4, c.a, 5, c.b, 7, 8, c.want))
		wantRun(t, p, regs(1, 2, 3, 4, c.a, 5, c.b, 7, 8, 9), 1, fuel(1), regs(1, 2, 3, 4, c.a, 5, c.b, 7, 8, c.want))
		wantRun(t, p, regs(1, 2, 3, 4, c.a, 5, c.b, 7, 8, 9), 0, fuel(0), regs(1, 2, 3, 4, c.a, 5, c.b, 7, 8, 9))
		// D is read ahead of being written.
		wantRun(t, of(with(halts(1), api.Op{Do: c.do, D: 1, A: 1, B: 2})), regs(0, c.a, c.b), 2, halted(c.want, 2), regs(0, c.want, c.b))
		wantRun(t, of(with(halts(2), api.Op{Do: c.do, D: 2, A: 1, B: 2})), regs(0, c.a, c.b), 2, halted(c.want, 2), regs(0, c.a, c.want))
	}
	wantRun(t, of(with(halts(1), moves(1, 2))), regs(3, 4, least), 2, halted(least, 2), regs(3, least, least))
	wantRun(t, of(with(halts(2), moves(1, 2))), regs(3, 4, most), 2, halted(most, 2), regs(3, most, most))
	wantRun(t, of(with(halts(3), consts(3, -1<<31))), regs(5), 2, halted(-1<<31, 2), regs(5, 0, 0, -1<<31))
	wantRun(t, of(with(halts(3), consts(3, 1<<31-1))), regs(5), 2, halted(1<<31-1, 2), regs(5, 0, 0, 1<<31-1))
	wantRun(t, of(with(halts(0), prints(1), prints(2), prints(1))), regs(1, least, most), 4, halted(1, 4, least, most, least), regs(1, least, most))
}

func TestLoadsAndStores(t *testing.T) {
	const least, most = math.MinInt64, math.MaxInt64
	mem := make([]int64, 256)
	for n := range mem {
		mem[n] = int64(1000 + n)
	}
	for _, c := range []struct {
		a, imm int64
		cell   int
	}{
		{0, 0, 0}, {0, 255, 255}, {0, 256, 0}, {0, -1, 255}, {255, 0, 255}, {256, 0, 0}, {255, 1, 0}, {-1, 0, 255},
		{-256, 0, 0}, {-257, 0, 255}, {1, -2, 255}, {8, 264, 16}, {100, 55, 155}, {100, 156, 0}, {-100, 99, 255},
		{least, 0, 0}, {least, -1, 255}, {least, 5, 5}, {most, 0, 255}, {most, 1, 0}, {most, 2, 1}, {most, -256, 255},
		{0, -1 << 31, 0}, {0, 1<<31 - 1, 255}, {most, 1<<31 - 1, 254}, {least, -1 << 31, 0}, {1 << 40, 77, 77},
	} {
		s := api.State{Regs: numbers(0, c.a, 7), Mem: mem}
		wantRun(t, of(with(halts(3), loads(3, 1, c.imm))), s, 2, halted(mem[c.cell], 2),
			api.State{Regs: numbers(0, c.a, 7, mem[c.cell]), Mem: mem})
		// A load may write its own base, a store store it.
		wantRun(t, of(with(halts(1), loads(1, 1, c.imm))), s, 2, halted(mem[c.cell], 2),
			api.State{Regs: numbers(0, mem[c.cell], 7), Mem: mem})
		after := slices.Clone(mem)
		after[c.cell] = 7
		wantRun(t, of(with(halts(2), stores(1, 2, c.imm))), s, 2, halted(7, 2), api.State{Regs: s.Regs, Mem: after})
		wantRun(t, of(with(halts(2), stores(1, 2, c.imm))), s, 1, fuel(1), api.State{Regs: s.Regs, Mem: after})
		wantRun(t, of(with(halts(2), stores(1, 2, c.imm))), s, 0, fuel(0), s)
		after[c.cell] = c.a
		wantRun(t, of(with(halts(2), stores(1, 1, c.imm))), s, 2, halted(7, 2), api.State{Regs: s.Regs, Mem: after})
	}
}

func TestDividedByNothing(t *testing.T) {
	for _, do := range []int8{api.Divide, api.Rest} {
		zero := api.Op{Do: do, D: 1, A: 2, B: 3}
		s := regs(0, 5, math.MinInt64, 0)
		p := of(with(halts(0), prints(1), zero, prints(2)))
		// The step isn't counted, nothing is written, and it is told with no steps left.
		for _, steps := range []int{1, 2, 3, 100, api.MaxSteps, math.MaxInt} {
			wantRun(t, p, s, steps, trapped(1, 5), s)
		}
		for _, steps := range []int{0, -1, math.MinInt} {
			wantRun(t, p, s, steps, fuel(0), s)
		}
		wantTrail(t, p, s, 100, at(0, 0))
		wantTrail(t, p, s, 1, at(0, 0))
		wantTrail(t, p, s, 0)
		for _, steps := range []int{math.MinInt, -1, 0, 1, 100, math.MaxInt} {
			wantRun(t, of(with(halts(0), zero)), s, steps, trapped(0), s)
			wantTrail(t, of(with(halts(0), zero)), s, steps)
		}
		// In a body: of the round in which it comes to 0, with the loop's end counted ahead of it.
		p = of(loops(4, 1, prints(5), api.Op{Do: do, D: 6, A: 2, B: 5}, adds(5, 5, 7)), halts(0))
		s = regs(0, 0, 9, 0, 10, 2, 0, -1)
		after := regs(0, 0, 9, 0, 10, 0, 9, -1)
		if do == api.Rest {
			after.Regs[6] = 0
		}
		wantRun(t, p, s, 100, trapped(10, 2, 1, 0), after)
		wantRun(t, p, s, 10, trapped(10, 2, 1, 0), after)
		wantRun(t, p, s, 9, fuel(9, 2, 1), after)
		wantTrail(t, p, s, 100, at(0, -1), body(0, 0), body(0, 1), body(0, 2), at(0, -1), body(0, 0), body(0, 1),
			body(0, 2), at(0, -1), body(0, 0))
		// At the beginning of a block that an end turns to, and as the first of a body.
		wantRun(t, of(jumps(1), with(halts(0), zero)), api.State{}, 1, trapped(1), api.State{})
		wantRun(t, of(jumps(1), with(halts(0), zero)), api.State{}, 0, fuel(0), api.State{})
		wantRun(t, of(loops(1, 0, zero)), regs(0, 1), 1, trapped(1), regs(0, 1))
		// Another trap than by 0 there is none: 0 divided, and by the least number.
		wantRun(t, of(with(halts(1), api.Op{Do: do, D: 1, A: 2, B: 3})), regs(0, 5, 0, math.MinInt64), 2, halted(0, 2), regs(0, 0, 0, math.MinInt64))
	}
}

func TestEachEnd(t *testing.T) {
	p := of(jumps(2), halts(1), halts(2))
	wantRun(t, p, regs(5, 6, 7), 2, halted(7, 2), regs(5, 6, 7))
	wantRun(t, p, regs(5, 6, 7), 1, fuel(1), regs(5, 6, 7))
	wantTrail(t, p, api.State{}, 9, at(0, -1), at(2, -1))
	p = of(branches(0, 1, 2), halts(1), halts(2))
	for _, a := range []int64{1, -1, math.MinInt64, math.MaxInt64, 1 << 32, 256} {
		wantRun(t, p, regs(a, 6, 7), 2, halted(6, 2), regs(a, 6, 7))
		wantTrail(t, p, regs(a), 9, at(0, -1), at(1, -1))
	}
	wantRun(t, p, regs(0, 6, 7), 2, halted(7, 2), regs(0, 6, 7))
	wantTrail(t, p, api.State{}, 9, at(0, -1), at(2, -1))
	// A halt's step is counted, and it wants one.
	for _, value := range []int64{0, 1, -1, math.MinInt64, math.MaxInt64} {
		s := api.State{Regs: append(make([]int64, 31), value)}
		wantRun(t, of(halts(31)), s, 1, halted(value, 1), s)
		wantRun(t, of(halts(31)), s, 0, fuel(0), s)
	}
	wantTrail(t, of(halts(31)), api.State{}, 1, at(0, -1))
	wantTrail(t, of(halts(31)), api.State{}, 0)
	// Ends that turn to their own block.
	wantRun(t, of(with(jumps(0), adds(1, 1, 0))), regs(1), 7, fuel(7), regs(1, 4))
	wantRun(t, of(with(branches(1, 0, 1), adds(1, 1, 0)), halts(0)), regs(-1, 3), 99, halted(-1, 7), regs(-1, 0))
}

func TestLoops(t *testing.T) {
	round := adds(2, 2, 3)
	for _, c := range []struct{ a, rounds int64 }{
		{0, 0}, {-1, 0}, {math.MinInt64, 0}, {1, 1}, {2, 2}, {3, 3}, {50, 50},
	} {
		steps := int(2*c.rounds + 2)
		wantRun(t, of(loops(1, 1, round), halts(2)), regs(0, c.a, 5, 1), 200, halted(5+c.rounds, steps), regs(0, c.a, 5+c.rounds, 1))
		wantRun(t, of(loops(1, 1, round), halts(2)), regs(0, c.a, 5, 1), steps-1, fuel(steps-1), regs(0, c.a, 5+c.rounds, 1))
		// An empty body: each coming to the end is a step.
		steps = int(c.rounds + 2)
		wantRun(t, of(loops(1, 1), halts(2)), regs(0, c.a, 5), 200, halted(5, steps), regs(0, c.a, 5))
		wantRun(t, of(loops(1, 1), halts(2)), regs(0, c.a, 5), steps-1, fuel(steps-1), regs(0, c.a, 5))
	}
	// The rounds are those of A when it was come to, whatever the body writes there.
	for _, written := range []int64{0, 100, -5} {
		p := of(loops(1, 1, consts(1, written), round), halts(1))
		wantRun(t, p, regs(0, 3, 0, 1), 200, halted(written, 11), regs(0, written, 3, 1))
		// Without a round nothing is written.
		wantRun(t, p, regs(0, 0, 0, 1), 200, halted(0, 2), regs(0, 0, 0, 1))
	}
	// Ops may write A; it is read behind them.
	wantRun(t, of(with(loops(1, 1, round), consts(1, 2)), halts(2)), regs(0, 9, 0, 1), 99, halted(2, 7), regs(0, 2, 2, 1))
	// As many rounds as there are numbers: it does not end, nor lose count.
	m := machine(t, of(loops(1, 1), halts(0)), regs(0, math.MaxInt64))
	wantOutcome(t, m.Run(math.MaxInt), fuel(api.MaxSteps))
	wantOutcome(t, m.Run(5), fuel(api.MaxSteps+5))
}

func TestLoopsThatAreComeToAgain(t *testing.T) {
	// Two, one, no rounds, each time of another number in A.
	p := of(with(loops(1, 1, prints(1)), adds(1, 1, 2)), branches(1, 0, 2), halts(1))
	wantRun(t, p, regs(0, 3, -1), 99, api.Outcome{Steps: 16, Prints: numbers(2, 2, 1)}, regs(0, 0, -1))
	wantTrail(t, p, regs(0, 3, -1), 99,
		at(0, 0), at(0, -1), body(0, 0), at(0, -1), body(0, 0), at(0, -1), at(1, -1),
		at(0, 0), at(0, -1), body(0, 0), at(0, -1), at(1, -1),
		at(0, 0), at(0, -1), at(1, -1), at(2, -1))
	// Then is its own block, without Ops and with: the rounds are read anew.
	p = of(loops(1, 0, adds(1, 1, 2), prints(1)))
	wantRun(t, p, regs(0, 2, 1), 14, fuel(14, 3, 4, 5, 6), regs(0, 6, 1))
	wantTrail(t, p, regs(0, 2, 1), 14, at(0, -1), body(0, 0), body(0, 1), at(0, -1), body(0, 0), body(0, 1), at(0, -1),
		at(0, -1), body(0, 0), body(0, 1), at(0, -1), body(0, 0), body(0, 1), at(0, -1))
	wantTrail(t, of(loops(1, 0)), regs(0, 1), 5, at(0, -1), at(0, -1), at(0, -1), at(0, -1), at(0, -1))
	// One loop behind another: each with rounds of its own.
	p = of(loops(1, 1, prints(1)), loops(2, 2, prints(2)), halts(0))
	wantRun(t, p, regs(0, 1, 3), 99, halted(0, 2+1+4+3+1, 1, 3, 3, 3), regs(0, 1, 3))
}

// A ring of empty loops and jumps changes nothing, and goes on as long as it is let.
func TestRunsThatDoNotEnd(t *testing.T) {
	for _, p := range []api.Program{of(jumps(0)), of(branches(0, 0, 0)), of(loops(0, 0)), of(jumps(1), loops(3, 0))} {
		m := machine(t, p, regs(1, 2, 3, 4))
		for _, c := range []struct{ steps, want int }{
			{math.MinInt, 0}, {-1, 0}, {0, 0}, {1, 1}, {7, 8}, {-7, 8}, {0, 8}, {api.MaxSteps - 1, api.MaxSteps + 7},
			{api.MaxSteps, 2*api.MaxSteps + 7}, {api.MaxSteps + 1, 3*api.MaxSteps + 7}, {math.MaxInt, 4*api.MaxSteps + 7},
		} {
			wantOutcome(t, m.Run(c.steps), fuel(c.want))
		}
		if !sameState(m.State(), full(regs(1, 2, 3, 4))) {
			t.Errorf("%v: %v", p, m.State())
		}
	}
}

func TestAskedAgain(t *testing.T) {
	for _, c := range []struct {
		p    api.Program
		want api.Outcome
	}{
		{of(with(halts(1), prints(1), stores(0, 1, 3))), halted(8, 3, 8)},
		{of(with(halts(1), prints(1), divides(2, 1, 0))), trapped(1, 8)},
	} {
		m := machine(t, c.p, regs(0, 8))
		if c.want.E == api.OK {
			c.want.Mem = make([]int64, 256)
			c.want.Mem[3] = 8
		}
		for _, steps := range []int{3, 0, 1, -1, 100, math.MaxInt, math.MinInt} {
			wantOutcome(t, m.Run(steps), c.want)
			if got := m.State(); !slices.Equal(got.Regs, full(regs(0, 8)).Regs) {
				t.Errorf("registers %v", got.Regs)
			}
		}
	}
}

func TestStepsOfARun(t *testing.T) {
	// As many as are wanted, and one fewer: then it goes on with one more.
	m := machine(t, sums(), api.State{})
	wantOutcome(t, m.Run(9), fuel(9, 9))
	wantOutcome(t, m.Run(0), fuel(9, 9))
	wantOutcome(t, m.Run(1), api.Outcome{Value: 9, Prints: numbers(9), Mem: make([]int64, 256), Steps: 10})
	for _, steps := range []int{10, 11, api.MaxSteps, api.MaxSteps + 1, math.MaxInt} {
		wantRun(t, sums(), api.State{}, steps, halted(9, 10, 9), regs(0, 3, 9))
	}
	for _, steps := range []int{0, -1, -100, math.MinInt} {
		wantRun(t, sums(), api.State{}, steps, fuel(0), api.State{})
	}
	// A run that wants just MaxSteps, and one that wants one more.
	rounds := int64(api.MaxSteps/2 - 1)
	p := of(loops(1, 1, adds(2, 2, 3)), halts(2))
	wantRun(t, p, regs(0, rounds, 0, 1), api.MaxSteps, halted(rounds, api.MaxSteps), regs(0, rounds, rounds, 1))
	p = of(loops(1, 1, adds(2, 2, 3)), with(halts(2), moves(4, 2)))
	m = machine(t, p, regs(0, rounds, 0, 1))
	wantOutcome(t, m.Run(api.MaxSteps+1), fuel(api.MaxSteps))
	if o := m.Run(1); o.E != api.OK || o.Value != rounds || o.Steps != api.MaxSteps+1 {
		t.Errorf("%v, %d, %d", o.E, o.Value, o.Steps)
	}
}

func TestStateInTheMidst(t *testing.T) {
	p := of(with(loops(2, 1, loads(3, 1, 0), adds(3, 3, 3), stores(1, 3, 1), prints(3)), consts(2, 2)), halts(3))
	m := machine(t, p, api.State{Mem: numbers(5)})
	for n, want := range []api.State{
		regs(0, 0, 2, 0), regs(0, 0, 2, 0), regs(0, 0, 2, 5), regs(0, 0, 2, 10), regs(0, 0, 2, 10), regs(0, 0, 2, 10),
		regs(0, 0, 2, 10), regs(0, 0, 2, 5), regs(0, 0, 2, 10), regs(0, 0, 2, 10), regs(0, 0, 2, 10), regs(0, 0, 2, 10),
	} {
		m.Run(1)
		want.Mem = numbers(5, 0)
		if n >= 4 {
			want.Mem[1] = 10
		}
		if got := m.State(); !sameState(got, full(want)) {
			t.Errorf("behind %d steps: %v %v", n+1, got.Regs[:4], got.Mem[:2])
		}
	}
	wantOutcome(t, m.Run(1), api.Outcome{Value: 10, Steps: 13, Prints: numbers(10, 10), Mem: append(numbers(5, 10), make([]int64, 254)...)})
}

func TestNilMachine(t *testing.T) {
	var m *Machine
	for _, steps := range []int{0, 1, -1, math.MaxInt, math.MinInt} {
		if o := m.Run(steps); !reflect.DeepEqual(o, api.Outcome{E: api.ErrNil}) {
			t.Errorf("Run(%d) = %+v", steps, o)
		}
	}
	if s := m.State(); len(s.Regs) != 0 || len(s.Mem) != 0 {
		t.Errorf("State() = %v", s)
	}
}

func TestStepsOfATrail(t *testing.T) {
	for _, steps := range []int{0, -1, math.MinInt} {
		wantTrail(t, sums(), api.State{}, steps)
	}
	const most = 1 << 16
	for _, c := range []struct{ steps, want int }{
		{1, 1}, {most - 1, most - 1}, {most, most}, {most + 1, most}, {api.MaxSteps, most}, {math.MaxInt, most},
	} {
		tags, e := Trail(of(with(jumps(1), prints(0)), with(loops(1, 0, prints(1)))), regs(0, 1), c.steps)
		round := []api.Tag{at(0, 0), at(0, -1), at(1, -1), body(1, 0), at(1, -1)}
		if e != api.OK || len(tags) != c.want {
			t.Errorf("Trail(%d): %d tags, %v", c.steps, len(tags), e)
		}
		for n, tag := range tags {
			if tag != round[n%5] {
				t.Fatalf("tag %d is %v", n, tag)
			}
		}
	}
	// A run that ends with just as many steps, and one that wants one more.
	rounds := int64(most/2 - 1)
	p := of(loops(1, 1, prints(1)), with(halts(2)))
	tags, e := Trail(p, regs(0, rounds), most)
	if e != api.OK || len(tags) != most || tags[most-1] != at(1, -1) {
		t.Errorf("%d tags, %v", len(tags), e)
	}
	p.Blocks[1].Ops = []api.Op{prints(2)}
	tags, e = Trail(p, regs(0, rounds), most+1)
	if e != api.OK || len(tags) != most || tags[most-1] != at(1, 0) {
		t.Errorf("%d tags, %v", len(tags), e)
	}
}

func TestGreatestPrograms(t *testing.T) {
	var blocks []api.Block
	for n := range api.MaxBlocks {
		blocks = append(blocks, with(jumps(n+1), slices.Repeat([]api.Op{adds(1, 1, 2)}, 7)...))
	}
	blocks[127].End, blocks[127].Then, blocks[127].A = api.EndHalt, 0, 1
	wantRun(t, of(blocks...), regs(0, 0, 3), 1024, halted(3*7*128, 1024), regs(0, 3*7*128, 3))
	wantRun(t, of(blocks...), regs(0, 0, 3), 1023, fuel(1023), regs(0, 3*7*128, 3))
	p := of(loops(2, 1, slices.Repeat([]api.Op{adds(1, 1, 2)}, 1022)...), halts(1))
	wantRun(t, p, regs(0, 0, 3), 5000, halted(3*3*1022, 3*1023+2), regs(0, 3*3*1022, 3))
}
