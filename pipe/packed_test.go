package pipe

import (
	"math/rand"
	"slices"
	"testing"

	"hayloft/api"
	"hayloft/modulo"
	"hayloft/pack"
	"hayloft/serial"
)

func with(b api.Block, l ...api.Op) api.Block {
	b.Ops = l
	return b
}

func jumps(then int) api.Block { return api.Block{End: api.EndJump, Then: then} }

func branches(a uint8, then, orElse int) api.Block {
	return api.Block{End: api.EndBranch, A: a, Then: then, Else: orElse}
}

func halts(a uint8) api.Block { return api.Block{End: api.EndHalt, A: a} }

func loops(a uint8, then int, body ...api.Op) api.Block {
	return api.Block{End: api.EndLoop, A: a, Body: body, Then: then}
}

func blocks(l ...api.Block) api.Program { return api.Program{Blocks: l} }

// readOps answers operations as they are told.
func readOps(t testing.TB, texts ...string) []api.Op {
	t.Helper()
	var l []api.Op
	for _, text := range texts {
		l = append(l, readOp(t, text))
	}
	return l
}

// chanceStep answers an operation of a program that has as many registers.
func chanceStep(r *rand.Rand, registers int) api.Op {
	register := func() uint8 { return uint8(r.Intn(registers)) }
	do := api.Const + r.Intn(api.Print+2)
	imm := int64(r.Intn(9) - 2)
	if do > api.Print { // more of these than of others
		do = api.Load + do%2
	}
	if do >= api.Load {
		imm += 256 * int64(r.Intn(3)-1)
	}
	return opOf(do, register(), register(), register(), imm)
}

// chanceSteps answers at most as many operations.
func chanceSteps(r *rand.Rand, registers, most int) []api.Op {
	var l []api.Op
	for range r.Intn(most + 1) {
		l = append(l, chanceStep(r, registers))
	}
	return l
}

// chanceProgram answers a program of any blocks; half of the time most of its turns go on to later ones.
func chanceProgram(r *rand.Rand) api.Program {
	count, registers, onward := 1+r.Intn(6), 4+r.Intn(28), r.Intn(2) == 0
	var p api.Program
	for n := range count {
		to := func() int {
			if onward && n < count-1 && r.Intn(5) > 0 {
				return n + 1 + r.Intn(count-1-n)
			}
			return r.Intn(count)
		}
		a := uint8(r.Intn(registers))
		b := [4]api.Block{jumps(to()), branches(a, to(), to()), halts(a), loops(a, to(), chanceSteps(r, registers, 7)...)}[r.Intn(4)]
		p.Blocks = append(p.Blocks, with(b, chanceSteps(r, registers, 7)...))
	}
	if onward {
		p.Blocks[count-1] = with(halts(uint8(r.Intn(registers))), p.Blocks[count-1].Ops...)
	}
	return p
}

// chanceSmall answers a state of small numbers, so that loops are of few rounds.
func chanceSmall(r *rand.Rand) api.State {
	s := api.State{Regs: make([]int64, 32), Mem: make([]int64, 256)}
	for n := range s.Regs {
		s.Regs[n] = int64(r.Intn(11) - 2)
	}
	for n := range s.Mem {
		s.Mem[n] = int64(r.Intn(7) - 2)
	}
	return s
}

// both answers a serial machine of a program, and one of bundles of what it is packed as, and how many bundles these are.
func both(t testing.TB, p api.Program, m api.Table, s api.State) (*serial.Machine, *Machine, int) {
	t.Helper()
	one, e := serial.New(p, s)
	if e != api.OK {
		t.Fatal(p, e)
	}
	k, e := pack.Pack(p, m)
	if e != api.OK {
		t.Fatal(p, m, e)
	}
	many, e := New(k.Words, m, s)
	if e != api.OK {
		t.Fatal(p, m, e)
	}
	return one, many, len(k.Tags)
}

func begins(l, with []int64) bool { return len(with) <= len(l) && slices.Equal(l[:len(with)], with) }

// wantTheSame says of P1 and P3 that what a program is packed as does what the program says, and answers how that ended.
func wantTheSame(t testing.TB, p api.Program, m api.Table, s api.State) api.Outcome {
	t.Helper()
	const steps = 500
	one, many, bundles := both(t, p, m, s)
	want := one.Run(steps)
	if want.E == api.ErrFuel {
		got := many.Run(steps)
		// So many operations at most were issued in as many cycles.
		if want = one.Run(steps * api.Classes * api.MaxUnits); !begins(want.Prints, got.Prints) || got.E != api.ErrFuel && got.E != want.E {
			t.Fatalf("%v, %v, %v: %v, want %v", p, m, s, told(got), told(want))
		}
		return got
	}
	limit := bundles * (want.Steps + 1)
	for made := 0; made < limit; {
		part := 1 + made // ever longer ones
		made += part
		got := many.Run(min(part, limit-made+part))
		if got.E == api.ErrFuel {
			if !begins(want.Prints, got.Prints) || got.Value != 0 || got.Mem != nil {
				t.Fatalf("%v, %v, %v: %v, want a beginning of %v", p, m, s, told(got), told(want))
			}
			continue
		}
		if got.E != want.E || got.Value != want.Value || !slices.Equal(got.Prints, want.Prints) || !slices.Equal(got.Mem, want.Mem) || got.Steps > limit {
			t.Fatalf("%v, %v, %v: %v, want %v", p, m, s, told(got), told(want))
		}
		return got
	}
	t.Fatalf("%v, %v, %v: not ended behind %d cycles, want %v", p, m, s, limit, told(want))
	return want
}

func TestPackedPrograms(t *testing.T) {
	r := rand.New(rand.NewSource(221))
	ended := map[api.Errno]int{}
	for range 2500 {
		p, m := chanceProgram(r), chanceTable(r)
		for range 2 {
			ended[wantTheSame(t, p, m, chanceSmall(r)).E]++
		}
	}
	if len(ended) != 3 || min(ended[api.OK], ended[api.ErrDivide], ended[api.ErrFuel]) < 300 {
		t.Errorf("by ends %v", ended)
	}
}

// P2: loops of any number of rounds, one behind the other, none and fewer than overlap too.
func TestPackedLoops(t *testing.T) {
	chain := readOps(t, "load r1 r2 0", "add r3 r3 r1", "times r4 r3 r1", "add r2 r2 r5", "store r2 r4 100")
	end := with(halts(3), readOps(t, "print r1", "print r2", "print r3", "print r4")...)
	p := blocks(with(branches(31, 1, 3), readOps(t, "const r5 1")...), with(loops(31, 2, chain...), readOps(t, "add r6 r5 r5")...), loops(30, 3, chain[2:]...), end)
	r := rand.New(rand.NewSource(222))
	for range 80 {
		m, s := chanceTable(r), chanceSmall(r)
		for rounds := int64(-2); rounds < 14; rounds++ {
			s.Regs[31], s.Regs[30] = rounds, 8-rounds
			if o := wantTheSame(t, p, m, s); o.E != api.OK {
				t.Fatal(m, told(o))
			}
		}
		s.Regs[31], s.Regs[30] = -1<<63, 3
		wantTheSame(t, p, m, s)
		s.Regs[31] = 1<<63 - 1
		if o := wantTheSame(t, p, m, s); o.E != api.ErrFuel {
			t.Fatal(m, told(o))
		}
	}
}

// A sum over a loaded row of a 1000 rounds takes little more than as many cycles as lie between their beginnings; few rounds go the slow way.
func TestPackedSum(t *testing.T) {
	m := delayed(lats(ones(), 1, 1, 4, 1), 1)
	body := readOps(t, "load r3 r4 0", "add r2 r2 r3", "add r4 r4 r5")
	plan, _ := modulo.Find(body, m)
	p := blocks(loops(1, 1, body...), halts(2))
	s := api.State{Regs: []int64{0, 1000, 0, 0, 0, 1}, Mem: numbers(256, 1)}
	_, many, _ := both(t, p, m, s)
	o := many.Run(api.MaxSteps)
	want := int64(3*256*257/2 + 232*233/2)
	if o.E != api.OK || o.Value != want || o.Steps < 1000*plan.Every || o.Steps > 1000*plan.Every+30 {
		t.Errorf("%v, want %d, a round each %d cycles", told(o), want, plan.Every)
	}
	for rounds := range int64(3) {
		s.Regs[1] = rounds
		if o := wantTheSame(t, p, m, s); o.Value != rounds*(rounds+1)/2 {
			t.Error(told(o))
		}
	}
}

// The examples of the whole: a divide by 0 ends both machines with ErrDivide, behind the same prints.
func TestPackedTrap(t *testing.T) {
	r := rand.New(rand.NewSource(223))
	p := blocks(with(halts(1), readOps(t, "print r1", "print r2", "rest r3 r1 r0", "print r1")...))
	for range 200 {
		o := wantTheSame(t, p, chanceTable(r), regs(0, 4, 5))
		if o.E != api.ErrDivide || !slices.Equal(o.Prints, []int64{4, 5}) {
			t.Fatal(told(o))
		}
	}
}
