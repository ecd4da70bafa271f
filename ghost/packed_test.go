package ghost

import (
	"math"
	"math/rand"
	"slices"
	"testing"

	"hayloft/api"
	"hayloft/bundle"
	"hayloft/modulo"
	"hayloft/ops"
	"hayloft/pack"
	"hayloft/serial"
)

func with(b api.Block, l ...api.Op) api.Block {
	b.Ops = l
	return b
}

func jumps(then int) api.Block { return api.Block{End: api.EndJump, Then: then} }

func branches(a uint8, then, orElse int) api.Block {
	return api.Block{End: api.EndBranch, A: a, Then: then, Else: orElse}
}

func halts(a uint8) api.Block { return api.Block{End: api.EndHalt, A: a} }

func loops(a uint8, then int, body ...api.Op) api.Block {
	return api.Block{End: api.EndLoop, A: a, Body: body, Then: then}
}

func blocks(l ...api.Block) api.Program { return api.Program{Blocks: l} }

// readOps answers operations as they are told.
func readOps(t testing.TB, texts ...string) []api.Op {
	t.Helper()
	var l []api.Op
	for _, text := range texts {
		l = append(l, readOp(t, text))
	}
	return l
}

// chanceStep answers an operation of a program that has as many registers.
func chanceStep(r *rand.Rand, registers int) api.Op {
	register := func() uint8 { return uint8(r.Intn(registers)) }
	do := api.Const + r.Intn(api.Print+2)
	imm := int64(r.Intn(9) - 2)
	if do > api.Print { // more of these than of others
		do = api.Load + do%2
	}
	if do >= api.Load {
		imm += 256 * int64(r.Intn(3)-1)
	}
	return opOf(do, register(), register(), register(), imm)
}

// chanceSteps answers at most as many operations.
func chanceSteps(r *rand.Rand, registers, most int) []api.Op {
	var l []api.Op
	for range r.Intn(most + 1) {
		l = append(l, chanceStep(r, registers))
	}
	return l
}

// chanceProgram answers a program of any blocks; half of the time most of its turns go on to later ones.
func chanceProgram(r *rand.Rand) api.Program {
	count, registers, onward := 1+r.Intn(6), 4+r.Intn(28), r.Intn(2) == 0
	var p api.Program
	for n := range count {
		to := func() int {
			if onward && n < count-1 && r.Intn(5) > 0 {
				return n + 1 + r.Intn(count-1-n)
			}
			return r.Intn(count)
		}
		a := uint8(r.Intn(registers))
		b := [4]api.Block{jumps(to()), branches(a, to(), to()), halts(a), loops(a, to(), chanceSteps(r, registers, 7)...)}[r.Intn(4)]
		p.Blocks = append(p.Blocks, with(b, chanceSteps(r, registers, 7)...))
	}
	if onward {
		p.Blocks[count-1] = with(halts(uint8(r.Intn(registers))), p.Blocks[count-1].Ops...)
	}
	return p
}

// chanceForks answers a program of branches to blocks that begin with what could be done early: some of it is come to again and again, as half of
// the time a turn goes back.
func chanceForks(r *rand.Rand) api.Program {
	var p api.Program
	count, registers := 3+r.Intn(6), 8+r.Intn(24)
	for n := range count {
		var l []api.Op
		for range r.Intn(3) {
			l = append(l, opOf(api.Const+r.Intn(api.Times), uint8(r.Intn(registers)), uint8(r.Intn(registers)), uint8(r.Intn(registers)), 3))
		}
		l = append(l, chanceSteps(r, registers, 4)...)
		b := loops(uint8(r.Intn(registers)), min(n+1, count-1), chanceSteps(r, registers, 4)...)
		if n < count-1 && r.Intn(4) > 0 {
			b = branches(uint8(r.Intn(registers)), n+1, n+1+r.Intn(count-1-n))
			if r.Intn(2) == 0 {
				b.Else = count - 1
			}
		}
		p.Blocks = append(p.Blocks, with(b, l...))
	}
	p.Blocks[count-1] = with(halts(uint8(r.Intn(registers))), p.Blocks[count-1].Ops...)
	if back := 1 + r.Intn(count-1); back < count-1 && r.Intn(2) == 0 { // a register less each time that it goes back to the first block
		p.Blocks[back] = with(branches(0, 0, count-1), opOf(api.Const, 1, 0, 0, 1), opOf(api.Sub, 0, 0, 1, 0))
	}
	return p
}

// chanceQuick answers a table whose results land soon, so that there is room behind a branch.
func chanceQuick(r *rand.Rand) api.Table {
	m := chanceTable(r)
	for class := range api.Classes {
		m.Lat[class], m.Busy[class] = 1+r.Intn(3), 1+r.Intn(2)
	}
	return m
}

// chanceSmall answers a state of small numbers, so that loops are of few rounds.
func chanceSmall(r *rand.Rand) api.State {
	s := api.State{Regs: make([]int64, 32), Mem: make([]int64, 256)}
	for n := range s.Regs {
		s.Regs[n] = int64(r.Intn(11) - 2)
		if r.Intn(4) == 0 {
			s.Regs[n] = 0
		}
	}
	for n := range s.Mem {
		s.Mem[n] = int64(r.Intn(7) - 2)
	}
	return s
}

// deeds is what was done of a tag, each time with the values that were read.
type deeds map[api.Tag][][]int64

// ghosts is a program, what it is packed as, and what the program itself does.
type ghosts struct {
	p     api.Program
	m     api.Table
	s     api.State
	k     api.Packed
	l     []api.Bundle
	out   api.Outcome
	trail []api.Tag
	done  deeds
	early map[api.Tag]bool // by the tags that they have in the trail
}

// opOfTag answers the operation that a tag stands for.
func opOfTag(p api.Program, tag api.Tag) api.Op {
	if tag.Loop {
		return p.Blocks[tag.Block].Body[tag.Op]
	}
	return p.Blocks[tag.Block].Ops[tag.Op]
}

func ghostsOf(t testing.TB, p api.Program, m api.Table, s api.State, steps int) *ghosts {
	t.Helper()
	k, e := pack.Pack(p, m)
	if e != api.OK {
		t.Fatal(p, m, e)
	}
	l, e := bundle.Decode(k.Words, m)
	if e != api.OK {
		t.Fatal(p, m, e)
	}
	g := &ghosts{p: p, m: m, s: s, k: k, l: l, done: deeds{}, early: map[api.Tag]bool{}}
	for _, row := range k.Tags {
		for _, tag := range row {
			if tag.Spec {
				g.early[api.Tag{Block: tag.Block, Op: tag.Op}] = true
			}
		}
	}
	one, e := serial.New(p, s)
	if e != api.OK {
		t.Fatal(p, e)
	}
	g.trail, e = serial.Trail(p, s, steps)
	if e != api.OK {
		t.Fatal(p, e)
	}
	for _, tag := range g.trail {
		if tag.Op >= 0 {
			g.done[tag] = append(g.done[tag], valuesOf(opOfTag(p, tag), one.State().Regs))
		}
		one.Run(1)
	}
	g.out = one.Run(0)
	return g
}

// enough answers how many cycles at most the packed program takes for what the program did.
func (g *ghosts) enough() int { return min(len(g.l)*(len(g.trail)+1), 1<<16) }

// want says of a run of so many cycles what the chapter says of packed programs, and answers it.
func (g *ghosts) want(t testing.TB, cycles int) ([]api.Issue, api.Outcome) {
	t.Helper()
	issues, o := wantTold(t, g.k, g.l, g.m, g.s, cycles)
	if !Busy(issues, g.m) || Hazards(issues, g.m) != 0 {
		t.Fatalf("%v, %v, %v: busy %v, %d hazards in %v", g.p, g.m, g.s, Busy(issues, g.m), Hazards(issues, g.m), issues)
	}
	if g.out.E == api.OK {
		g.wantDone(t, tell(g.l, g.k.Tags, g.m, g.s, cycles), o.E == api.OK)
	}
	if g.out.E != api.ErrFuel {
		g.wantInOrder(t, issues, o.E)
	}
	return issues, o
}

// wantDone says that what was issued stands for what the program does: the n-th issue of a tag for the n-th time in the trail. What is done
// early is issued each time that it may be needed, and so may be issued more often.
func (g *ghosts) wantDone(t testing.TB, run *again, ended bool) {
	t.Helper()
	issued := deeds{}
	for n, i := range run.issues {
		if i.Tag.Op >= 0 {
			issued[i.Tag] = append(issued[i.Tag], run.values[n])
		}
	}
	equal := func(a, b []int64) bool { return slices.Equal(a, b) }
	for tag, list := range issued {
		if tag.Spec {
			continue
		}
		done := g.done[tag]
		if g.early[tag] || len(list) > len(done) || !slices.EqualFunc(list, done[:len(list)], equal) {
			t.Fatalf("%v, %v, %v: %v was issued with %v, done with %v", g.p, g.m, g.s, tag, list, done)
		}
	}
	for tag, done := range g.done {
		early := tag
		early.Spec = true
		list := issued[early]
		switch {
		case !ended:
		case !g.early[tag] && len(issued[tag]) != len(done), g.early[tag] && len(list) < len(done):
			t.Fatalf("%v, %v, %v: %v was issued %d times, early %d times, done %d times", g.p, g.m, g.s, tag, len(issued[tag]), len(list), len(done))
		case g.early[tag] && len(list) == len(done) && !slices.EqualFunc(list, done, equal):
			t.Fatalf("%v, %v, %v: %v was issued early with %v, done with %v", g.p, g.m, g.s, tag, list, done)
		}
	}
}

// ordered answers whether it is one of those that keep their order whatever becomes of the others.
func ordered(do int8) bool { return do == api.Print || do == api.Divide || do == api.Rest }

// wantInOrder says that prints, divisions and rests are issued as the program does them, up to the trap, if it ends with one.
func (g *ghosts) wantInOrder(t testing.TB, issues []api.Issue, end api.Errno) {
	t.Helper()
	var got, want []api.Tag
	for _, i := range issues {
		if ordered(i.Op.Do) {
			got = append(got, i.Tag)
		}
	}
	for _, tag := range g.trail {
		if tag.Op >= 0 && ordered(opOfTag(g.p, tag).Do) {
			want = append(want, tag)
		}
	}
	trap := 0
	if g.out.E == api.ErrDivide && end == api.ErrDivide {
		trap = 1
		if len(got) == 0 || issues[len(issues)-1].Tag != got[len(got)-1] {
			t.Fatalf("%v, %v, %v: ends behind %v", g.p, g.m, g.s, issues)
		}
	}
	short := end == api.ErrFuel && len(got) <= len(want)
	if !short && len(got) != len(want)+trap || !slices.Equal(got[:len(got)-trap], want[:len(got)-trap]) {
		t.Fatalf("%v, %v, %v: %v, %v, want %v and %d", g.p, g.m, g.s, end, got, want, trap)
	}
}

// wantGhosts says it of a whole run, and of parts of it, and that it ends where the program does; and answers how it ended.
func wantGhosts(t testing.TB, r *rand.Rand, p api.Program, m api.Table, s api.State) (*ghosts, []api.Issue, api.Outcome) {
	t.Helper()
	g := ghostsOf(t, p, m, s, 300)
	cycles := 300
	if g.out.E != api.ErrFuel {
		cycles = g.enough()
	}
	issues, o := g.want(t, cycles)
	if g.out.E != api.ErrFuel && (o.E != g.out.E || o.Value != g.out.Value || !slices.Equal(o.Prints, g.out.Prints)) {
		t.Fatalf("%v, %v, %v: %v, want %v", p, m, s, o, g.out)
	}
	for range 3 {
		g.want(t, r.Intn(o.Steps+1))
	}
	return g, issues, o
}

// P23.4, P23.5.
func TestPackedPrograms(t *testing.T) {
	r := rand.New(rand.NewSource(239))
	ended := map[api.Errno]int{}
	for range 700 {
		p, m := chanceProgram(r), chanceTable(r)
		for range 2 {
			_, _, o := wantGhosts(t, r, p, m, chanceSmall(r))
			ended[o.E]++
		}
	}
	if len(ended) != 3 || min(ended[api.OK], ended[api.ErrDivide], ended[api.ErrFuel]) < 120 {
		t.Errorf("by ends %v", ended)
	}
}

// P23.4, P23.5 of what is done early: where it is needed, and where it is not.
func TestPackedForks(t *testing.T) {
	r := rand.New(rand.NewSource(240))
	needed, more, ended := map[api.Errno]int{}, map[api.Errno]int{}, map[api.Errno]int{}
	for range 900 {
		p, m := chanceForks(r), chanceQuick(r)
		for range 2 {
			g, issues, o := wantGhosts(t, r, p, m, chanceSmall(r))
			issued := map[api.Tag]int{}
			for _, i := range issues {
				if i.Tag.Spec {
					issued[api.Tag{Block: i.Tag.Block, Op: i.Tag.Op}]++
				}
			}
			for tag, count := range issued {
				if count > len(g.done[tag]) {
					more[o.E]++
				}
				if len(g.done[tag]) > 0 {
					needed[o.E]++
				}
			}
			ended[o.E]++
		}
	}
	if min(ended[api.OK], ended[api.ErrDivide]) < 200 || min(needed[api.OK], needed[api.ErrDivide], more[api.OK], more[api.ErrDivide]) < 30 {
		t.Errorf("by ends %v; early and needed %v, more often than that %v", ended, needed, more)
	}
}

// P23.4, P23.5 of loops of any number of rounds, none and fewer than overlap too, with and without something that traps in the midst of them.
func TestPackedLoops(t *testing.T) {
	chain := readOps(t, "load r1 r2 0", "add r3 r3 r1", "times r4 r3 r1", "add r2 r2 r5", "store r2 r4 100", "print r4")
	end := with(halts(3), readOps(t, "print r1", "print r2", "print r3", "print r4")...)
	p := blocks(with(branches(31, 1, 3), readOps(t, "const r5 1")...), with(loops(31, 2, chain...), readOps(t, "add r6 r5 r5")...), loops(30, 3, chain[2:]...), end)
	trap := blocks(loops(31, 1, append(readOps(t, "add r7 r7 r8", "divide r9 r5 r7"), chain...)...), end)
	r := rand.New(rand.NewSource(241))
	overlap := 0
	for range 25 {
		m, s := chanceTable(r), chanceSmall(r)
		if plan, _ := modulo.Find(chain, m); plan.Stages > 1 {
			overlap++
		}
		for rounds := int64(-2); rounds < 12; rounds++ {
			s.Regs[31], s.Regs[30] = rounds, 8-rounds
			if _, _, o := wantGhosts(t, r, p, m, s); o.E != api.OK {
				t.Fatal(m, o)
			}
			s.Regs[5], s.Regs[7], s.Regs[8] = 6, -5, 1 // the fifth round traps
			want := api.OK
			if rounds >= 5 {
				want = api.ErrDivide
			}
			if _, _, o := wantGhosts(t, r, trap, m, s); o.E != want {
				t.Fatal(m, o)
			}
		}
		for _, rounds := range []int64{math.MinInt64, math.MaxInt64} {
			s.Regs[31], s.Regs[30] = rounds, 2
			wantGhosts(t, r, p, m, s)
		}
	}
	if overlap < 8 {
		t.Errorf("rounds overlap under %d tables", overlap)
	}
}

// As many cycles as there can be, of loops that go on and on: units and flights are as they must be in each.
func TestPackedLong(t *testing.T) {
	body := readOps(t, "load r3 r4 0", "add r2 r2 r3", "add r4 r4 r5", "times r6 r2 r3", "store r4 r6 1", "print r6")
	p := blocks(loops(1, 0, body...))
	s := api.State{Regs: []int64{0, 1000, 0, 0, 0, 1}}
	for _, m := range []api.Table{ones(), delayed(lats(ones(), 1, 3, 4, 1), 1), busies(lats(wide(), 2, 8, 5, 1), 1, 4, 2, 3)} {
		k, e := pack.Pack(p, m)
		if e != api.OK {
			t.Fatal(e)
		}
		l, o, e := Run(k, m, s, math.MaxInt)
		if e != api.OK || o.E != api.ErrFuel || o.Steps != 1<<16 || l[len(l)-1].Cycle < 1<<16-20 || !Busy(l, m) || Hazards(l, m) != 0 {
			t.Errorf("%v: %v, %v, %d steps, %d issues, %v, %d", m, e, o.E, o.Steps, len(l), Busy(l, m), Hazards(l, m))
		}
		// One more, or one that is moved, does not go unseen.
		r := rand.New(rand.NewSource(242))
		for range 5 {
			n := r.Intn(len(l))
			twice := append(slices.Clone(l), l[n])
			if class, _ := ops.Class(l[n].Op.Do); m.Units[class] == 1 && Busy(twice, m) {
				t.Errorf("%v: busy with %v twice", m, l[n])
			}
			if _, writes := ops.Writes(l[n].Op); writes && Hazards(twice, m) == 0 {
				t.Errorf("%v: no hazards with %v twice", m, l[n])
			}
		}
	}
}
