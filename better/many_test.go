package better

import (
	"math"
	"math/rand"
	"slices"
	"sync"
	"testing"

	"hayloft/api"
	"hayloft/live"
	"hayloft/ops"
	"hayloft/program"
	"hayloft/race"
	"hayloft/serial"
)

// opOf answers an operation of a program of that kind, with those of the fields that count with it.
func opOf(do int, d, a, b uint8, imm int64) api.Op {
	switch do {
	case api.Const:
		return api.Op{Do: int8(do), D: d, Imm: imm}
	case api.Move:
		return api.Op{Do: int8(do), D: d, A: a}
	case api.Load:
		return api.Op{Do: int8(do), D: d, A: a, Imm: imm}
	case api.Store:
		return api.Op{Do: int8(do), A: a, B: b, Imm: imm}
	case api.Print:
		return api.Op{Do: int8(do), A: a}
	}
	return api.Op{Do: int8(do), D: d, A: a, B: b}
}

func with(b api.Block, l ...api.Op) api.Block {
	b.Ops = l
	return b
}

func jumps(then int) api.Block { return api.Block{End: api.EndJump, Then: then} }

func branches(a uint8, then, orElse int) api.Block {
	return api.Block{End: api.EndBranch, A: a, Then: then, Else: orElse}
}

func halts(a uint8) api.Block { return api.Block{End: api.EndHalt, A: a} }

func loops(a uint8, then int, body ...api.Op) api.Block {
	return api.Block{End: api.EndLoop, A: a, Body: body, Then: then}
}

// chanceImm answers mostly small numbers, and 0 often; now and then those at a Const's bounds.
func chanceImm(r *rand.Rand) int64 {
	switch r.Intn(6) {
	case 0:
		return 0
	case 1:
		return []int64{math.MinInt32, math.MaxInt32, math.MinInt32 + 1, math.MaxInt32 - 1, 1 << 30, 63, 64, 31, 32}[r.Intn(9)]
	}
	return int64(r.Intn(12) - 3)
}

// chanceOps answers at most as many operations of a program that has as many registers; a third of them are Consts, so that much is known.
func chanceOps(r *rand.Rand, registers, most int) []api.Op {
	var l []api.Op
	register := func() uint8 { return uint8(r.Intn(registers)) }
	for range r.Intn(most + 1) {
		do := api.Const + r.Intn(api.Print)
		if r.Intn(3) == 0 {
			do = api.Const
		}
		imm := chanceImm(r)
		if do == api.Load || do == api.Store {
			imm = int64(r.Intn(9)) + 256*int64(r.Intn(3)-1)
		}
		l = append(l, opOf(do, register(), register(), register(), imm))
	}
	return l
}

// chanceProgram answers a program of any blocks; half of the time most of its turns go on to later ones.
func chanceProgram(r *rand.Rand) api.Program {
	count, registers, onward := 1+r.Intn(7), 3+r.Intn([]int{4, 29}[r.Intn(2)]), r.Intn(2) == 0
	most := []int{3, 7, 14}[r.Intn(3)]
	var p api.Program
	for n := range count {
		to := func() int {
			if onward && n < count-1 && r.Intn(5) > 0 {
				return n + 1 + r.Intn(count-1-n)
			}
			return r.Intn(count)
		}
		a := uint8(r.Intn(registers))
		b := [5]api.Block{jumps(to()), branches(a, to(), to()), halts(a), loops(a, to(), chanceOps(r, registers, most)...), branches(a, to(), to())}[r.Intn(5)]
		p.Blocks = append(p.Blocks, with(b, chanceOps(r, registers, most)...))
	}
	if onward {
		p.Blocks[count-1] = with(halts(uint8(r.Intn(registers))), p.Blocks[count-1].Ops...)
	}
	return p
}

// chanceState answers a state of small numbers, so that loops are of few rounds; now and then some are great, or missing.
func chanceState(r *rand.Rand) api.State {
	s := api.State{Regs: make([]int64, api.Registers), Mem: make([]int64, api.Cells)}
	for n := range s.Regs {
		s.Regs[n] = int64(r.Intn(12) - 2)
		if r.Intn(5) == 0 {
			s.Regs[n] = 0
		}
		if r.Intn(40) == 0 {
			s.Regs[n] = []int64{math.MinInt64, math.MaxInt64, 1 << 40, -1 << 32, 200}[r.Intn(5)]
		}
	}
	for n := range s.Mem {
		s.Mem[n] = int64(r.Intn(7) - 2)
	}
	if r.Intn(6) == 0 {
		s.Regs, s.Mem = s.Regs[:r.Intn(33)], s.Mem[:r.Intn(257)]
	}
	return s
}

// wantTold says that both functions make of a program what the chapter told a second time makes of it, and what P25.4 says of it.
func wantTold(t testing.TB, r *rand.Rand, p api.Program) (fold api.Program, bury *grave) {
	t.Helper()
	fold = folded(t, p)
	if want := foldTold(p); !same(fold, want) {
		t.Fatalf("Fold of %s: %s, want %s", told(p), told(fold), told(want))
	}
	bury = buryTold(r, p)
	if q := buried(t, p); !same(q, bury.p) {
		t.Fatalf("Bury of %s: %s, want %s", told(p), told(q), told(bury.p))
	}
	wantNoMore(t, p)
	return fold, bury
}

// wantNoMore says P25.4.
func wantNoMore(t testing.TB, p api.Program) {
	t.Helper()
	fold, bury := folded(t, p), buried(t, p)
	both := buried(t, fold)
	if !same(folded(t, fold), fold) || !same(buried(t, bury), bury) || !same(buried(t, both), both) {
		t.Fatalf("of %s more is made the second time", told(p))
	}
	if program.Ops(fold) != program.Ops(p) || program.Ops(bury) > program.Ops(p) || program.Ops(both) > program.Ops(fold) {
		t.Fatalf("of %s: %d, %d, %d operations", told(p), program.Ops(fold), program.Ops(bury), program.Ops(both))
	}
	for set := range 1 << api.Classes {
		m := slowest()
		for class := range api.Classes {
			m.Units[class] = set >> class & 1
		}
		if program.Needs(p, m) != api.OK {
			continue
		}
		for _, q := range []api.Program{fold, bury, both} {
			if e := program.Needs(q, m); e != api.OK {
				t.Fatalf("of %s is made %s, that asks for more than %v: %v", told(p), told(q), m.Units, e)
			}
		}
	}
}

// slowest is a table of one unit of each class, by which everything takes long.
func slowest() api.Table {
	return api.Table{Units: [api.Classes]int{1, 1, 1, 1}, Lat: [api.Classes]int{8, 8, 8, 8}, Busy: [api.Classes]int{4, 4, 4, 4}, Delay: 4}
}

func tables() []api.Table {
	wide := api.Table{Units: [api.Classes]int{8, 8, 8, 8}, Lat: [api.Classes]int{2, 5, 3, 1}, Busy: [api.Classes]int{1, 2, 1, 1}, Delay: 2}
	return []api.Table{{Units: [api.Classes]int{1, 1, 1, 1}, Lat: [api.Classes]int{1, 1, 1, 1}, Busy: [api.Classes]int{1, 1, 1, 1}}, wide, slowest()}
}

// ran answers what serial tells, and what the machine holds then.
func ran(t testing.TB, p api.Program, s api.State, steps int) (api.Outcome, api.State) {
	t.Helper()
	m, e := serial.New(p, s)
	if e != api.OK {
		t.Fatal(told(p), e)
	}
	return m.Run(steps), m.State()
}

// alike answers whether two runs that have ended have ended alike.
func alike(a, b api.Outcome) bool {
	return a.E == b.E && a.Value == b.Value && slices.Equal(a.Prints, b.Prints) && slices.Equal(a.Mem, b.Mem)
}

// begins answers whether a list is a beginning of another one.
func begins(list, of []int64) bool { return len(list) <= len(of) && slices.Equal(list, of[:len(list)]) }

// wantRun says P25.3 of what was made of a program, of steps as they may be; and answers how it ends within them.
func wantRun(t testing.TB, p, q api.Program, s api.State, steps int) api.Errno {
	t.Helper()
	a, at := ran(t, p, s, steps)
	b, state := ran(t, q, s, a.Steps)
	switch {
	case a.E == api.ErrFuel && b.E == api.ErrFuel: // it has done at least as much in as many steps
		if !begins(a.Prints, b.Prints) {
			t.Fatalf("%s, made %s, of %v: prints %v, then %v behind %d steps", told(p), told(q), s, a.Prints, b.Prints, a.Steps)
		}
	case a.E == api.ErrFuel: // then so does the first one a little later
		a, at = ran(t, p, s, api.MaxSteps)
		fallthrough
	default:
		if !alike(a, b) || a.Steps < b.Steps || !slices.Equal(at.Mem, state.Mem) {
			t.Fatalf("%s, made %s, of %v: %v, %d, %v, %d steps; then %v, %d, %v, %d steps", told(p), told(q), s, a.E, a.Value, a.Prints, a.Steps, b.E, b.Value, b.Prints, b.Steps)
		}
	}
	return a.E
}

// wantTrails says which step of one run is which of the other one: of what was folded the same, of what was buried those that are left.
func wantTrails(t testing.TB, p, fold api.Program, bury *grave, s api.State, steps int) {
	t.Helper()
	tags := trailOf(t, p, s, steps)
	if l := trailOf(t, fold, s, steps); !slices.Equal(l, tags) {
		t.Fatalf("%s, folded to %s, of %v: other steps", told(p), told(fold), s)
	}
	want := bury.trail(tags)
	more := len(want)
	if len(tags) < steps {
		more += 3 // it has ended, and so has the other one
	}
	if l := trailOf(t, bury.p, s, more); !slices.Equal(l, want) {
		t.Fatalf("%s, buried to %s, of %v: other steps", told(p), told(bury.p), s)
	}
}

// wantMachines says that both machines tell of what was made of a program, packed, how the program ended.
func wantMachines(t testing.TB, p, q api.Program, m api.Table, s api.State, steps int) {
	t.Helper()
	want, _ := ran(t, p, s, steps)
	one, many, e := race.Both(q, m, s, steps, api.MaxSteps)
	if e != api.OK {
		t.Fatal(told(q), e)
	}
	if want.E == api.ErrFuel { // steps and cycles do not compare
		if !race.Agree(want, many) {
			t.Fatalf("%s, made %s, of %v: %v, then %v", told(p), told(q), s, want.Prints, many.Prints)
		}
		return
	}
	if !alike(one, want) || many.E != want.E || many.Value != want.Value || !slices.Equal(many.Prints, want.Prints) || !slices.Equal(many.Mem, want.Mem) {
		t.Fatalf("%s, made %s, of %v, %v: %v, %d, %v; %v, %d, %v, want %v, %d, %v", told(p), told(q), s, m, one.E, one.Value, one.Prints, many.E, many.Value, many.Prints, want.E, want.Value, want.Prints)
	}
}

// changes counts what became of programs.
type changes struct {
	folded, buried [api.Kinds]int
	then, orElse   int
	ended          map[api.Errno]int
}

func (c *changes) count(p, fold api.Program, bury *grave) {
	for n, b := range p.Blocks {
		for _, lists := range [][2][]api.Op{{b.Ops, fold.Blocks[n].Ops}, {b.Body, fold.Blocks[n].Body}} {
			for i, o := range lists[0] {
				if o != lists[1][i] {
					c.folded[o.Do]++
				}
			}
		}
		switch end := fold.Blocks[n]; {
		case end.End == b.End:
		case end.Then == b.Then:
			c.then++
		default:
			c.orElse++
		}
		for i, o := range b.Ops {
			if !slices.Contains(bury.left[n], i) {
				c.buried[o.Do]++
			}
		}
	}
}

// P25.1 to P25.4 (P10).
func TestManyPrograms(t *testing.T) {
	r := rand.New(rand.NewSource(25))
	found := changes{ended: map[api.Errno]int{}}
	for range 2500 {
		p := chanceProgram(r)
		fold, bury := wantTold(t, r, p)
		found.count(p, fold, bury)
		both := buried(t, fold)
		for range 4 {
			s, steps := chanceState(r), r.Intn(400)
			for _, q := range []api.Program{fold, bury.p, both} {
				found.ended[wantRun(t, p, q, s, steps)]++
			}
			wantTrails(t, p, fold, bury, s, steps)
		}
	}
	for do := api.Const; do <= api.Print; do++ {
		folds, goes := do >= api.Add && do <= api.Rest, do <= api.Load && do != api.Divide && do != api.Rest
		if folds != (found.folded[do] > 30) || goes != (found.buried[do] > 30) {
			t.Errorf("kind %d: %d folded, %d buried", do, found.folded[do], found.buried[do])
		}
	}
	if min(found.then, found.orElse) < 50 {
		t.Errorf("%d branches to Then, %d to Else", found.then, found.orElse)
	}
	if len(found.ended) != 3 || min(found.ended[api.OK], found.ended[api.ErrDivide], found.ended[api.ErrFuel]) < 1500 {
		t.Errorf("by ends %v", found.ended)
	}
}

// P25.3 by both machines.
func TestBothMachines(t *testing.T) {
	r := rand.New(rand.NewSource(251))
	ended := map[api.Errno]int{}
	for range 300 {
		p := chanceProgram(r)
		s, steps := chanceState(r), 300
		if end, _ := ran(t, p, s, steps); end.E == api.ErrFuel && r.Intn(8) > 0 { // these are long
			continue
		} else {
			ended[end.E]++
		}
		m := tables()[r.Intn(3)]
		fold := folded(t, p)
		for _, q := range []api.Program{fold, buried(t, p), buried(t, fold)} {
			wantMachines(t, p, q, m, s, steps)
		}
	}
	if min(ended[api.OK], ended[api.ErrDivide]) < 40 || ended[api.ErrFuel] < 4 {
		t.Errorf("by ends %v", ended)
	}
}

// Loops of any number of rounds with what is known, what is dead and what is a trap in them, and around them.
func TestAnyRounds(t *testing.T) {
	p := read(t, "const r5 1, const r6 5, add r7 r5 r6, move r20 r7, branch r5 1 3",
		"add r8 r5 r5, loop r31 {, const r10 3, times r11 r10 r10, add r3 r3 r11, sub r12 r11 r10, add r2 r2 r5, print r12, }, jump 2",
		"const r21 4, load r21 r21 0, loop r30 {, const r10 0, divide r13 r6 r7, store r2 r3 100, divide r14 r9 r9, sub r9 r9 r5, }, jump 3",
		"const r15 7, sub r15 r15 r15, add r22 r15 r2, branch r15 0 4",
		"print r2, print r3, print r13, halt r3")
	r := rand.New(rand.NewSource(252))
	ended := map[api.Errno]int{}
	fold, bury := wantTold(t, r, p)
	both := buried(t, fold)
	if program.Ops(both) >= program.Ops(p)-5 || fold.Blocks[3].End != api.EndJump {
		t.Fatal(told(both))
	}
	for first := int64(-2); first < 9; first++ {
		for second := int64(-2); second < 9; second++ {
			s := api.State{Regs: make([]int64, 32)}
			s.Regs[31], s.Regs[30], s.Regs[9] = first, second, 6 // the seventh round of the second one traps
			for _, q := range []api.Program{fold, bury.p, both} {
				ended[wantRun(t, p, q, s, api.MaxSteps)]++
				wantRun(t, p, q, s, r.Intn(60))
				wantMachines(t, p, q, tables()[r.Intn(3)], s, api.MaxSteps)
			}
			wantTrails(t, p, fold, bury, s, 500)
		}
	}
	if ended[api.OK] != 3*99 || ended[api.ErrDivide] != 3*22 {
		t.Errorf("by ends %v", ended)
	}
}

// fewOps are operations that change what the others know and read.
func fewOps() []api.Op {
	return []api.Op{
		{Do: api.Const, D: 1}, {Do: api.Const, D: 1, Imm: 2}, {Do: api.Const, D: 2, Imm: -1}, {Do: api.Const, D: 2, Imm: math.MaxInt32},
		opOf(api.Add, 1, 1, 2, 0), opOf(api.Sub, 2, 1, 1, 0), opOf(api.Move, 2, 1, 0, 0), opOf(api.Times, 1, 2, 2, 0), opOf(api.Divide, 2, 1, 2, 0),
		opOf(api.Rest, 1, 2, 1, 0), opOf(api.Load, 1, 2, 0, 5), opOf(api.Store, 1, 2, 0, 0), opOf(api.Print, 0, 1, 0, 0),
	}
}

// eachList goes over all lists of as many operations of these at most.
func eachList(most int, do func([]api.Op)) {
	var longer func(list []api.Op)
	longer = func(list []api.Op) {
		do(list)
		if len(list) == most {
			return
		}
		for _, o := range fewOps() {
			longer(append(slices.Clone(list), o))
		}
	}
	longer(nil)
}

// All short lists, with each end.
func TestAllShortLists(t *testing.T) {
	r := rand.New(rand.NewSource(253))
	count := 0
	eachList(3, func(list []api.Op) {
		for _, end := range []api.Block{halts(1), halts(9), jumps(0), branches(1, 0, 1), branches(2, 1, 0), loops(1, 1, list...)} {
			if len(list) == 3 && r.Intn(4) > 0 {
				continue
			}
			count++
			p := api.Program{Blocks: []api.Block{with(end, list...), halts(2)}}
			fold, bury := wantTold(t, r, p)
			both := buried(t, fold)
			for _, s := range []api.State{{}, {Regs: []int64{0, 1, -3}, Mem: []int64{4}}} {
				for _, q := range []api.Program{fold, bury.p, both} {
					wantRun(t, p, q, s, 30)
				}
				wantTrails(t, p, fold, bury, s, 30)
			}
		}
	})
	if count < 3000 {
		t.Error(count)
	}
}

// As many blocks and operations as there can be: much to fold, and a row through all blocks that goes.
func TestTheGreatestPrograms(t *testing.T) {
	r := rand.New(rand.NewSource(254))
	var p api.Program
	for n := range api.MaxBlocks {
		b := branches(31, (n+1)%api.MaxBlocks, min(n+2, api.MaxBlocks-1))
		b.Ops = []api.Op{opOf(api.Move, uint8(n%30), uint8((n+29)%30), 0, 0)} // what the block ahead has left
		for range (api.MaxOps - 2*api.MaxBlocks) / api.MaxBlocks {
			b.Ops = append(b.Ops, opOf(api.Const+r.Intn(api.Times), 30, 30, 30, 7))
		}
		p.Blocks = append(p.Blocks, b)
	}
	p.Blocks[api.MaxBlocks-1].End = api.EndHalt
	p.Blocks[api.MaxBlocks-1].Then, p.Blocks[api.MaxBlocks-1].Else = 0, 0
	if program.Ops(p) != api.MaxOps {
		t.Fatal(program.Ops(p))
	}
	fold, q := folded(t, p), buried(t, p)
	if !same(fold, foldTold(p)) || program.Ops(q) != api.MaxBlocks {
		t.Errorf("%d operations are left", program.Ops(q))
	}
	wantNoMore(t, p)
	one := api.Program{Blocks: []api.Block{{Ops: slices.Repeat(fewOps(), api.MaxOps/len(fewOps())), End: api.EndHalt}}}
	wantNoMore(t, one)
	if !same(folded(t, one), foldTold(one)) {
		t.Error("of one long list another one was made")
	}
	wantLeast(t, buried(t, one))
}

// wantLeast says that of a program none goes.
func wantLeast(t *testing.T, p api.Program) {
	t.Helper()
	for n, b := range p.Blocks {
		behind := live.Out(p)[n]
		for _, o := range slices.Backward(b.Ops) {
			d, writes := ops.Writes(o)
			if writes && behind>>d&1 == 0 && o.Do != api.Divide && o.Do != api.Rest {
				t.Fatalf("block %d: %v has stayed", n, o)
			}
			if writes {
				behind &^= 1 << d
			}
			for _, a := range ops.Reads(o) {
				behind |= 1 << a
			}
		}
	}
}

// roomy answers a list with room behind its end.
func roomy[T any](l []T, behind T) []T {
	return append(slices.Clone(l), behind, behind)[:len(l)]
}

// whole answers a list with all that stands in the room behind its end.
func whole[T any](l []T) []T { return l[:cap(l)] }

// roomyProgram answers a program all whose lists have room behind their ends.
func roomyProgram(p api.Program) api.Program {
	list := roomy(p.Blocks, api.Block{A: 99})
	for n, b := range list {
		list[n].Ops, list[n].Body = roomy(b.Ops, api.Op{Do: 77}), roomy(b.Body, api.Op{Do: 77})
	}
	return api.Program{Blocks: list}
}

// wholeProgram answers a copy of all lists of a program, to the ends of their rooms.
func wholeProgram(p api.Program) []api.Block {
	list := slices.Clone(whole(p.Blocks))
	for n, b := range list {
		list[n].Ops, list[n].Body = slices.Clone(whole(b.Ops)), slices.Clone(whole(b.Body))
	}
	return list
}

// copyOf answers a program that has all of another one but its memory.
func copyOf(p api.Program) api.Program {
	list := slices.Clone(p.Blocks)
	for n, b := range list {
		list[n].Ops, list[n].Body = slices.Clone(b.Ops), slices.Clone(b.Body)
	}
	return api.Program{Blocks: list}
}

func spoil[T any](l []T, with T) {
	for n := range whole(l) {
		whole(l)[n] = with
	}
}

// spoilProgram writes all over a program, list by list; of each it is asked whether the ones behind it still are as they were.
func spoilProgram(t testing.TB, p api.Program) {
	t.Helper()
	was := copyOf(p)
	for n := range p.Blocks {
		b := &p.Blocks[n]
		spoil(b.Ops, api.Op{Do: 66})
		if !slices.Equal(b.Body, was.Blocks[n].Body) || !slices.EqualFunc(p.Blocks[n+1:], was.Blocks[n+1:], sameBlock) {
			t.Fatal("lists of one answer share something")
		}
		spoil(b.Body, api.Op{Do: 66})
		if !slices.EqualFunc(p.Blocks[n+1:], was.Blocks[n+1:], sameBlock) {
			t.Fatal("lists of one answer share something")
		}
	}
	spoil(p.Blocks, api.Block{A: 66})
}

// R3: what is handed in is not changed (which made sees to) and not kept; what is handed out is the caller's own.
func TestArgumentsAndAnswersShareNothing(t *testing.T) {
	r := rand.New(rand.NewSource(255))
	for range 1500 {
		p := roomyProgram(chanceProgram(r))
		if r.Intn(3) == 0 { // nothing to be made of it
			p = roomyProgram(buried(t, folded(t, p)))
		}
		for _, do := range []func(testing.TB, api.Program) api.Program{folded, buried} {
			was := copyOf(p)
			first, second := do(t, p), do(t, p)
			want := copyOf(first)
			spoilProgram(t, first)
			if !same(p, was) {
				t.Fatal("what was written into an answer shows in what was handed in")
			}
			if !same(second, want) || !same(do(t, p), want) {
				t.Fatal("what was written into an answer shows in another one")
			}
			mine := copyOf(p)
			spoilProgram(t, p)
			if !same(second, want) {
				t.Fatal("what was written into what was handed in shows in the answer")
			}
			p = roomyProgram(mine)
		}
	}
}

// R2: what is asked at the same time, or ahead of it, changes nothing.
func TestManyAtATime(t *testing.T) {
	r := rand.New(rand.NewSource(256))
	for range 60 {
		p := chanceProgram(r)
		fold, bury := folded(t, p), buried(t, p)
		var all sync.WaitGroup
		for range 8 {
			all.Go(func() {
				a, e := Fold(p)
				b, f := Bury(p)
				if e != api.OK || f != api.OK || !same(a, fold) || !same(b, bury) {
					t.Errorf("of %s: %v, %s; %v, %s", told(p), e, told(a), f, told(b))
				}
			})
		}
		all.Wait()
	}
}

// fuzzed answers a program and a state of any bytes; mostly it is a program.
func fuzzed(data []byte) (p api.Program, s api.State) {
	next := func() int {
		if len(data) == 0 {
			return 0
		}
		b := data[0]
		data = data[1:]
		return int(b)
	}
	s = api.State{Regs: make([]int64, 9), Mem: make([]int64, 9)}
	for n := range s.Regs {
		s.Regs[n], s.Mem[n] = int64(int8(next()))%16, int64(int8(next()))
	}
	imm := func() int64 {
		n := int64(int8(next()))
		if n > 96 || n < -96 {
			n <<= 24
		}
		return n
	}
	operations := func() []api.Op {
		var l []api.Op
		for range next() % 12 {
			do := next()
			switch {
			case do >= 253: // none of a program
			case do > 200:
				do = api.Const
			default:
				do = api.Const + do%api.Print
			}
			l = append(l, opOf(do, uint8(next()%9), uint8(next()%9), uint8(next()%9), imm()))
		}
		return l
	}
	count := 1 + next()%6
	for range count {
		end := next()
		b := api.Block{Ops: operations(), End: int8(end % 4), Then: next() % count}
		switch {
		case end > 250: // with fields that do not count, or count
			b = api.Block{Ops: b.Ops, End: int8(end - 251), A: uint8(next() % 34), Then: next() % (count + 1), Else: next() % 2}
		case b.End == api.EndJump:
		case b.End == api.EndBranch:
			b.A, b.Else = uint8(next()%9), next()%count
		case b.End == api.EndHalt:
			b.A, b.Then = uint8(next()%9), 0
		case b.End == api.EndLoop:
			b.A, b.Body = uint8(next()%9), operations()
		}
		p.Blocks = append(p.Blocks, b)
	}
	return p, s
}

func wantFuzzed(t testing.TB, data []byte) api.Errno {
	t.Helper()
	p, s := fuzzed(data)
	want := program.Check(p)
	if want != api.OK {
		fold, e := Fold(p)
		bury, f := Bury(p)
		if e != want || f != want || len(fold.Blocks) > 0 || len(bury.Blocks) > 0 {
			t.Fatalf("%v: %v, %v, want %v", p, e, f, want)
		}
		return want
	}
	fold, bury := wantTold(t, rand.New(rand.NewSource(int64(len(data)))), p)
	for _, q := range []api.Program{fold, bury.p, buried(t, fold)} {
		wantRun(t, p, q, s, 200)
	}
	wantTrails(t, p, fold, bury, s, 200)
	return api.OK
}

func chanceBytes(r *rand.Rand) []byte {
	data := make([]byte, 60+r.Intn(300))
	r.Read(data)
	return data
}

func TestManyErrors(t *testing.T) {
	r := rand.New(rand.NewSource(257))
	found := map[api.Errno]int{}
	for range 1500 {
		found[wantFuzzed(t, chanceBytes(r))]++
	}
	if min(found[api.OK], found[api.ErrOp], found[api.ErrProgram]) < 30 {
		t.Errorf("by errors %v", found)
	}
}

func FuzzBetter(f *testing.F) {
	r := rand.New(rand.NewSource(258))
	for range 40 {
		f.Add(chanceBytes(r))
	}
	f.Fuzz(func(t *testing.T, data []byte) { wantFuzzed(t, data) })
}

// Of all kinds some stand in the programs that are made by chance.
func TestChanceOpsAreOperations(t *testing.T) {
	r := rand.New(rand.NewSource(259))
	found := map[int8]int{}
	for range 300 {
		for _, o := range chanceOps(r, 32, 20) {
			if e := ops.Check(o); e != api.OK {
				t.Fatal(o, e)
			}
			found[o.Do]++
		}
	}
	if len(found) != api.Print {
		t.Error(found)
	}
}
