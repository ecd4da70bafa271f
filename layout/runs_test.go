package layout

import (
	"math/rand"
	"reflect"
	"slices"
	"sync"
	"testing"

	"hayloft/api"
	"hayloft/ops"
	"hayloft/serial"
)

// flight is a result or a store that was issued.
type flight struct {
	lands, issued int
	o             api.Op
	value         int64
	cell          uint8
}

// turning is a turn that is not done yet.
type turning struct{ done, to int }

// waitless is the machine of chapter 22, that issues bundles and waits for nothing; its place is a block and a bundle of it.
type waitless struct {
	t       testing.TB
	m       api.Table
	laid    [][]api.Bundle
	regs    [api.Registers]int64
	mem     [api.Cells]int64
	block   int
	at      int
	counter int64
	cycle   int
	flying  []flight
	turns   []turning
	units   taken
	out     api.Outcome
}

// laidOut answers the bundles of all blocks of a program that was let in.
func laidOut(t testing.TB, p api.Program, m api.Table) [][]api.Bundle {
	t.Helper()
	var laid [][]api.Bundle
	for n, b := range p.Blocks {
		l, _, e := Block(p, n, m)
		if b.End == api.EndLoop {
			l, _, e = Loop(b, n, m)
		}
		if e != api.OK {
			t.Fatal(p, n, m, e)
		}
		laid = append(laid, l)
	}
	return laid
}

func (w *waitless) land() {
	for _, f := range w.flying {
		switch {
		case f.lands != w.cycle:
		case f.o.Do == api.Store:
			w.mem[f.cell] = f.value
		default:
			w.regs[f.o.D] = f.value
		}
	}
	w.flying = slices.DeleteFunc(w.flying, func(f flight) bool { return f.lands == w.cycle })
}

// turn does the turn whose time has come: below 0 it is within the block's own bundles.
func (w *waitless) turn() {
	for _, d := range w.turns {
		switch {
		case d.done != w.cycle:
		case d.to < 0:
			w.at = -1 - d.to
		default:
			w.block, w.at = d.to, 0
		}
	}
	w.turns = slices.DeleteFunc(w.turns, func(d turning) bool { return d.done == w.cycle })
}

// wantLanded says of P5 that nothing is read to which an earlier write is in flight.
func (w *waitless) wantLanded(o api.Op) {
	for _, register := range ops.Reads(o) {
		for _, f := range w.flying {
			if d, ok := ops.Writes(f.o); ok && d == register && f.issued < w.cycle {
				w.t.Fatalf("%v, %v: %v reads what %v has in flight", w.m, w.laid, o, f.o)
			}
		}
	}
}

// control does an operation of Ctl; true where the run has ended.
func (w *waitless) control(o api.Op) bool {
	a, turned := w.regs[o.A], true
	switch o.Do {
	case api.Branch:
		turned = a != 0
	case api.Halt:
		w.out.E, w.out.Value, w.out.Mem = api.OK, a, w.mem[:]
		return true
	case api.Count:
		turned, w.counter = false, 0
		if a > o.Imm { // a less what is above 0 may be beyond an int64, but then it is below 0
			w.counter = a - o.Imm
		}
	case api.Short:
		turned = a < int64(o.B)
	case api.Again:
		w.counter--
		turned = w.counter > 0
	}
	if turned {
		w.turns = append(w.turns, turning{w.cycle + 1 + w.m.Delay, int(o.Imm)})
	}
	return false
}

// issue begins an operation with what registers and cells hold; true where the run has ended.
func (w *waitless) issue(o api.Op, class int) bool {
	w.wantLanded(o)
	w.units.take(w.t, w.m, class, w.cycle)
	if class == api.Ctl {
		return w.control(o)
	}
	f := flight{lands: w.cycle + w.m.Lat[class], issued: w.cycle, o: o, cell: uint8(w.regs[o.A] + o.Imm)}
	switch o.Do {
	case api.Print:
		w.out.Prints = append(w.out.Prints, w.regs[o.A])
		return false
	case api.Const:
		f.value = o.Imm
	case api.Load:
		f.value = w.mem[f.cell]
	case api.Store:
		f.value = w.regs[o.B]
	default:
		value, e := ops.Reckon(o.Do, w.regs[o.A], w.regs[o.B])
		if e != api.OK {
			w.out.E = e
			return true
		}
		f.value = value
	}
	w.flying = append(w.flying, f)
	return false
}

// run makes up to as many cycles.
func (w *waitless) run(cycles int) api.Outcome {
	for w.cycle = 0; w.cycle < cycles; w.cycle++ {
		w.land()
		w.turn()
		if w.at >= len(w.laid[w.block]) {
			w.t.Fatalf("%v, %v: the way goes out of block %d", w.m, w.laid, w.block)
		}
		b := w.laid[w.block][w.at]
		for class, row := range b.Ops {
			for _, o := range row {
				if w.issue(o, class) {
					w.out.Steps = w.cycle + 1
					return w.out
				}
			}
		}
		w.at++
	}
	w.out.E, w.out.Steps = api.ErrFuel, cycles
	return w.out
}

func chanceState(r *rand.Rand) api.State {
	s := api.State{Regs: make([]int64, api.Registers), Mem: make([]int64, api.Cells)}
	for n := range s.Regs {
		s.Regs[n] = int64(r.Intn(11) - 2)
	}
	for n := range s.Mem {
		s.Mem[n] = int64(r.Intn(7) - 2)
	}
	return s
}

func serially(t testing.TB, p api.Program, s api.State, steps int) api.Outcome {
	t.Helper()
	one, e := serial.New(p, s)
	if e != api.OK {
		t.Fatal(p, e)
	}
	return one.Run(steps)
}

// wantTheSame says of P1, P3, P4 and P5 that the bundles do what the program says, and answers how it ended.
func wantTheSame(t testing.TB, p api.Program, m api.Table, s api.State) api.Outcome {
	t.Helper()
	const steps = 500
	w := &waitless{t: t, m: m, laid: laidOut(t, p, m), regs: [api.Registers]int64(s.Regs), mem: [api.Cells]int64(s.Mem)}
	want := serially(t, p, s, steps)
	bundles := 0
	for _, l := range w.laid {
		bundles += len(l)
	}
	if want.E == api.ErrFuel {
		got := w.run(steps)
		// So many operations at most were issued in as many cycles.
		want = serially(t, p, s, steps*api.Classes*api.MaxUnits)
		if len(got.Prints) > len(want.Prints) || !slices.Equal(got.Prints, want.Prints[:len(got.Prints)]) {
			t.Fatalf("%v, %v: prints %v, want %v", p, m, got.Prints, want.Prints)
		}
		return got
	}
	got := w.run(bundles * (want.Steps + 1))
	if got.E != want.E || got.Value != want.Value || !slices.Equal(got.Prints, want.Prints) || !slices.Equal(got.Mem, want.Mem) {
		t.Fatalf("%v, %v, %v: %v, want %v", p, m, s, got, want)
	}
	return got
}

// mendEnds lets most programs end: the last block halts, and most others turn to one behind them.
func mendEnds(r *rand.Rand, p api.Program) {
	last := len(p.Blocks) - 1
	p.Blocks[last] = with(halts(uint8(r.Intn(8))), p.Blocks[last].Ops...)
	for n := range last {
		b := &p.Blocks[n]
		if b.End == api.EndHalt || r.Intn(8) == 0 {
			continue
		}
		b.Then = n + 1 + r.Intn(last-n)
		if b.End == api.EndBranch {
			b.Else = n + 1 + r.Intn(last-n)
		}
	}
}

func TestBundlesDoWhatTheProgramSays(t *testing.T) {
	r := rand.New(rand.NewSource(203))
	ended := map[api.Errno]int{}
	for range 4000 {
		p := chanceProgram(r, 8)
		if r.Intn(2) == 0 {
			b := chanceChain(r, 6)
			b.Then = 0
			p.Blocks = append([]api.Block{b}, p.Blocks...)
		}
		mendEnds(r, p)
		ended[wantTheSame(t, p, chanceTable(r), chanceState(r)).E]++
	}
	if min(ended[api.OK], ended[api.ErrDivide], ended[api.ErrFuel]) < 200 {
		t.Errorf("by ends %v", ended)
	}
}

// P2: loops of any number of rounds, none and fewer than overlap too.
func TestAnyRounds(t *testing.T) {
	r := rand.New(rand.NewSource(204))
	overlapped := 0
	for range 250 {
		b, m, s := chanceChain(r, 5), chanceTable(r), chanceState(r)
		b.A, b.Then = 31, 1
		stages := stagesTold(t, b.Body, m)
		if stages > 1 {
			overlapped++
		}
		b.Ops = slices.DeleteFunc(b.Ops, func(o api.Op) bool { d, ok := ops.Writes(o); return ok && d == 31 })
		p := api.Program{Blocks: []api.Block{b, with(halts(2), prints(1), prints(2), prints(3), prints(31))}}
		for rounds := -2; rounds < stages+5; rounds++ {
			s.Regs[31] = int64(rounds)
			wantTheSame(t, p, m, s)
		}
		s.Regs[31] = -1 << 63
		wantTheSame(t, p, m, s)
	}
	if overlapped < 60 {
		t.Errorf("%d loops overlap", overlapped)
	}
}

// DOC.md's fourth and fifth example: a sum over a loaded row; of 1000 rounds each takes as many cycles as Every says.
func TestAThousandRounds(t *testing.T) {
	m := lats(example(), 1, 3, 4, 1)
	b := with(loops(1, 1, loads(3, 4, 0), adds(2, 2, 3), adds(4, 4, 5)), consts(1, 1000), consts(5, 1))
	p := api.Program{Blocks: []api.Block{b, halts(2)}}
	s := chanceState(rand.New(rand.NewSource(205)))
	w := &waitless{t: t, m: m, laid: laidOut(t, p, m), regs: [api.Registers]int64(s.Regs), mem: [api.Cells]int64(s.Mem)}
	got, want := w.run(10000), serially(t, p, s, 10000)
	plan, _, _ := (&telling{m: m}).planTold(t, b.Body)
	if got.E != api.OK || got.Value != want.Value || got.Steps > 1000*plan.Every+50 || plan.Stages < 2 {
		t.Errorf("%v of %d cycles, %v, want %v", got.Value, got.Steps, plan, want.Value)
	}
}

// roomy answers a copy of a block whose lists have room behind their ends, with something in it.
func roomy(b api.Block) api.Block {
	room := func(l []api.Op) []api.Op {
		return append(append(slices.Clone(l), prints(29), prints(30)), prints(31))[: len(l) : len(l)+3]
	}
	b.Ops, b.Body = room(b.Ops), room(b.Body)
	return b
}

// wholeOf answers copies of a block's lists with the room behind their ends.
func wholeOf(b api.Block) [2][]api.Op {
	return [2][]api.Op{slices.Clone(b.Ops[:cap(b.Ops)]), slices.Clone(b.Body[:cap(b.Body)])}
}

// R3: what is handed in is not changed, and answers do not show what is written there later.
func TestArgumentsStay(t *testing.T) {
	r := rand.New(rand.NewSource(206))
	for range 300 {
		m := chanceTable(r)
		p := chanceProgram(r, 8)
		for n := range p.Blocks {
			p.Blocks[n] = roomy(p.Blocks[n])
		}
		p.Blocks = append(p.Blocks, halts(9), halts(8))[: len(p.Blocks) : len(p.Blocks)+2]
		for n, b := range p.Blocks {
			var before [][2][]api.Op
			for _, c := range p.Blocks {
				before = append(before, wholeOf(c))
			}
			blocks := slices.Clone(p.Blocks[:len(p.Blocks)+2])
			ask := func() ([]api.Bundle, [][]api.Tag, api.Errno) { return Block(p, n, m) }
			told := func() ([]api.Bundle, [][]api.Tag, api.Errno) { return blockTold(t, p, n, m) }
			if b.End == api.EndLoop {
				ask = func() ([]api.Bundle, [][]api.Tag, api.Errno) { return Loop(p.Blocks[n], n, m) }
				told = func() ([]api.Bundle, [][]api.Tag, api.Errno) { return loopTold(t, p.Blocks[n], n, m) }
			}
			l, tags, _ := ask()
			for k, c := range p.Blocks {
				if !reflect.DeepEqual(wholeOf(c), before[k]) {
					t.Fatalf("%v: the lists of block %d were changed", p, k)
				}
			}
			if !reflect.DeepEqual(blocks, p.Blocks[:len(p.Blocks)+2]) {
				t.Fatalf("%v: the blocks were changed", p)
			}
			want, others, _ := told()
			kept := [2][]api.Op{slices.Clone(b.Ops), slices.Clone(b.Body)}
			for _, list := range [][]api.Op{b.Ops[:cap(b.Ops)], b.Body[:cap(b.Body)]} {
				for k := range list {
					list[k] = consts(7, 77)
				}
			}
			if !sameBundles(l, want) || !sameTags(tags, others) {
				t.Fatalf("%v: what was answered shows what was written later", p)
			}
			// And what is asked later shows it.
			later, laterTags, _ := ask()
			want, others, _ = told()
			if !sameBundles(later, want) || !sameTags(laterTags, others) {
				t.Fatalf("%v: asked again it does not show what was written", p)
			}
			copy(b.Ops, kept[0])
			copy(b.Body, kept[1])
		}
	}
}

// spoilAnswers writes into everything that was answered, and behind the ends of all lists.
func spoilAnswers(l []api.Bundle, tags [][]api.Tag) {
	for n := range l {
		for class, row := range l[n].Ops {
			row = row[:cap(row)]
			for k := range row {
				row[k] = consts(6, 66)
			}
			l[n].Ops[class] = append(row, prints(5))
		}
		row := tags[n][:cap(tags[n])]
		for k := range row {
			row[k] = api.Tag{Block: -9, Op: 99, Loop: true, Spec: true}
		}
	}
}

// R3: answers are the caller's own; one list of an answer is not another one's room.
func TestAnswersAreTheCallersOwn(t *testing.T) {
	r := rand.New(rand.NewSource(207))
	for range 200 {
		b, m := chanceChain(r, 6), chanceTable(r)
		p := among(with(branches(3, 1, 2), chanceList(r, 8, 12)...), 2)
		asks := []func() ([]api.Bundle, [][]api.Tag, api.Errno){
			func() ([]api.Bundle, [][]api.Tag, api.Errno) { return Loop(b, 2, m) },
			func() ([]api.Bundle, [][]api.Tag, api.Errno) { return Block(p, 2, m) },
		}
		for _, ask := range asks {
			want, others, _ := ask()
			l, tags, _ := ask()
			spoilAnswers(l, tags)
			if again, more, e := ask(); e != api.OK || !sameBundles(again, want) || !sameTags(more, others) {
				t.Fatalf("%v, %v: a later answer shows what was written into one", b, m)
			}
			l, tags, _ = ask()
			n := r.Intn(len(l))
			spoilAnswers(l[n:n+1], tags[n:n+1])
			for k := range l {
				if k != n && (!sameBundles(l[k:k+1], want[k:k+1]) || !slices.Equal(tags[k], others[k])) {
					t.Fatalf("%v, %v: bundle %d shows what was written into %d", b, m, k, n)
				}
			}
			l, _, _ = ask()
			for k := range l {
				for class := range l[k].Ops {
					l[k].Ops[class] = append(l[k].Ops[class], consts(6, 66))
				}
			}
			for k := range l {
				for class, row := range l[k].Ops {
					if !slices.Equal(row[:len(row)-1], want[k].Ops[class]) {
						t.Fatalf("%v, %v: bundle %d shows what was appended to another one", b, m, k)
					}
				}
			}
		}
	}
}

// R2: how many ask at the same time changes no answer.
func TestAskedAtTheSameTime(t *testing.T) {
	r := rand.New(rand.NewSource(208))
	b, m := chanceChain(r, 8), chanceTable(r)
	p := among(with(branches(3, 1, 2), chanceList(r, 8, 12)...), 2)
	wantLoop, loopTags, _ := Loop(b, 2, m)
	wantBlock, blockTags, _ := Block(p, 2, m)
	var all sync.WaitGroup
	for range 8 {
		all.Go(func() {
			for range 20 {
				if l, tags, e := Loop(b, 2, m); e != api.OK || !sameBundles(l, wantLoop) || !sameTags(tags, loopTags) {
					t.Error("another loop", e)
				}
				if l, tags, e := Block(p, 2, m); e != api.OK || !sameBundles(l, wantBlock) || !sameTags(tags, blockTags) {
					t.Error("another block", e)
				}
			}
		})
	}
	all.Wait()
}

// fuzzed answers a program, a table and a state of any bytes; mostly they are let in.
func fuzzed(data []byte) (api.Program, api.Table, api.State) {
	next := func() int {
		if len(data) == 0 {
			return 0
		}
		b := data[0]
		data = data[1:]
		return int(b)
	}
	m := api.Table{Delay: next() % 6}
	for class := range api.Classes {
		m.Units[class], m.Lat[class], m.Busy[class] = next()%9, 1+next()%8, 1+next()%5
	}
	s := api.State{Regs: make([]int64, api.Registers), Mem: make([]int64, api.Cells)}
	for n := range 8 {
		s.Regs[n], s.Mem[n] = int64(int8(next()))%16, int64(int8(next()))
	}
	operations := func() []api.Op {
		var l []api.Op
		for range next() % 12 {
			do := int8(1 + next()%18) // now and then a Jump, that no program has
			l = append(l, opOf(do, uint8(next()%9), uint8(next()%9), uint8(next()%9), int64(int8(next()))))
		}
		return l
	}
	var p api.Program
	blocks := 1 + next()%4
	for range blocks {
		b := api.Block{Ops: operations(), End: int8(next() % 5)}
		if b.End != api.EndJump {
			b.A = uint8(next() % 9)
		}
		if b.End != api.EndHalt {
			b.Then = next() % blocks
		}
		if b.End == api.EndBranch {
			b.Else = next() % blocks
		}
		if b.End == api.EndLoop {
			b.Body = operations()
		}
		p.Blocks = append(p.Blocks, b)
	}
	return p, m, s
}

func FuzzLayout(f *testing.F) {
	r := rand.New(rand.NewSource(209))
	for range 40 {
		data := make([]byte, 40+r.Intn(200))
		r.Read(data)
		f.Add(data)
	}
	f.Fuzz(func(t *testing.T, data []byte) {
		p, m, s := fuzzed(data)
		fine := true
		for n, b := range p.Blocks {
			l, tags, e := wantBlockTold(t, p, n, m)
			if b.End == api.EndLoop || e != api.OK {
				l, tags, e = wantLoopTold(t, b, n, m)
			}
			if e == api.OK {
				turnsOf(t, l, tags, m, len(p.Blocks))
			}
			fine = fine && e == api.OK
		}
		if fine {
			wantTheSame(t, p, m, s)
		}
	})
}
