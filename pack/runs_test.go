package pack

import (
	"math/rand"
	"slices"
	"testing"

	"hayloft/api"
	"hayloft/ops"
	"hayloft/serial"
)

// flight is a result or a store that was issued.
type flight struct {
	lands, issued int
	o             api.Op
	value         int64
	cell          uint8
}

// turning is a turn that is not done yet.
type turning struct{ done, to int }

// waitless is the machine of chapter 22, that issues bundles and waits for nothing.
type waitless struct {
	t       testing.TB
	m       api.Table
	bundles []api.Bundle
	tags    [][]api.Tag
	regs    [api.Registers]int64
	mem     [api.Cells]int64
	at      int
	counter int64
	cycle   int
	flying  []flight
	turns   []turning
	taken   [api.Classes]map[int]int // units that are busy, by cycles
	issued  map[api.Tag]int
	out     api.Outcome
}

func newWaitless(t testing.TB, k api.Packed, m api.Table, s api.State) *waitless {
	t.Helper()
	w := &waitless{t: t, m: m, bundles: decoded(t, k, m), tags: k.Tags, issued: map[api.Tag]int{}}
	for class := range w.taken {
		w.taken[class] = map[int]int{}
	}
	copy(w.regs[:], s.Regs)
	copy(w.mem[:], s.Mem)
	return w
}

func (w *waitless) land() {
	for _, f := range w.flying {
		switch {
		case f.lands != w.cycle:
		case f.o.Do == api.Store:
			w.mem[f.cell] = f.value
		default:
			w.regs[f.o.D] = f.value
		}
	}
	w.flying = slices.DeleteFunc(w.flying, func(f flight) bool { return f.lands == w.cycle })
}

func (w *waitless) turn() {
	for _, d := range w.turns {
		if d.done == w.cycle {
			w.at = d.to
		}
	}
	w.turns = slices.DeleteFunc(w.turns, func(d turning) bool { return d.done == w.cycle })
}

// wantSafe says of P4 that there is a unit, and of P5 that nothing is read to which an earlier write is in flight, and
// that writes land in their order.
func (w *waitless) wantSafe(o api.Op, class int) {
	for n := range w.m.Busy[class] {
		if w.taken[class][w.cycle+n]++; w.taken[class][w.cycle+n] > w.m.Units[class] {
			w.t.Fatalf("%v: too many of class %d in cycle %d", w.m, class, w.cycle+n)
		}
	}
	to, writes := ops.Writes(o)
	for _, f := range w.flying {
		d, ok := ops.Writes(f.o)
		lands := w.cycle + w.m.Lat[class]
		reads := f.issued < w.cycle && slices.Contains(ops.Reads(o), d)
		crosses := writes && d == to && (f.lands == lands || f.issued < w.cycle && f.lands > lands)
		if ok && (reads || crosses) {
			w.t.Fatalf("%v, %v: %v meets what %v has in flight", w.m, w.bundles, o, f.o)
		}
	}
}

// control does an operation of Ctl; true where the run has ended.
func (w *waitless) control(o api.Op) bool {
	a, turned := w.regs[o.A], true
	switch o.Do {
	case api.Branch:
		turned = a != 0
	case api.Halt:
		w.out.E, w.out.Value, w.out.Mem = api.OK, a, w.mem[:]
		return true
	case api.Count:
		turned, w.counter = false, 0
		if a > o.Imm { // a less what is above 0 may be beyond an int64, but then it is below 0
			w.counter = a - o.Imm
		}
	case api.Short:
		turned = a < int64(o.B)
	case api.Again:
		w.counter--
		turned = w.counter > 0
	}
	if turned {
		w.turns = append(w.turns, turning{w.cycle + 1 + w.m.Delay, int(o.Imm)})
	}
	return false
}

// issue begins an operation with what registers and cells hold; true where the run has ended.
func (w *waitless) issue(o api.Op, class int) bool {
	w.wantSafe(o, class)
	if class == api.Ctl {
		return w.control(o)
	}
	f := flight{lands: w.cycle + w.m.Lat[class], issued: w.cycle, o: o, cell: uint8(w.regs[o.A] + o.Imm)}
	switch o.Do {
	case api.Print:
		w.out.Prints = append(w.out.Prints, w.regs[o.A])
		return false
	case api.Const:
		f.value = o.Imm
	case api.Load:
		f.value = w.mem[f.cell]
	case api.Store:
		f.value = w.regs[o.B]
	default:
		value, e := ops.Reckon(o.Do, w.regs[o.A], w.regs[o.B])
		if e != api.OK {
			w.out.E = e
			return true
		}
		f.value = value
	}
	w.flying = append(w.flying, f)
	return false
}

// run makes up to as many cycles.
func (w *waitless) run(cycles int) api.Outcome {
	for w.cycle = 0; w.cycle < cycles; w.cycle++ {
		w.land()
		w.turn()
		if w.at >= len(w.bundles) {
			w.t.Fatalf("%v, %v: there is no bundle %d", w.m, w.bundles, w.at)
		}
		row := w.tags[w.at]
		for class, list := range w.bundles[w.at].Ops {
			for _, o := range list {
				w.issued[row[0]]++
				row = row[1:]
				if w.issue(o, class) {
					w.out.Steps = w.cycle + 1
					return w.out
				}
			}
		}
		w.at++
	}
	w.out.E, w.out.Steps = api.ErrFuel, cycles
	return w.out
}

func chanceState(r *rand.Rand) api.State {
	s := api.State{Regs: make([]int64, api.Registers), Mem: make([]int64, api.Cells)}
	for n := range s.Regs {
		s.Regs[n] = int64(r.Intn(11) - 2)
		if r.Intn(4) == 0 {
			s.Regs[n] = 0
		}
	}
	for n := range s.Mem {
		s.Mem[n] = int64(r.Intn(7) - 2)
	}
	return s
}

func serially(t testing.TB, p api.Program, s api.State, steps int) api.Outcome {
	t.Helper()
	one, e := serial.New(p, s)
	if e != api.OK {
		t.Fatal(p, e)
	}
	return one.Run(steps)
}

// wantTheSame says of P1, P3, P4 and P5 that the words do what the program says, and answers how it ended and what was done early.
func wantTheSame(t testing.TB, p api.Program, m api.Table, s api.State) (api.Outcome, []api.Tag) {
	t.Helper()
	const steps = 500
	k, e := Pack(p, m)
	if e != api.OK {
		t.Fatal(p, m, e)
	}
	w := newWaitless(t, k, m, s)
	want := serially(t, p, s, steps)
	if want.E == api.ErrFuel {
		got := w.run(steps)
		// So many operations at most were issued in as many cycles.
		want = serially(t, p, s, steps*api.Classes*api.MaxUnits)
		if len(got.Prints) > len(want.Prints) || !slices.Equal(got.Prints, want.Prints[:len(got.Prints)]) {
			t.Fatalf("%v, %v: prints %v, want %v", p, m, got.Prints, want.Prints)
		}
		return got, earlyIn(k)
	}
	got := w.run(len(w.bundles) * (want.Steps + 1))
	if got.E != want.E || got.Value != want.Value || !slices.Equal(got.Prints, want.Prints) || !slices.Equal(got.Mem, want.Mem) {
		t.Fatalf("%v, %v, %v: %v, want %v", p, m, s, got, want)
	}
	if want.E == api.OK {
		wantIssued(t, p, s, want.Steps, w.issued, earlyIn(k))
	}
	return got, earlyIn(k)
}

// wantIssued says that each operation was issued as often as the program did it; one that is done early at least as often.
func wantIssued(t testing.TB, p api.Program, s api.State, steps int, issued map[api.Tag]int, early []api.Tag) {
	t.Helper()
	trail, e := serial.Trail(p, s, steps)
	if e != api.OK {
		t.Fatal(p, e)
	}
	done := map[api.Tag]int{}
	for _, tag := range trail {
		done[tag]++
	}
	for block, b := range p.Blocks {
		for n := range b.Ops {
			tag := api.Tag{Block: block, Op: n}
			spec := tag
			spec.Spec = true
			fine := issued[tag] == done[tag]
			if slices.Contains(early, spec) {
				fine = issued[tag] == 0 && issued[spec] >= done[tag]
			}
			if !fine {
				t.Fatalf("%v: %v was issued %d times, early %d times, want %d", p, tag, issued[tag], issued[spec], done[tag])
			}
		}
		for n := range b.Body {
			if tag := (api.Tag{Block: block, Loop: true, Op: n}); issued[tag] != done[tag] {
				t.Fatalf("%v: %v was issued %d times, want %d", p, tag, issued[tag], done[tag])
			}
		}
	}
}

func TestWordsDoWhatTheProgramSays(t *testing.T) {
	r := rand.New(rand.NewSource(217))
	ended, moved := map[api.Errno]int{}, map[api.Errno]int{}
	for range 1500 {
		out, _ := wantTheSame(t, chanceProgram(r, 8), chanceTable(r), chanceState(r))
		ended[out.E]++
		p, m := chanceForks(r, 4), chanceQuick(r)
		if r.Intn(3) == 0 {
			m = chanceTable(r)
		}
		for range 3 {
			out, early := wantTheSame(t, p, m, chanceState(r))
			if len(early) > 0 {
				moved[out.E]++
			}
		}
	}
	if min(ended[api.OK], ended[api.ErrDivide], ended[api.ErrFuel]) < 200 {
		t.Errorf("by ends %v", ended)
	}
	if min(moved[api.OK], moved[api.ErrDivide], moved[api.ErrFuel]) < 100 {
		t.Errorf("with what is done early, by ends %v", moved)
	}
}

// P2: loops of any number of rounds behind one another, none and fewer than overlap too.
func TestAnyRounds(t *testing.T) {
	chain := []api.Op{loads(1, 2, 0), adds(3, 3, 1), multiplies(4, 3, 1), adds(2, 2, 5)}
	end := with(halts(3), prints(1), prints(2), prints(3), prints(4))
	p := blocks(with(branches(31, 1, 3), consts(5, 1)), with(loops(31, 2, chain...), adds(6, 5, 5), adds(7, 6, 6)), loops(30, 3, chain[2:]...), end)
	r := rand.New(rand.NewSource(218))
	for range 60 {
		m, s := chanceTable(r), chanceState(r)
		for rounds := int64(-2); rounds < 12; rounds++ {
			s.Regs[31], s.Regs[30] = rounds, 7-rounds
			wantTheSame(t, p, m, s)
		}
		s.Regs[31] = -1 << 63
		wantTheSame(t, p, m, s)
	}
}

// fuzzed answers a program, a table and a state of any bytes; mostly they are let in.
func fuzzed(data []byte) (api.Program, api.Table, api.State) {
	next := func() int {
		if len(data) == 0 {
			return 0
		}
		b := data[0]
		data = data[1:]
		return int(b)
	}
	m := api.Table{Delay: next() % 6}
	for class := range api.Classes {
		m.Units[class], m.Lat[class], m.Busy[class] = next()%9, 1+next()%8, 1+next()%5
	}
	s := api.State{Regs: make([]int64, api.Registers), Mem: make([]int64, api.Cells)}
	for n := range 8 {
		s.Regs[n], s.Mem[n] = int64(int8(next()))%16, int64(int8(next()))
	}
	operations := func() []api.Op {
		var l []api.Op
		for range next() % 12 {
			do := int8(1 + next()%18) // now and then a Jump, that no program has
			l = append(l, opOf(do, uint8(next()%9), uint8(next()%9), uint8(next()%9), int64(int8(next()))))
		}
		return l
	}
	var p api.Program
	count := 1 + next()%6
	for range count {
		b := api.Block{Ops: operations(), End: int8(next() % 5)}
		if b.End != api.EndJump {
			b.A = uint8(next() % 9)
		}
		if b.End != api.EndHalt {
			b.Then = next() % count
		}
		if b.End == api.EndBranch {
			b.Else = next() % count
		}
		if b.End == api.EndLoop {
			b.Body = operations()
		}
		p.Blocks = append(p.Blocks, b)
	}
	return p, m, s
}

func FuzzPack(f *testing.F) {
	r := rand.New(rand.NewSource(219))
	for range 40 {
		data := make([]byte, 40+r.Intn(200))
		r.Read(data)
		f.Add(data)
	}
	f.Fuzz(func(t *testing.T, data []byte) {
		p, m, s := fuzzed(data)
		want := refusedTold(p, m)
		if _, e := Pack(p, m); e != want {
			t.Fatalf("Pack(%v, %v) is %v, want %v", p, m, e, want)
		}
		if want == api.OK {
			wantTold(t, p, m)
			wantTheSame(t, p, m, s)
		}
	})
}
