package pipe

import (
	"math"
	"math/big"
	"math/rand"
	"slices"
	"sync"
	"testing"

	"hayloft/api"
	"hayloft/bundle"
	"hayloft/ops"
)

// effect is something that was issued: a register or a cell is that from a cycle on.
type effect struct {
	cell   bool
	number int
	value  int64
	lands  int
}

// turned is a turn that was issued.
type turned struct {
	to   int64
	done int
}

// history is the chapter told a second time: nothing is ever written, but what a register or a cell holds in a cycle is looked up
// among all that was issued from the beginning on.
type history struct {
	l       []api.Bundle
	m       api.Table
	s       api.State
	effects []effect
	turns   []turned
	counter *big.Int
	cycle   int // the last one in which something could land; -1 ahead of the first
	out     api.Outcome
}

// hold answers what a register or a cell holds: what landed last, and of that what was issued last.
func (h *history) hold(cell bool, number int) int64 {
	start, value, last := h.s.Regs, int64(0), -1
	if cell {
		start = h.s.Mem
	}
	if number < len(start) {
		value = start[number]
	}
	for _, e := range h.effects {
		if e.cell == cell && e.number == number && e.lands <= h.cycle && e.lands >= last {
			value, last = e.value, e.lands
		}
	}
	return value
}

func (h *history) register(number uint8) int64 { return h.hold(false, int(number)) }

// addressTold is reckoned without wrapping round.
func addressTold(base, imm int64) int {
	sum := new(big.Int).Add(big.NewInt(base), big.NewInt(imm))
	return int(sum.Mod(sum, big.NewInt(256)).Int64())
}

// turnsTold answers whether an operation of Ctl turns.
func (h *history) turnsTold(o api.Op) bool {
	switch o.Do {
	case api.Jump:
		return true
	case api.Branch:
		return h.register(o.A) != 0
	case api.Short:
		return h.register(o.A) < int64(o.B)
	case api.Again:
		h.counter.Sub(h.counter, big.NewInt(1))
		return h.counter.Sign() > 0
	}
	return false
}

// issueTold answers whether the run goes on.
func (h *history) issueTold(o api.Op, class int) bool {
	e := effect{number: int(o.D), lands: h.cycle + h.m.Lat[class]}
	switch {
	case o.Do == api.Halt:
		h.out.E, h.out.Value = api.OK, h.register(o.A)
		return false
	case o.Do == api.Count:
		h.counter.Sub(big.NewInt(h.register(o.A)), big.NewInt(o.Imm))
		if h.counter.Sign() < 0 {
			h.counter.SetInt64(0)
		}
		return true
	case class == api.Ctl:
		if h.turnsTold(o) {
			h.turns = append(h.turns, turned{o.Imm, h.cycle + 1 + h.m.Delay})
		}
		return true
	case o.Do == api.Print:
		h.out.Prints = append(h.out.Prints, h.register(o.A))
		return true
	case o.Do == api.Store:
		e.cell, e.number, e.value = true, addressTold(h.register(o.A), o.Imm), h.register(o.B)
	case o.Do == api.Load:
		e.value = h.hold(true, addressTold(h.register(o.A), o.Imm))
	case o.Do == api.Const:
		e.value = o.Imm
	default:
		if (o.Do == api.Divide || o.Do == api.Rest) && h.register(o.B) == 0 {
			h.out.E = api.ErrDivide
			return false
		}
		e.value, _ = ops.Reckon(o.Do, h.register(o.A), h.register(o.B))
	}
	h.effects = append(h.effects, e)
	return true
}

// place answers where a cycle finds its bundle, if the one ahead found it there.
func (h *history) place(ahead int64) int64 {
	at := ahead + 1
	for _, d := range h.turns {
		if d.done == h.cycle {
			at = d.to
		}
	}
	return at
}

func (h *history) run(cycles int) {
	at := int64(-1)
	for h.cycle = 0; h.cycle < cycles; h.cycle++ {
		at = h.place(at)
		if at < 0 || at >= int64(len(h.l)) {
			h.out.E, h.out.Steps = api.ErrNone, h.cycle
			return
		}
		for class, list := range h.l[at].Ops {
			for _, o := range list {
				if !h.issueTold(o, class) {
					h.out.Steps = h.cycle + 1
					return
				}
			}
		}
	}
	h.cycle = cycles - 1
	h.out.E, h.out.Steps = api.ErrFuel, cycles
}

func (h *history) state() api.State {
	var s api.State
	for n := range 32 {
		s.Regs = append(s.Regs, h.hold(false, n))
	}
	for n := range 256 {
		s.Mem = append(s.Mem, h.hold(true, n))
	}
	return s
}

func (h *history) flying() []uint8 {
	var l []uint8
	for n := range 32 {
		if slices.ContainsFunc(h.effects, func(e effect) bool { return !e.cell && e.number == n && e.lands > h.cycle }) {
			l = append(l, uint8(n))
		}
	}
	return l
}

// tell answers what becomes of a run of that many cycles.
func tell(l []api.Bundle, m api.Table, s api.State, cycles int) *history {
	h := &history{l: l, m: m, s: s, counter: new(big.Int)}
	h.run(max(cycles, 0))
	if h.out.E == api.OK {
		h.out.Mem = h.state().Mem
	}
	return h
}

// wantTold says that a machine that has made as many cycles, and got, which it told then, are as the chapter tells; and answers that.
func wantTold(t testing.TB, l []api.Bundle, m api.Table, s api.State, cycles int, p *Machine, got api.Outcome) *history {
	t.Helper()
	h := tell(l, m, s, cycles)
	if !same(got, h.out) {
		t.Fatalf("%v, %v, %v, %d cycles: %v, want %v", l, m, s, cycles, told(got), told(h.out))
	}
	if now := p.State(); !sameState(now, h.state()) {
		t.Fatalf("%v, %v, %v, %d cycles: state %v, want %v", l, m, s, cycles, now, h.state())
	}
	if now := p.Flying(); !slices.Equal(now, h.flying()) {
		t.Fatalf("%v, %v, %v, %d cycles: flying %v, want %v", l, m, s, cycles, now, h.flying())
	}
	return h
}

// made answers a machine of bundles.
func made(t testing.TB, l []api.Bundle, m api.Table, s api.State) *Machine {
	t.Helper()
	w, e := bundle.Encode(l, m)
	if e != api.OK {
		t.Fatal(l, m, e)
	}
	p, e := New(w, m, s)
	if e != api.OK {
		t.Fatal(l, m, s, e)
	}
	return p
}

// chanceTable answers a table; half of the time of few units.
func chanceTable(r *rand.Rand) api.Table {
	m := api.Table{Delay: r.Intn(api.MaxDelay + 1)}
	most := 1 + r.Intn(api.MaxUnits)
	if r.Intn(2) == 0 {
		most = 1
	}
	for class := range api.Classes {
		m.Units[class], m.Lat[class], m.Busy[class] = 1+r.Intn(most), 1+r.Intn(api.MaxLatency), 1+r.Intn(api.MaxBusy)
	}
	return m
}

func chanceNumber(r *rand.Rand) int64 {
	switch r.Intn(12) {
	case 0:
		return math.MinInt64 + int64(r.Intn(3))
	case 1:
		return math.MaxInt64 - int64(r.Intn(3))
	case 2:
		return int64(r.Uint64())
	case 3:
		return int64(r.Intn(600) - 300)
	}
	return int64(r.Intn(9) - 1)
}

func chanceNumbers(r *rand.Rand, count int) []int64 {
	l := make([]int64, count)
	for n := range l {
		l[n] = chanceNumber(r)
	}
	return l
}

// chanceState answers any; most of the time no register is 0, so that not every divide is a trap.
func chanceState(r *rand.Rand) api.State {
	s := api.State{Regs: chanceNumbers(r, 32), Mem: chanceNumbers(r, 256)}
	if r.Intn(5) == 0 {
		return api.State{Regs: s.Regs[:r.Intn(33)], Mem: s.Mem[:r.Intn(257)]}
	}
	for n := range s.Regs {
		if s.Regs[n] == 0 {
			s.Regs[n] = 3
		}
	}
	return s
}

// chanceOp answers an operation of a class, for as many registers and bundles.
func chanceOp(r *rand.Rand, class, registers, bundles int) api.Op {
	first := [api.Classes]int{api.Const, api.Times, api.Load, api.Jump}[class]
	behind := [api.Classes]int{api.Times, api.Load, api.Jump, api.Kinds}[class]
	do := first + r.Intn(behind-first)
	if (do == api.Halt || do == api.Divide || do == api.Rest) && r.Intn(3) > 0 {
		do = behind - 1
		if class == api.Mul {
			do = api.Times
		}
	}
	register := func() uint8 { return uint8(r.Intn(registers)) }
	imm := int64(r.Intn(9) - 3)
	switch {
	case do == api.Load || do == api.Store:
		imm += 256 * int64(r.Intn(3)-1)
	case do == api.Count || do == api.Const:
		if r.Intn(8) == 0 {
			imm = int64(int32(r.Uint32()))
		}
	case class == api.Ctl:
		imm = int64(r.Intn(bundles))
		if r.Intn(12) == 0 {
			imm += int64(r.Intn(7) - 3)
		}
	}
	return opOf(do, register(), register(), register(), imm)
}

// chanceBundles answers well formed ones, of few operations or of many.
func chanceBundles(r *rand.Rand, m api.Table) []api.Bundle {
	count, registers := 1+r.Intn(12), 1+r.Intn(8)
	if r.Intn(3) == 0 {
		registers = api.Registers
	}
	l := make([]api.Bundle, count)
	full := 1 + r.Intn(4)
	for n := range l {
		for class := range api.Classes {
			chance := full
			if class == api.Ctl {
				chance = 1
			}
			for range m.Units[class] {
				if r.Intn(4) < chance {
					l[n].Ops[class] = append(l[n].Ops[class], chanceOp(r, class, registers, count))
				}
			}
		}
	}
	if n := count - 1 - m.Delay; n >= 0 && r.Intn(4) > 0 { // so that not so many run out of bundles
		l[n].Ops[api.Ctl] = []api.Op{opOf(api.Jump, 0, 0, 0, int64(r.Intn(count)))}
	}
	return l
}

// chanceRounds answers bundles that go round as often as a register says, and halt then.
func chanceRounds(r *rand.Rand, m api.Table) []api.Bundle {
	l := chanceBundles(r, m)
	for n := range l {
		l[n].Ops[api.Ctl] = nil
	}
	first := make([]api.Bundle, 1)
	first[0].Ops[api.Ctl] = []api.Op{opOf(api.Count, 0, uint8(r.Intn(32)), 0, int64(r.Intn(3)-2))}
	l[max(0, len(l)-1-m.Delay)].Ops[api.Ctl] = []api.Op{opOf(api.Again, 0, 0, 0, 1)}
	last := make([]api.Bundle, 1+m.Delay)
	last[m.Delay].Ops[api.Ctl] = []api.Op{opOf(api.Halt, 0, uint8(r.Intn(32)), 0, 0)}
	return slices.Concat(first, l, last)
}

func TestManyBundles(t *testing.T) {
	r := rand.New(rand.NewSource(22))
	ends, long, flew := map[api.Errno]int{}, map[api.Errno]int{}, map[api.Errno]int{}
	for n := range 6000 {
		m := chanceTable(r)
		l, s, cycles := chanceBundles(r, m), chanceState(r), r.Intn(60)-1
		if n%3 == 0 {
			l, cycles = chanceRounds(r, m), 100
		}
		p := made(t, l, m, s)
		h := wantTold(t, l, m, s, cycles, p, p.Run(cycles))
		ends[h.out.E]++
		if h.out.Steps > 12 {
			long[h.out.E]++
		}
		if len(h.flying()) > 0 {
			flew[h.out.E]++
		}
	}
	for _, e := range []api.Errno{api.OK, api.ErrDivide, api.ErrNone, api.ErrFuel} {
		if ends[e] < 300 || long[e] < 60 || flew[e] < 200 {
			t.Errorf("ends %v, behind more than 12 cycles %v, with something in flight %v", ends, long, flew)
			break
		}
	}
}

// P22.4: cycles that are dealt out in parts come to the same as all at once, and each part tells its own.
func TestPartsOfARun(t *testing.T) {
	r := rand.New(rand.NewSource(224))
	for range 1500 {
		m := chanceTable(r)
		l, s := chanceBundles(r, m), chanceState(r)
		p := made(t, l, m, s)
		sum := 0
		for range r.Intn(8) {
			part := r.Intn(9)
			sum += part
			wantTold(t, l, m, s, sum, p, p.Run(part))
			if r.Intn(4) == 0 {
				wantTold(t, l, m, s, sum, p, p.Run(-r.Intn(9)))
			}
		}
		all := made(t, l, m, s)
		if a, b := all.Run(sum), p.Run(0); !same(a, b) || !sameState(all.State(), p.State()) || !slices.Equal(all.Flying(), p.Flying()) {
			t.Fatalf("%v, %v, %d: %v, in parts %v", l, m, sum, told(a), told(b))
		}
		// Behind the end, or on to it.
		for range 3 {
			a, b := all.Run(40), p.Run(40)
			if !same(a, b) {
				t.Fatalf("%v, %v: %v, in parts %v", l, m, told(a), told(b))
			}
		}
	}
}

// Two parts of MaxSteps in all, of a run that does not end and of one that ends on the way.
func TestPartsOfALongRun(t *testing.T) {
	m := lats(wide(), 3, 5, 8, 1)
	for _, value := range []int64{math.MaxInt64, 200000} {
		s := regs(0, value, 1, 7)
		lines := []string{"count r1 0", "add r3 r3 r2, times r4 r3 r3, store r3 r4 0, again 1", "load r5 r3 9", "halt r4"}
		want := machine(t, m, s, lines...)
		o := want.Run(api.MaxSteps)
		if (o.E == api.OK) != (value == 200000) || o.E == api.OK && o.Steps != 400002 {
			t.Fatal(told(o))
		}
		for _, first := range []int{0, 1, 2, 12345, 400000, 400001, 400002, api.MaxSteps - 1, api.MaxSteps} {
			p := machine(t, m, s, lines...)
			p.Run(first)
			if got := p.Run(api.MaxSteps - first); !same(got, o) || !sameState(p.State(), want.State()) || !slices.Equal(p.Flying(), want.Flying()) {
				t.Errorf("%d and the rest: %v, want %v", first, told(got), told(o))
			}
		}
	}
}

// straight answers bundles without a turn, a halt and a trap.
func straight(r *rand.Rand, m api.Table) []api.Bundle {
	l := chanceBundles(r, m)
	for n := range l {
		l[n].Ops[api.Ctl] = nil
		l[n].Ops[api.Mul] = slices.DeleteFunc(l[n].Ops[api.Mul], func(o api.Op) bool { return o.Do != api.Times })
	}
	return append(l, make([]api.Bundle, 9)...)
}

// P22.5: a register is written in no other cycle than Lat cycles behind an issue to it, and from that on it is what was issued; one to which
// nothing was issued keeps its value.
func TestResultsLandInTheirCycle(t *testing.T) {
	r := rand.New(rand.NewSource(225))
	kept := 0
	for range 800 {
		m := chanceTable(r)
		l, s := straight(r, m), chanceState(r)
		p := made(t, l, m, s)
		before := p.State()
		var written [32]bool
		for cycle := range l {
			p.Run(1)
			now, flying := p.State(), p.Flying()
			var lands, flies [32]bool
			for class, lat := range m.Lat {
				for ahead := 0; ahead <= lat && ahead <= cycle; ahead++ {
					for _, o := range l[cycle-ahead].Ops[class] {
						if d, ok := ops.Writes(o); ok {
							lands[d], flies[d] = lands[d] || ahead == lat, flies[d] || ahead < lat
							written[d] = true
						}
					}
				}
			}
			for d := range 32 {
				if !lands[d] && now.Regs[d] != before.Regs[d] {
					t.Fatalf("%v, %v: r%d was written in cycle %d", l, m, d, cycle)
				}
				if flies[d] != slices.Contains(flying, uint8(d)) {
					t.Fatalf("%v, %v: r%d in flight behind cycle %d: %v", l, m, d, cycle, !flies[d])
				}
			}
			before = now
		}
		for d, start := range made(t, l, m, s).State().Regs {
			if !written[d] {
				kept++
				if before.Regs[d] != start {
					t.Fatalf("%v, %v: r%d was %d, is %d", l, m, d, start, before.Regs[d])
				}
			}
		}
	}
	if kept < 5000 {
		t.Errorf("%d were not written", kept)
	}
}

// R3: what is handed in is not changed and not kept, with the room behind its ends.
func TestArgumentsStay(t *testing.T) {
	r := rand.New(rand.NewSource(226))
	for range 400 {
		m := chanceTable(r)
		l, s := chanceBundles(r, m), chanceState(r)
		w, e := bundle.Encode(l, m)
		if e != api.OK {
			t.Fatal(e)
		}
		w = append(w, 7, 8)
		roomy := api.State{Regs: append(slices.Clone(s.Regs), 7, 8)[:len(s.Regs)], Mem: append(slices.Clone(s.Mem), 7, 8)[:len(s.Mem)]}
		whole := func() ([]uint64, []int64, []int64) {
			return w, roomy.Regs[:len(s.Regs)+2], roomy.Mem[:len(s.Mem)+2]
		}
		words, regs, mem := whole()
		words, regs, mem = slices.Clone(words), slices.Clone(regs), slices.Clone(mem)
		p, e := New(w[:len(w)-2], m, roomy)
		if e != api.OK {
			t.Fatal(e)
		}
		p.Run(9)
		p.State()
		p.Flying()
		nowWords, nowRegs, nowMem := whole()
		if !slices.Equal(words, nowWords) || !slices.Equal(regs, nowRegs) || !slices.Equal(mem, nowMem) {
			t.Fatal("what was handed in was changed")
		}
		clear(w)
		for n := range nowRegs {
			nowRegs[n] = -77
		}
		for n := range nowMem {
			nowMem[n] = -77
		}
		wantTold(t, l, m, s, 30, p, p.Run(21))
	}
}

func spoil[T any](l []T, with T) {
	for n := range l[:cap(l)] {
		l[:cap(l)][n] = with
	}
}

// R3: answers are the caller's own.
func TestAnswersAreTheCallersOwn(t *testing.T) {
	r := rand.New(rand.NewSource(227))
	for range 400 {
		m := chanceTable(r)
		l, s := chanceBundles(r, m), chanceState(r)
		p := made(t, l, m, s)
		for cycles := 0; cycles <= 30; cycles += 5 {
			part := min(cycles, 5)
			o, again := p.Run(part), p.Run(0)
			prints, mem := slices.Clone(o.Prints), slices.Clone(o.Mem)
			spoil(again.Prints, -99)
			spoil(again.Mem, -99)
			state, flying := p.State(), p.Flying()
			spoil(state.Regs, -99)
			spoil(state.Mem, -99)
			spoil(flying, 99)
			wantTold(t, l, m, s, cycles, p, p.Run(0))
			p.Run(0)
			if !slices.Equal(o.Prints, prints) || !slices.Equal(o.Mem, mem) {
				t.Fatal("an answer shows what was written into another one")
			}
			state = p.State()
			spoil(state.Mem, -98)
			if h := tell(l, m, s, cycles); !slices.Equal(state.Regs, h.state().Regs) {
				t.Fatal("the registers of an answer show what was written into its cells")
			}
		}
	}
	// An answer of a run that goes on does not show what it does then.
	p := machine(t, lats(wide(), 1, 1, 1, 1), regs(0, 2), "print r1, const r1 3, store r0 r1 0", "print r1", "print r1", "halt r1")
	o, s := p.Run(1), p.State()
	p.Run(9)
	if !same(o, fuel(1, 2)) || s.Regs[1] != 2 || s.Mem[0] != 0 {
		t.Error(told(o), s)
	}
}

// R2: machines know nothing of one another, and of how many are asked at the same time.
func TestManyMachinesAtATime(t *testing.T) {
	r := rand.New(rand.NewSource(228))
	for range 25 {
		m := chanceTable(r)
		l, s := chanceBundles(r, m), chanceState(r)
		w, _ := bundle.Encode(l, m)
		want := tell(l, m, s, 40)
		state, flying := want.state(), want.flying()
		var all sync.WaitGroup
		for worker := range 8 {
			all.Go(func() {
				p, e := New(w, m, s)
				if e != api.OK {
					t.Error(e)
					return
				}
				p.Run(worker * 5)
				if o := p.Run(40 - worker*5); !same(o, want.out) || !sameState(p.State(), state) || !slices.Equal(p.Flying(), flying) {
					t.Errorf("%v, %v: %v, want %v", l, m, told(o), told(want.out))
				}
			})
		}
		all.Wait()
	}
}

// P22.1's errors told a second time, by what chapter 19 tells.
func TestManyErrors(t *testing.T) {
	r := rand.New(rand.NewSource(229))
	found := map[api.Errno]int{}
	for range 4000 {
		m := chanceTable(r)
		w, _ := bundle.Encode(chanceBundles(r, m), m)
		s := api.State{Regs: make([]int64, 20), Mem: make([]int64, 200)}
		for range r.Intn(3) {
			switch r.Intn(7) {
			case 0:
				m.Lat[r.Intn(api.Classes)] = r.Intn(11) - 1
			case 1:
				m.Delay = r.Intn(8) - 1
			case 2:
				w[r.Intn(len(w))] ^= 1 << r.Intn(64)
			case 3:
				w = append(w, 0)
			case 4:
				s.Regs = make([]int64, 31+r.Intn(3))
			case 5:
				s.Mem = make([]int64, 255+r.Intn(3))
			case 6:
				if r.Intn(6) > 0 { // so many words take their time
					break
				}
				w = append(w, make([]uint64, (api.MaxCycles-r.Intn(20))*max(1, m.Units[0]+m.Units[1]+m.Units[2]+m.Units[3]))...)
			}
		}
		l, want := bundle.Decode(w, m)
		if want == api.OK && (len(s.Regs) > 32 || len(s.Mem) > 256) {
			want = api.ErrArg
		}
		p, e := New(w, m, s)
		if e != want || (p == nil) != (e != api.OK) {
			t.Fatalf("New of %d words, %v: %v, %v, want %v", len(w), m, p, e, want)
		}
		if e == api.OK && len(l) < 100 {
			wantTold(t, l, m, s, 20, p, p.Run(20))
		}
		found[e]++
	}
	if len(found) != 5 || min(found[api.OK], found[api.ErrTable], found[api.ErrBadBundle], found[api.ErrArg]) < 200 || found[api.ErrLong] < 20 {
		t.Errorf("by errors %v", found)
	}
}

// fuzzed answers bundles, a table, a state and how many cycles, of any bytes.
func fuzzed(data []byte) ([]api.Bundle, api.Table, api.State, int) {
	next := func() int {
		if len(data) == 0 {
			return 0
		}
		b := data[0]
		data = data[1:]
		return int(b)
	}
	m := api.Table{Delay: next() % 5}
	for class := range api.Classes {
		m.Units[class], m.Lat[class], m.Busy[class] = next()%9, 1+next()%8, 1+next()%4
	}
	s := api.State{Regs: make([]int64, next()%33), Mem: make([]int64, next())}
	for n := range min(8, len(s.Regs)) {
		s.Regs[n] = int64(int8(next())) << (next() % 64)
	}
	for n := range min(8, len(s.Mem)) {
		s.Mem[n] = int64(int8(next()))
	}
	cycles := next()
	l := make([]api.Bundle, next()%16)
	for n := range l {
		for range next() % 12 {
			o := opOf(1+next()%(api.Kinds-1), uint8(next()%32), uint8(next()%32), uint8(next()%32), int64(int8(next())))
			class, _ := ops.Class(o.Do)
			if class == api.Ctl && o.Imm > 16 && o.Do != api.Count {
				o.Imm %= 16
			}
			if len(l[n].Ops[class]) < m.Units[class] {
				l[n].Ops[class] = append(l[n].Ops[class], o)
			}
		}
	}
	if m.Units == [api.Classes]int{} {
		l = nil // they have no words
	}
	return l, m, s, cycles
}

func FuzzPipe(f *testing.F) {
	r := rand.New(rand.NewSource(230))
	for range 40 {
		data := make([]byte, 40+r.Intn(300))
		r.Read(data)
		f.Add(data)
	}
	f.Fuzz(func(t *testing.T, data []byte) {
		l, m, s, cycles := fuzzed(data)
		p := made(t, l, m, s)
		wantTold(t, l, m, s, cycles/3, p, p.Run(cycles/3))
		wantTold(t, l, m, s, cycles, p, p.Run(cycles-cycles/3))
	})
}
