package serial

import (
	"math"
	"math/rand"
	"reflect"
	"slices"
	"testing"

	"hayloft/api"
	"hayloft/ops"
	"hayloft/program"
)

// told is the chapter told a second time: a run from the beginning on, block by block and round by round, each
// operation and each coming to an end by one call; who may do no more leaves by panic.
type told struct {
	regs   [32]int64
	mem    [256]int64
	left   int
	tags   []api.Tag
	prints []int64
	e      api.Errno
	value  int64
}

type leave struct{}

func (r *told) leaves(e api.Errno) {
	r.e = e
	panic(leave{})
}

func (r *told) count(tag api.Tag) {
	if r.left == 0 {
		r.leaves(api.ErrFuel)
	}
	r.left--
	r.tags = append(r.tags, tag)
}

func (r *told) do(tag api.Tag, o api.Op) {
	a, b := r.regs[o.A], r.regs[o.B]
	if (o.Do == api.Divide || o.Do == api.Rest) && b == 0 {
		r.leaves(api.ErrDivide)
	}
	r.count(tag)
	cell := ((a%256+o.Imm)%256 + 256) % 256
	switch o.Do {
	case api.Const:
		r.regs[o.D] = o.Imm
	case api.Load:
		r.regs[o.D] = r.mem[cell]
	case api.Store:
		r.mem[cell] = b
	case api.Print:
		r.prints = append(r.prints, a)
	default:
		r.regs[o.D], _ = ops.Reckon(o.Do, a, b)
	}
}

func (r *told) block(n int, b api.Block) int {
	for k, o := range b.Ops {
		r.do(at(n, k), o)
	}
	r.count(at(n, -1))
	switch b.End {
	case api.EndHalt:
		r.value = r.regs[b.A]
		r.leaves(api.OK)
	case api.EndBranch:
		if r.regs[b.A] == 0 {
			return b.Else
		}
	case api.EndLoop:
		for rounds := r.regs[b.A]; rounds > 0; rounds-- {
			for k, o := range b.Body {
				r.do(body(n, k), o)
			}
			r.count(at(n, -1))
		}
	}
	return b.Then
}

func tell(p api.Program, s api.State, steps int) (r told) {
	defer func() {
		if x := recover(); x != any(leave{}) {
			panic(x)
		}
	}()
	copy(r.regs[:], s.Regs)
	copy(r.mem[:], s.Mem)
	r.left = max(0, steps)
	for n := 0; ; {
		n = r.block(n, p.Blocks[n])
	}
}

func (r told) outcome() api.Outcome {
	o := api.Outcome{E: r.e, Prints: r.prints, Steps: len(r.tags)}
	if r.e == api.OK {
		o.Value, o.Mem = r.value, r.mem[:]
	}
	return o
}

func chanceOp(r *rand.Rand, registers int) api.Op {
	register := func() uint8 { return uint8(r.Intn(registers) * 31 / max(1, registers-1)) }
	do := int8(api.Const + r.Intn(api.Print))
	if (do == api.Divide || do == api.Rest) && r.Intn(3) > 0 {
		do = api.Print
	}
	switch do {
	case api.Const:
		return consts(register(), int64(r.Intn(9)-3))
	case api.Move:
		return moves(register(), register())
	case api.Load:
		return loads(register(), register(), int64(r.Intn(600)-300))
	case api.Store:
		return stores(register(), register(), int64(r.Intn(600)-300))
	case api.Print:
		return prints(register())
	}
	return api.Op{Do: do, D: register(), A: register(), B: register()}
}

func chanceOps(r *rand.Rand, registers int) []api.Op {
	var list []api.Op
	for range r.Intn(6) {
		list = append(list, chanceOp(r, registers))
	}
	return list
}

// chance answers a program that program.Check takes.
func chance(r *rand.Rand) api.Program {
	blocks, registers := 1+r.Intn(6), 1+r.Intn(8)
	if r.Intn(30) == 0 {
		blocks, registers = 1+r.Intn(60), 32
	}
	var p api.Program
	for range blocks {
		b := with(api.Block{End: int8(r.Intn(4))}, chanceOps(r, registers)...)
		if b.End != api.EndJump {
			b.A = uint8(r.Intn(registers))
		}
		if b.End != api.EndHalt {
			b.Then = r.Intn(blocks)
		}
		if b.End == api.EndBranch {
			b.Else = r.Intn(blocks)
		}
		if b.End == api.EndLoop {
			b.Body = chanceOps(r, registers)
		}
		p.Blocks = append(p.Blocks, b)
	}
	return p
}

func chanceNumbers(r *rand.Rand, count int) []int64 {
	list := make([]int64, count)
	for n := range list {
		list[n] = int64(r.Intn(12) - 4)
		if r.Intn(6) == 0 {
			list[n] = []int64{math.MinInt64, math.MaxInt64, 0, 1 << 40, -1 << 40, 255, 256}[r.Intn(7)]
		}
	}
	return list
}

func chanceState(r *rand.Rand) api.State {
	return api.State{Regs: chanceNumbers(r, r.Intn(33)), Mem: chanceNumbers(r, r.Intn(257))}
}

// wantTold holds a machine that has done as many steps, and got, which it told then, against the second telling.
func wantTold(t *testing.T, p api.Program, s api.State, steps int, m *Machine, got api.Outcome) {
	t.Helper()
	r := tell(p, s, steps)
	if want := r.outcome(); !same(got, want) {
		t.Fatalf("%v, %v, %d steps: %+v, want %+v", p, s, steps, got, want)
	}
	if want := (api.State{Regs: r.regs[:], Mem: r.mem[:]}); !sameState(m.State(), want) {
		t.Fatalf("%v, %v, %d steps: %+v, want %+v", p, s, steps, m.State(), want)
	}
}

func wantToldTrail(t *testing.T, p api.Program, s api.State, steps int) {
	t.Helper()
	tags, e := Trail(p, s, steps)
	if want := tell(p, s, steps).tags; e != api.OK || !slices.Equal(tags, want) {
		t.Fatalf("Trail(%v, %v, %d) = %v, %v, want %v", p, s, steps, tags, e, want)
	}
}

func TestManyPrograms(t *testing.T) {
	r := rand.New(rand.NewSource(9))
	ends := map[api.Errno]int{}
	for range 6000 {
		p, s, steps := chance(r), chanceState(r), r.Intn(150)
		if r.Intn(3) == 0 {
			steps = r.Intn(12) - 1
		}
		m := machine(t, p, s)
		o := m.Run(steps)
		wantTold(t, p, s, steps, m, o)
		wantToldTrail(t, p, s, steps)
		ends[o.E]++
	}
	if len(ends) != 3 || ends[api.OK] < 500 || ends[api.ErrDivide] < 300 || ends[api.ErrFuel] < 500 {
		t.Errorf("ends %v", ends)
	}
}

// P9.5: steps that are dealt out in parts come to the same as all at once, and each part tells its own.
func TestPartsOfARun(t *testing.T) {
	r := rand.New(rand.NewSource(95))
	for range 1500 {
		p, s := chance(r), chanceState(r)
		m := machine(t, p, s)
		sum := 0
		for range r.Intn(8) {
			part := r.Intn(20)
			sum += part
			wantTold(t, p, s, sum, m, m.Run(part))
			if r.Intn(4) == 0 {
				wantTold(t, p, s, sum, m, m.Run(-r.Intn(9)))
			}
		}
		all := machine(t, p, s)
		if a, b := all.Run(sum), m.Run(0); !same(a, b) || !sameState(all.State(), m.State()) {
			t.Fatalf("%v, %d: %+v, in parts %+v", p, sum, a, b)
		}
	}
	// One step at a time, to the end and beyond.
	m := machine(t, sums(), api.State{})
	for n := range 15 {
		wantTold(t, sums(), api.State{}, n+1, m, m.Run(1))
	}
	// Two parts of MaxSteps in all.
	p, s := of(loops(1, 0, adds(2, 2, 3))), regs(0, 5, 0, 1)
	for _, first := range []int{0, 1, 12345, api.MaxSteps - 1, api.MaxSteps} {
		m = machine(t, p, s)
		m.Run(first)
		wantTold(t, p, s, api.MaxSteps, m, m.Run(api.MaxSteps-first))
	}
}

// P9.5: a program without rings and loops ends within its number of operations.
func TestProgramsThatEnd(t *testing.T) {
	r := rand.New(rand.NewSource(59))
	for range 2000 {
		p := chance(r)
		for n := range p.Blocks {
			// Every end goes on to a greater block, the last ones halt.
			b := &p.Blocks[n]
			b.Body = nil
			behind := len(p.Blocks) - n - 1
			if behind == 0 {
				b.End, b.Then, b.Else = api.EndHalt, 0, 0
				continue
			}
			b.End, b.Else = api.EndBranch, n+1+r.Intn(behind)
			b.Then = n + 1 + r.Intn(behind)
		}
		m := machine(t, p, chanceState(r))
		if o := m.Run(program.Ops(p)); o.E != api.OK && o.E != api.ErrDivide {
			t.Fatalf("%v: %v", p, o.E)
		}
	}
}

// P9.6: what nothing writes stays.
func TestWhatIsNotWrittenStays(t *testing.T) {
	r := rand.New(rand.NewSource(96))
	withoutStore := 0
	for range 2000 {
		p, s := chance(r), chanceState(r)
		if r.Intn(2) == 0 {
			for n, b := range p.Blocks {
				stored := func(o api.Op) bool { return o.Do == api.Store }
				p.Blocks[n].Ops, p.Blocks[n].Body = slices.DeleteFunc(b.Ops, stored), slices.DeleteFunc(b.Body, stored)
			}
		}
		writes, store := written(p)
		m := machine(t, p, s)
		for range 4 {
			m.Run(r.Intn(60))
			now := m.State()
			for n, value := range full(s).Regs {
				if !writes[uint8(n)] && now.Regs[n] != value {
					t.Fatalf("%v: register %d was %d, is %d", p, n, value, now.Regs[n])
				}
			}
			if !store && !slices.Equal(now.Mem, full(s).Mem) {
				t.Fatalf("%v: memory was %v, is %v", p, s.Mem, now.Mem)
			}
		}
		if !store {
			withoutStore++
		}
	}
	if withoutStore < 500 {
		t.Errorf("only %d without a Store", withoutStore)
	}
}

func written(p api.Program) (map[uint8]bool, bool) {
	writes, store := map[uint8]bool{}, false
	for _, b := range p.Blocks {
		for _, o := range slices.Concat(b.Ops, b.Body) {
			if d, ok := ops.Writes(o); ok {
				writes[d] = true
			}
			store = store || o.Do == api.Store
		}
	}
	return writes, store
}

// anew answers p and s in memory of their own, with the room behind the ends of their lists.
func anew(p api.Program, s api.State) (api.Program, api.State) {
	p.Blocks = roomy(p.Blocks)
	for n, b := range p.Blocks {
		p.Blocks[n].Ops, p.Blocks[n].Body = roomy(b.Ops), roomy(b.Body)
	}
	return p, api.State{Regs: roomy(s.Regs), Mem: roomy(s.Mem)}
}

func roomy[T any](list []T) []T { return slices.Clone(list[:cap(list)])[:len(list)] }

// withRoom answers a list that has room behind its end, with something in it.
func withRoom[T any](list []T, behind ...T) []T {
	return append(slices.Clone(list), behind...)[:len(list)]
}

// whole answers all that p and s have, and the room behind the ends of their lists.
func whole(p api.Program, s api.State) []any {
	all := []any{slices.Clone(s.Regs[:cap(s.Regs)]), slices.Clone(s.Mem[:cap(s.Mem)])}
	for _, b := range p.Blocks[:cap(p.Blocks)] {
		all = append(all, slices.Clone(b.Ops[:cap(b.Ops)]), slices.Clone(b.Body[:cap(b.Body)]), b.End, b.A, b.Then, b.Else)
	}
	return all
}

func spoil(list []int64) {
	list = list[:cap(list)]
	for n := range list {
		list[n] = 0x5eadbeef
	}
}

func spoilAll(o api.Outcome, s api.State) {
	spoil(o.Prints)
	spoil(o.Mem)
	spoil(s.Regs)
	spoil(s.Mem)
}

func chanceRoomy(r *rand.Rand) (api.Program, api.State) {
	p, s := chance(r), chanceState(r)
	for n, b := range p.Blocks {
		p.Blocks[n].Ops = withRoom(b.Ops, prints(30), consts(9, 99))
		p.Blocks[n].Body = withRoom(b.Body, prints(29), consts(8, 98))
	}
	return p, api.State{Regs: withRoom(s.Regs, 1, 2, 3), Mem: withRoom(s.Mem, 4, 5, 6)}
}

func TestNothingThatIsHandedInIsChanged(t *testing.T) {
	r := rand.New(rand.NewSource(93))
	for range 500 {
		p, s := chanceRoomy(r)
		before := whole(p, s)
		m := machine(t, p, s)
		for range 3 {
			spoilAll(m.Run(r.Intn(60)), m.State())
		}
		if _, e := Trail(p, s, 60); e != api.OK {
			t.Fatal(e)
		}
		if !reflect.DeepEqual(whole(p, s), before) {
			t.Fatalf("%v became %v", before, whole(p, s))
		}
	}
}

// TestAnswersAreTheCallersOwn: what is written into one answer is seen in no other one, be the run over or not.
func TestAnswersAreTheCallersOwn(t *testing.T) {
	r := rand.New(rand.NewSource(94))
	for range 500 {
		p, s := chanceRoomy(r)
		m := machine(t, p, s)
		sum := 0
		for range 5 {
			steps := r.Intn(40)
			sum += steps
			first, state := m.Run(steps), m.State()
			again, stateAgain := m.Run(0), m.State()
			spoilAll(first, state)
			wantTold(t, p, s, sum, m, again)
			spoilAll(again, stateAgain)
			wantTold(t, p, s, sum, m, m.Run(0))
		}
		tags, _ := Trail(p, s, 30)
		for n := range tags[:cap(tags)] {
			tags[:cap(tags)][n] = api.Tag{Block: -5}
		}
		wantToldTrail(t, p, s, 30)
	}
}

// TestLaterChangesOfWhatWasHandedIn: a machine goes on with the program and the state that New was handed.
func TestLaterChangesOfWhatWasHandedIn(t *testing.T) {
	r := rand.New(rand.NewSource(92))
	for range 500 {
		p, s := chanceRoomy(r)
		own, ownState := anew(p, s)
		m := machine(t, own, ownState)
		first := r.Intn(20)
		if r.Intn(2) == 0 {
			m.Run(first)
		} else {
			first = 0
		}
		spoil(ownState.Regs)
		spoil(ownState.Mem)
		for n, b := range own.Blocks {
			clear(b.Ops[:cap(b.Ops)])
			clear(b.Body[:cap(b.Body)])
			own.Blocks[n] = api.Block{End: 77, Then: -5}
		}
		wantTold(t, p, s, first+60, m, m.Run(60))
	}
}

// Two machines of one program and one state know nothing of one another.
func TestTwoMachines(t *testing.T) {
	r := rand.New(rand.NewSource(91))
	for range 300 {
		p, s := chance(r), chanceState(r)
		a, b := machine(t, p, s), machine(t, p, s)
		done := [2]int{}
		for range 8 {
			steps := r.Intn(15)
			done[0] += steps
			wantTold(t, p, s, done[0], a, a.Run(steps))
			steps = r.Intn(15)
			done[1] += steps
			wantTold(t, p, s, done[1], b, b.Run(steps))
		}
	}
}

func FuzzSerial(f *testing.F) {
	f.Add([]byte{0, 3, 1, 1, 0, 0, 128, 1, 1, 0, 0, 3, 192, 2, 2, 2, 1, 0, 0, 2, 2, 0, 0, 0, 128, 17, 0, 2, 0, 0}, 5, 9, int64(0))
	f.Add([]byte{0, 2, 0, 0, 0, 0, 128, 13, 1, 1, 2, 0}, 0, -1, int64(math.MinInt64))
	f.Fuzz(func(t *testing.T, data []byte, first, second int, number int64) {
		// Six bytes a block and as many an operation of its Ops or its Body.
		var p api.Program
		for ; len(data) >= 6; data = data[6:] {
			if data[0] < 128 || len(p.Blocks) == 0 {
				b := api.Block{End: int8(data[1]), A: data[2], Then: int(int8(data[3])), Else: int(int8(data[4]))}
				p.Blocks = append(p.Blocks, b)
				continue
			}
			o := api.Op{Do: int8(data[1]), D: data[2], A: data[3], B: data[4], Imm: int64(int8(data[5]))}
			last := &p.Blocks[len(p.Blocks)-1]
			if data[0] < 192 {
				last.Ops = append(last.Ops, o)
			} else {
				last.Body = append(last.Body, o)
			}
		}
		s := api.State{Regs: slices.Repeat(numbers(number, 3, -1), 10), Mem: slices.Repeat(numbers(number, 0, 1), 80)}
		if e := program.Check(p); e != api.OK {
			wantRefused(t, "no program", p, s, e)
			return
		}
		first, second = first%500, second%500
		m := machine(t, p, s)
		wantTold(t, p, s, first, m, m.Run(first))
		wantTold(t, p, s, max(first, 0)+max(second, 0), m, m.Run(second))
		wantToldTrail(t, p, s, first)
	})
}
