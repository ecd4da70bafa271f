package live

import (
	"math/rand"
	"reflect"
	"slices"
	"testing"

	"hayloft/api"
	"hayloft/ops"
	"hayloft/program"
)

// chanceOp answers an operation of a program that has as many registers.
func chanceOp(r *rand.Rand, registers int) api.Op {
	register := func() uint8 { return uint8(r.Intn(registers) * 31 / max(1, registers-1)) }
	do := int8(api.Const + r.Intn(api.Print))
	switch do {
	case api.Const:
		return api.Op{Do: do, D: register(), Imm: int64(r.Intn(9) - 4)}
	case api.Move:
		return api.Op{Do: do, D: register(), A: register()}
	case api.Load:
		return api.Op{Do: do, D: register(), A: register(), Imm: int64(r.Intn(600) - 300)}
	case api.Store:
		return api.Op{Do: do, A: register(), B: register(), Imm: int64(r.Intn(600) - 300)}
	case api.Print:
		return api.Op{Do: do, A: register()}
	}
	return api.Op{Do: do, D: register(), A: register(), B: register()}
}

func chanceOps(r *rand.Rand, registers int) []api.Op {
	var list []api.Op
	for range r.Intn(5) {
		list = append(list, chanceOp(r, registers))
	}
	return list
}

// chance answers a program that program.Check takes.
func chance(r *rand.Rand) api.Program {
	blocks, registers := 1+r.Intn(6), 1+r.Intn(8)
	if r.Intn(30) == 0 {
		blocks, registers = 1+r.Intn(100), 32
	}
	var p api.Program
	for range blocks {
		b := api.Block{Ops: chanceOps(r, registers), End: int8(r.Intn(4))}
		if b.End != api.EndJump {
			b.A = uint8(r.Intn(registers))
		}
		if b.End != api.EndHalt {
			b.Then = r.Intn(blocks)
		}
		if b.End == api.EndBranch {
			b.Else = r.Intn(blocks)
		}
		if b.End == api.EndLoop {
			b.Body = chanceOps(r, registers)
		}
		p.Blocks = append(p.Blocks, b)
	}
	return p
}

// place is one of a program: an operation of Ops, the end at the place behind them, or an operation of Body; at
// the place behind these one goes to another round or away, and nothing is read.
type place struct {
	block int
	body  bool
	op    int
}

func (at place) list(p api.Program) []api.Op {
	if at.body {
		return p.Blocks[at.block].Body
	}
	return p.Blocks[at.block].Ops
}

func (at place) reads(p api.Program, register uint8) bool {
	list, b := at.list(p), p.Blocks[at.block]
	if at.op < len(list) {
		return slices.Contains(ops.Reads(list[at.op]), register)
	}
	return !at.body && b.End != api.EndJump && b.A == register
}

func (at place) writes(p api.Program, register uint8) bool {
	list := at.list(p)
	if at.op == len(list) {
		return false
	}
	d, ok := ops.Writes(list[at.op])
	return ok && d == register
}

func (at place) next(p api.Program) []place {
	b := p.Blocks[at.block]
	switch {
	case at.op < len(at.list(p)):
		return []place{{at.block, at.body, at.op + 1}}
	case at.body && len(b.Body) > 0:
		return []place{{at.block, true, 0}, {block: b.Then}}
	case at.body || b.End == api.EndJump:
		return []place{{block: b.Then}}
	case b.End == api.EndLoop:
		return []place{{at.block, true, len(b.Body)}}
	case b.End == api.EndBranch:
		return []place{{block: b.Then}, {block: b.Else}}
	}
	return nil
}

// slowAt is the chapter told a second time: a register is in the set of a place if some way from there comes to a
// place that reads it, and to none ahead of that which writes it.
func slowAt(p api.Program, block, op int) uint32 {
	found := uint32(0)
	for register := range uint8(32) {
		seen := map[place]bool{}
		ways := []place{{block: block, op: op}}
		for len(ways) > 0 {
			at := ways[0]
			ways = ways[1:]
			if at.reads(p, register) {
				found |= set(int(register))
				break
			}
			if !seen[at] && !at.writes(p, register) {
				ways = append(ways, at.next(p)...)
			}
			seen[at] = true
		}
	}
	return found
}

func slowIn(p api.Program) []uint32 {
	var in []uint32
	for n := range p.Blocks {
		in = append(in, slowAt(p, n, 0))
	}
	return in
}

func slowOut(p api.Program) []uint32 {
	var out []uint32
	for n, b := range p.Blocks {
		out = append(out, slowAt(p, n, len(b.Ops)))
	}
	return out
}

func wantSlow(t *testing.T, p api.Program) {
	t.Helper()
	wantSets(t, p, slowIn(p), slowOut(p))
	for n, b := range p.Blocks {
		if len(p.Blocks) > 8 {
			break
		}
		for op := range b.Ops {
			if got, want := At(p, n, op), slowAt(p, n, op); got != want {
				t.Fatalf("At(%v, %d, %d) = %x, want %x", p, n, op, got, want)
			}
		}
		if At(p, n, len(b.Ops)+1) != 0 || At(p, n, -1) != 0 {
			t.Fatalf("%v: block %d has places that there are not", p, n)
		}
	}
}

func TestManyPrograms(t *testing.T) {
	r := rand.New(rand.NewSource(8))
	for range 600 {
		wantSlow(t, chance(r))
		if t.Failed() {
			return
		}
	}
}

// TestFewBlocks goes through all programs of two blocks with few operations and all their ends.
func TestFewBlocks(t *testing.T) {
	lists := [][]api.Op{nil, {moves(1, 2)}, {moves(2, 1)}, {consts(1)}, {prints(2)}, {moves(1, 2), moves(2, 3)}}
	var blocks []api.Block
	for _, list := range lists {
		for then := range 2 {
			blocks = append(blocks, with(jumps(then), list...), with(branches(1, then, 1-then), list...))
			for _, body := range lists[1:] {
				blocks = append(blocks, with(loops(2, then, body...), list...))
			}
		}
		blocks = append(blocks, with(halts(2), list...))
	}
	for _, first := range blocks {
		for _, second := range blocks {
			p := of(first, second)
			if in := In(p); !slices.Equal(in, slowIn(p)) {
				t.Fatalf("In(%v) = %x, want %x", p, in, slowIn(p))
			}
			if out := Out(p); !slices.Equal(out, slowOut(p)) {
				t.Fatalf("Out(%v) = %x, want %x", p, out, slowOut(p))
			}
		}
	}
}

// machine is a program's own meaning, as chapter 9 says it, for P8.4.
type machine struct {
	regs   [32]int64
	mem    [256]int64
	left   int
	ended  bool
	value  int64
	prints []int64
	trap   api.Errno
}

func (m *machine) do(o api.Op) {
	if m.left--; m.left < 0 || m.trap != api.OK {
		return
	}
	cell := &m.mem[uint8(m.regs[o.A]+o.Imm)]
	switch o.Do {
	case api.Const:
		m.regs[o.D] = o.Imm
	case api.Load:
		m.regs[o.D] = *cell
	case api.Store:
		*cell = m.regs[o.B]
	case api.Print:
		m.prints = append(m.prints, m.regs[o.A])
	default:
		var v int64
		if v, m.trap = ops.Reckon(o.Do, m.regs[o.A], m.regs[o.B]); m.trap == api.OK {
			m.regs[o.D] = v
		}
	}
}

func (m *machine) doAll(list []api.Op) {
	for _, o := range list {
		m.do(o)
	}
}

func (m *machine) run(p api.Program) {
	at := 0
	for m.left > 0 && m.trap == api.OK {
		b := p.Blocks[at]
		m.doAll(b.Ops)
		if m.left--; m.left < 0 || m.trap != api.OK {
			return
		}
		at = b.Then
		switch {
		case b.End == api.EndHalt:
			m.ended, m.value = true, m.regs[b.A]
			return
		case b.End == api.EndBranch && m.regs[b.A] == 0:
			at = b.Else
		case b.End == api.EndLoop:
			for rounds := m.regs[b.A]; rounds > 0 && m.left > 0 && m.trap == api.OK; rounds-- {
				m.doAll(b.Body)
				m.left--
			}
		}
	}
}

// P8.4: registers that are not into block 0 make no difference.
func TestWhatIsDeadMakesNoDifference(t *testing.T) {
	r := rand.New(rand.NewSource(84))
	ended, trapped := 0, 0
	for range 3000 {
		p := chance(r)
		in := In(p)[0]
		var first machine
		for n := range first.regs {
			first.regs[n] = int64(r.Intn(7) - 2)
		}
		for n := range first.mem {
			first.mem[n] = int64(r.Intn(5))
		}
		first.left = 300
		second := first
		for n := range second.regs {
			if in&set(n) == 0 {
				second.regs[n] = r.Int63() - r.Int63()
			}
		}
		first.run(p)
		second.run(p)
		if first.trap != second.trap || first.ended != second.ended || first.value != second.value ||
			first.mem != second.mem || !slices.Equal(first.prints, second.prints) {
			t.Fatalf("%v, %x: %+v, %+v", p, in, first, second)
		}
		if first.ended {
			ended++
		}
		if first.trap != api.OK {
			trapped++
		}
	}
	if ended < 300 || trapped < 100 {
		t.Errorf("only %d ended, %d trapped", ended, trapped)
	}
}

// copied answers p anew, with the room behind the ends of its lists.
func copied(p api.Program) api.Program {
	p.Blocks = slices.Clone(p.Blocks[:cap(p.Blocks)])[:len(p.Blocks)]
	for n, b := range p.Blocks {
		p.Blocks[n].Ops = slices.Clone(b.Ops[:cap(b.Ops)])[:len(b.Ops)]
		p.Blocks[n].Body = slices.Clone(b.Body[:cap(b.Body)])[:len(b.Body)]
	}
	return p
}

// whole answers all that p has, and the room behind the ends of its lists.
func whole(p api.Program) [][]api.Op {
	var lists [][]api.Op
	for _, b := range p.Blocks {
		lists = append(lists, slices.Clone(b.Ops[:cap(b.Ops)]), slices.Clone(b.Body[:cap(b.Body)]))
	}
	return lists
}

func spoil(list []uint32) {
	list = list[:cap(list)]
	for n := range list {
		list[n] = 0xdeadbeef
	}
}

func TestNothingIsChangedOrKept(t *testing.T) {
	r := rand.New(rand.NewSource(83))
	for range 300 {
		p := chance(r)
		for n, b := range p.Blocks {
			p.Blocks[n].Ops = append(slices.Clone(b.Ops), prints(30), consts(99))[:len(b.Ops)]
			p.Blocks[n].Body = append(slices.Clone(b.Body), prints(29), consts(98))[:len(b.Body)]
		}
		before, lists := copied(p), whole(p)
		in, out, at := slices.Clone(In(p)), slices.Clone(Out(p)), At(p, 0, 0)
		spoil(In(p))
		spoil(Out(p))
		if !slices.Equal(In(p), in) || !slices.Equal(Out(p), out) || At(p, 0, 0) != at {
			t.Fatalf("%v: another answer", p)
		}
		if !reflect.DeepEqual(whole(p), lists) || !reflect.DeepEqual(p, before) {
			t.Fatalf("%v became %v", before, p)
		}
	}
}

// TestLaterChangesOfTheProgram: what was answered stays as it was, what is asked anew is of the program as it is.
func TestLaterChangesOfTheProgram(t *testing.T) {
	p := of(with(jumps(1), moves(1, 2)), halts(1))
	in, out := In(p), Out(p)
	p.Blocks[0].Ops[0] = consts(1)
	p.Blocks[1].A = 5
	if !slices.Equal(in, sets(set(2), set(1))) || !slices.Equal(out, sets(set(1), set(1))) {
		t.Errorf("changed: %x %x", in, out)
	}
	wantSets(t, p, sets(set(5), set(5)), sets(set(5), set(5)))
}

func FuzzLive(f *testing.F) {
	f.Add([]byte{0, 3, 0, 4, 0, 1, 1, 1, 2, 1, 2, 0, 1, 0, 0, 0}, 0, 1)
	f.Add([]byte{0, 1, 2, 3, 4, 5}, -1, 3)
	f.Fuzz(func(t *testing.T, data []byte, block, op int) {
		// Six bytes a block and as many an operation of its Ops or its Body.
		var p api.Program
		for ; len(data) >= 6 && len(p.Blocks) < 9; data = data[6:] {
			if data[0] < 128 || len(p.Blocks) == 0 {
				b := api.Block{End: int8(data[1]), A: data[2], Then: int(int8(data[3])), Else: int(int8(data[4]))}
				p.Blocks = append(p.Blocks, b)
				continue
			}
			o := api.Op{Do: int8(data[1]), D: data[2], A: data[3], B: data[4], Imm: int64(int8(data[5]))}
			last := &p.Blocks[len(p.Blocks)-1]
			if data[0] < 192 {
				last.Ops = append(last.Ops, o)
			} else {
				last.Body = append(last.Body, o)
			}
		}
		if program.Check(p) != api.OK {
			wantNone(t, "no program", p)
			return
		}
		if program.Ops(p) < 60 {
			wantSlow(t, p)
		}
		there := block >= 0 && block < len(p.Blocks) && op >= 0 && op <= len(p.Blocks[block].Ops)
		if !there && At(p, block, op) != 0 {
			t.Errorf("At(%d, %d) = %x", block, op, At(p, block, op))
		}
	})
}
