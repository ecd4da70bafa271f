package live

import (
	"math"
	"slices"
	"testing"

	"hayloft/api"
	"hayloft/program"
)

// set is a set of registers.
func set(registers ...int) uint32 {
	sum := uint32(0)
	for _, r := range registers {
		sum += uint32(math.Pow(2, float64(r)))
	}
	return sum
}

func sets(list ...uint32) []uint32 { return list }

func of(blocks ...api.Block) api.Program { return api.Program{Blocks: blocks} }

func with(b api.Block, list ...api.Op) api.Block {
	b.Ops = list
	return b
}

func jumps(then int) api.Block { return api.Block{End: api.EndJump, Then: then} }

func branches(a uint8, then, orElse int) api.Block {
	return api.Block{End: api.EndBranch, A: a, Then: then, Else: orElse}
}

func halts(a uint8) api.Block { return api.Block{End: api.EndHalt, A: a} }

func loops(a uint8, then int, body ...api.Op) api.Block {
	return api.Block{End: api.EndLoop, A: a, Body: body, Then: then}
}

func adds(d, a, b uint8) api.Op { return api.Op{Do: api.Add, D: d, A: a, B: b} }

func consts(d uint8) api.Op { return api.Op{Do: api.Const, D: d, Imm: 1} }

func moves(d, a uint8) api.Op { return api.Op{Do: api.Move, D: d, A: a} }

func prints(a uint8) api.Op { return api.Op{Do: api.Print, A: a} }

func wantProgram(t *testing.T, p api.Program) {
	t.Helper()
	if e := program.Check(p); e != api.OK {
		t.Fatalf("no program: %v", e)
	}
}

// wantSets holds In, Out, and At of both of their places against lists.
func wantSets(t *testing.T, p api.Program, in, out []uint32) {
	t.Helper()
	wantProgram(t, p)
	if got := In(p); !slices.Equal(got, in) {
		t.Errorf("In(%v) = %x, want %x", p, got, in)
	}
	if got := Out(p); !slices.Equal(got, out) {
		t.Errorf("Out(%v) = %x, want %x", p, got, out)
	}
	for n, b := range p.Blocks {
		if got := At(p, n, 0); got != in[n] {
			t.Errorf("At(%v, %d, 0) = %x, want %x", p, n, got, in[n])
		}
		if got := At(p, n, len(b.Ops)); got != out[n] {
			t.Errorf("At(%v, %d, %d) = %x, want %x", p, n, len(b.Ops), got, out[n])
		}
	}
}

// wantIn is for programs without Ops: what is into a block is ahead of its end.
func wantIn(t *testing.T, p api.Program, in ...uint32) {
	t.Helper()
	wantSets(t, p, in, in)
}

// wantAt holds At of all places of a block against a list.
func wantAt(t *testing.T, p api.Program, block int, want ...uint32) {
	t.Helper()
	wantProgram(t, p)
	if len(want) != len(p.Blocks[block].Ops)+1 {
		t.Fatalf("%d sets for %d operations", len(want), len(p.Blocks[block].Ops))
	}
	for op, s := range want {
		if got := At(p, block, op); got != s {
			t.Errorf("At(%v, %d, %d) = %x, want %x", p, block, op, got, s)
		}
	}
}

func TestChapterExamples(t *testing.T) {
	wantSets(t, of(with(halts(1), adds(1, 2, 3))), sets(set(2, 3)), sets(set(1)))
	wantSets(t, of(with(branches(2, 1, 0), consts(1)), halts(1)), sets(set(2), set(1)), sets(set(1, 2), set(1)))
	wantIn(t, of(loops(4, 1, adds(1, 1, 2)), halts(1)), set(1, 2, 4), set(1))
	wantIn(t, of(loops(4, 1, consts(1), prints(1)), halts(0)), set(0, 4), set(0))
}

// TestEachKind: what an operation of each kind has ahead of it, if register 9, its D, and another one are behind it.
func TestEachKind(t *testing.T) {
	for do := int8(api.Const); do <= api.Print; do++ {
		o := api.Op{Do: do, D: 1, A: 2, B: 3}
		ahead := set(2, 3, 9)
		switch do {
		case api.Const:
			o, ahead = api.Op{Do: do, D: 1, Imm: 5}, set(9)
		case api.Move:
			o, ahead = api.Op{Do: do, D: 1, A: 2}, set(2, 9)
		case api.Load:
			o, ahead = api.Op{Do: do, D: 1, A: 2, Imm: -5}, set(2, 9)
		case api.Store:
			o, ahead = api.Op{Do: do, A: 2, B: 3, Imm: 5}, set(1, 2, 3, 9)
		case api.Print:
			o, ahead = api.Op{Do: do, A: 2}, set(1, 2, 9)
		}
		wantSets(t, of(with(branches(1, 1, 1), o), halts(9)), sets(ahead, set(9)), sets(set(1, 9), set(9)))
		// Though nobody reads D, what it reads is read.
		wantSets(t, of(with(halts(9), o)), sets(ahead&^set(1)), sets(set(9)))
		// The same in a body: there may be no round, so that what is behind stays.
		wantIn(t, of(loops(8, 1, o), halts(1)), ahead&^set(9)|set(1, 8), set(1))
		wantIn(t, of(loops(8, 1, o), halts(9)), ahead&^set(1)|set(8), set(9))
	}
}

func TestRegistersOfAnOperation(t *testing.T) {
	for _, c := range []struct {
		o    api.Op
		want uint32
	}{
		{adds(5, 5, 6), set(5, 6)},
		{adds(5, 6, 5), set(5, 6)},
		{adds(5, 5, 5), set(5)},
		{adds(5, 6, 6), set(6)},
		{adds(0, 31, 31), set(5, 31)},
		{adds(31, 0, 0), set(0, 5)},
		{adds(0, 0, 31), set(0, 5, 31)},
		{moves(5, 5), set(5)},
		{moves(5, 0), set(0)},
		{moves(5, 31), set(31)},
		{consts(5), 0},
		{consts(0), set(5)},
		{consts(31), set(5)},
		{prints(5), set(5)},
		{prints(0), set(0, 5)},
		{prints(31), set(5, 31)},
		{api.Op{Do: api.Store, A: 7, B: 7}, set(5, 7)},
		{api.Op{Do: api.Store, A: 0, B: 31}, set(0, 5, 31)},
		{api.Op{Do: api.Load, D: 5, A: 5}, set(5)},
		{api.Op{Do: api.Divide, D: 31, A: 31, B: 0}, set(0, 5, 31)},
	} {
		wantSets(t, of(with(halts(5), c.o)), sets(c.want), sets(set(5)))
	}
	for r := range uint8(api.Registers) {
		wantSets(t, of(with(halts(r), moves(r, (r+1)%32))), sets(set(int(r+1)%32)), sets(set(int(r))))
	}
}

func TestAtOfEveryOperation(t *testing.T) {
	p := of(
		with(jumps(1), consts(1), adds(2, 1, 3), prints(1), moves(3, 2)),
		with(branches(0, 1, 2), consts(0), consts(0)),
		with(halts(3)),
	)
	wantAt(t, p, 0, set(3), set(1, 3), set(1, 2), set(2), set(3))
	wantAt(t, p, 1, set(3), set(3), set(0, 3))
	wantAt(t, p, 2, set(3))
}

func TestPlacesThatThereAreNot(t *testing.T) {
	// Each set has registers, so that 0 is none of them.
	p := of(with(branches(1, 1, 0), prints(2), prints(3)), halts(4))
	far := []int{math.MaxInt, math.MaxInt - 1, math.MinInt, math.MinInt + 1, -1, -2, -3, 1 << 32, -1 << 32}
	for _, op := range append(far, 3, 4) {
		if got := At(p, 0, op); got != 0 {
			t.Errorf("At(0, %d) = %x", op, got)
		}
	}
	for _, op := range append(far, 1, 2) {
		if got := At(p, 1, op); got != 0 {
			t.Errorf("At(1, %d) = %x", op, got)
		}
	}
	for _, block := range append(far, 2, 3, 127, 128) {
		for _, op := range append(far, 0, 1, 2) {
			if got := At(p, block, op); got != 0 {
				t.Errorf("At(%d, %d) = %x", block, op, got)
			}
		}
	}
	wantAt(t, p, 0, set(1, 2, 3, 4), set(1, 2, 3, 4), set(1, 2, 3, 4))
	wantAt(t, p, 1, set(4))
	// A body's operations are no places of the block.
	if got := At(of(loops(1, 1, prints(2)), halts(3)), 0, 1); got != 0 {
		t.Errorf("At of a body = %x", got)
	}
}

func TestEachEnd(t *testing.T) {
	wantIn(t, of(jumps(1), halts(6)), set(6), set(6))
	wantIn(t, of(branches(1, 1, 2), halts(2), halts(3)), set(1, 2, 3), set(2), set(3))
	wantIn(t, of(branches(31, 2, 1), halts(0), halts(3)), set(0, 3, 31), set(0), set(3))
	wantIn(t, of(halts(0)), set(0))
	wantIn(t, of(halts(31)), set(31))
	// A halt turns nowhere: what block 0 has is not behind it.
	wantIn(t, of(branches(4, 1, 1), halts(5)), set(4, 5), set(5))
	wantIn(t, of(loops(3, 1), halts(5)), set(3, 5), set(5))
	wantIn(t, of(loops(3, 1, prints(4)), halts(5)), set(3, 4, 5), set(5))
	// A branch whose Then and Else are the same.
	wantIn(t, of(branches(4, 1, 1), branches(5, 1, 1)), set(4, 5), set(5))
	wantIn(t, of(branches(0, 0, 0)), set(0))
	// Ops that write what the end reads.
	wantSets(t, of(with(branches(4, 1, 2), consts(4)), halts(5), halts(6)),
		sets(set(5, 6), set(5), set(6)), sets(set(4, 5, 6), set(5), set(6)))
	wantSets(t, of(with(loops(4, 1, prints(7)), consts(4), consts(7)), halts(5)),
		sets(set(5), set(5)), sets(set(4, 5, 7), set(5)))
	wantSets(t, of(with(halts(4), consts(4))), sets(0), sets(set(4)))
}

func TestLoops(t *testing.T) {
	// The body reads what its own round behind wrote.
	wantIn(t, of(loops(4, 1, prints(1), moves(1, 5), moves(5, 6)), halts(31)), set(1, 4, 5, 6, 31), set(31))
	// From round to round a value goes on through three registers.
	wantIn(t, of(loops(9, 1, moves(1, 2), moves(2, 3), moves(3, 8), moves(7, 8)), halts(1)), set(1, 2, 3, 8, 9), set(1))
	// Written ahead of all reading.
	wantIn(t, of(loops(4, 1, consts(1), adds(2, 1, 1), prints(2)), halts(0)), set(0, 4), set(0))
	// There may be no rounds: what Then has stays, though the body writes it.
	wantIn(t, of(loops(4, 1, consts(1)), halts(1)), set(1, 4), set(1))
	wantIn(t, of(loops(4, 1, moves(1, 2)), halts(1)), set(1, 2, 4), set(1))
	// The body writes the register of the rounds, which are read ahead of it.
	wantIn(t, of(loops(4, 1, consts(4)), halts(0)), set(0, 4), set(0))
	wantIn(t, of(loops(4, 1, prints(4), consts(4)), halts(0)), set(0, 4), set(0))
	// It writes that register out of another one, which it wrote itself, or did not.
	wantIn(t, of(loops(4, 1, moves(5, 4), moves(4, 6)), halts(0)), set(0, 4, 6), set(0))
	wantIn(t, of(loops(4, 1, moves(4, 6), consts(6)), halts(0)), set(0, 4, 6), set(0))
	wantIn(t, of(loops(4, 1, consts(6), moves(4, 6)), halts(0)), set(0, 4), set(0))
	// Then is its own block: the rounds are read again behind it.
	wantIn(t, of(loops(4, 0)), set(4))
	wantIn(t, of(loops(4, 0, moves(4, 6))), set(4, 6))
	wantIn(t, of(loops(4, 0, moves(4, 6), moves(6, 7))), set(4, 6, 7))
	wantSets(t, of(with(loops(4, 0, moves(1, 2)), prints(1), moves(4, 3))), sets(set(1, 2, 3)), sets(set(1, 2, 3, 4)))
	// No rounds of an empty body change anything.
	wantSets(t, of(with(loops(4, 1), consts(2)), halts(2)), sets(set(4), set(2)), sets(set(2, 4), set(2)))
}

func TestBlocksThatAreNotReached(t *testing.T) {
	wantIn(t, of(halts(1), halts(2), jumps(1), branches(3, 1, 2)), set(1), set(2), set(2), set(2, 3))
	wantIn(t, of(halts(1), loops(5, 0, prints(6))), set(1), set(1, 5, 6))
	wantSets(t, of(jumps(0), with(jumps(2), prints(7)), with(jumps(1), consts(7), prints(8))),
		sets(0, set(7, 8), set(8)), sets(0, set(8), set(7, 8)))
}

func TestRingsHaveTheLeastSets(t *testing.T) {
	// Nothing is read: no set has a register, whatever is written.
	wantIn(t, of(jumps(0)), 0)
	wantSets(t, of(with(jumps(0), consts(3))), sets(0), sets(0))
	wantIn(t, of(jumps(1), jumps(2), jumps(0)), 0, 0, 0)
	// A block that turns to itself and reads what it wrote.
	wantSets(t, of(with(jumps(0), adds(2, 2, 2))), sets(set(2)), sets(set(2)))
	wantSets(t, of(with(jumps(0), prints(2), consts(2))), sets(set(2)), sets(set(2)))
	wantSets(t, of(with(jumps(0), consts(2), prints(2))), sets(0), sets(0))
	wantIn(t, of(branches(3, 0, 0)), set(3))
	wantSets(t, of(with(branches(3, 0, 1), moves(3, 4)), halts(5)), sets(set(4, 5), set(5)), sets(set(3, 4, 5), set(5)))
	// Rings of several: what one block reads goes round to the one that writes it.
	wantSets(t, of(with(jumps(1), consts(1)), jumps(2), with(jumps(0), prints(1), prints(2))),
		sets(set(2), set(1, 2), set(1, 2)), sets(set(1, 2), set(1, 2), set(2)))
	wantSets(t, of(with(jumps(1), moves(1, 2)), with(jumps(2), moves(2, 3)), with(jumps(0), moves(3, 4), prints(1))),
		sets(set(2, 3, 4), set(1, 3, 4), set(1, 2, 4)), sets(set(1, 3, 4), set(1, 2, 4), set(2, 3, 4)))
	// Two rings with a way from one to the other, not back.
	wantIn(t, of(branches(1, 1, 2), jumps(0), branches(3, 3, 3), jumps(2)), set(1, 3), set(1, 3), set(3), set(3))
}

func TestRegistersThatNothingReads(t *testing.T) {
	p := of(
		with(branches(1, 1, 2), consts(30), moves(29, 1)),
		with(loops(2, 0, consts(28), adds(27, 1, 2)), consts(26)),
		with(jumps(0), api.Op{Do: api.Load, D: 25, A: 3}, consts(0)),
	)
	wantProgram(t, p)
	unread := ^set(1, 2, 3)
	for n, b := range p.Blocks {
		if In(p)[n]&unread != 0 || Out(p)[n]&unread != 0 {
			t.Errorf("block %d: %x, %x", n, In(p)[n], Out(p)[n])
		}
		for op := range len(b.Ops) + 1 {
			if At(p, n, op)&unread != 0 {
				t.Errorf("block %d, %d: %x", n, op, At(p, n, op))
			}
		}
	}
}

func TestProgramsThatAreNone(t *testing.T) {
	long := slices.Repeat([]api.Op{prints(1)}, api.MaxOps-2)
	for _, c := range []struct {
		name string
		p    api.Program
		want api.Errno
	}{
		{"no block", api.Program{}, api.ErrProgram},
		{"an empty list of blocks", api.Program{Blocks: []api.Block{}}, api.ErrProgram},
		{"too many blocks", of(slices.Repeat([]api.Block{halts(1)}, api.MaxBlocks+1)...), api.ErrLong},
		{"too many operations", of(halts(1), with(halts(1), append(long, prints(1))...)), api.ErrLong},
		{"too long a body", of(halts(1), loops(1, 0, append(long, prints(2))...)), api.ErrLong},
		{"a Nop", of(halts(1), with(jumps(0), api.Op{})), api.ErrOp},
		{"an operation that turns", of(halts(1), with(jumps(0), api.Op{Do: api.Branch, A: 2})), api.ErrOp},
		{"a kind that there is not", of(halts(1), with(jumps(0), api.Op{Do: api.Kinds})), api.ErrOp},
		{"a kind below 0", of(with(halts(1), api.Op{Do: -1})), api.ErrOp},
		{"a Nop in a body", of(halts(1), loops(1, 0, api.Op{})), api.ErrOp},
		{"a register of an operation", of(halts(1), with(halts(1), prints(32))), api.ErrOp},
		{"a register that is written", of(with(halts(1), consts(255))), api.ErrOp},
		{"a register of a body", of(halts(1), loops(1, 0, moves(1, 64))), api.ErrOp},
		{"an Imm that does not count", of(with(halts(1), api.Op{Do: api.Print, A: 1, Imm: 1})), api.ErrOp},
		{"an end that is none", of(halts(1), api.Block{End: 4, A: 1}), api.ErrProgram},
		{"an end below 0", of(halts(1), api.Block{End: -1}), api.ErrProgram},
		{"a register above 31", of(halts(1), halts(32)), api.ErrProgram},
		{"a register of a branch", of(branches(33, 0, 0)), api.ErrProgram},
		{"a register of a loop", of(loops(255, 0)), api.ErrProgram},
		{"a register that does not count", of(halts(1), api.Block{A: 1}), api.ErrProgram},
		{"Then is no block", of(halts(1), jumps(2)), api.ErrProgram},
		{"Then below 0", of(halts(1), loops(1, -1)), api.ErrProgram},
		{"Else is no block", of(halts(1), branches(1, 1, 2)), api.ErrProgram},
		{"Else below 0", of(halts(1), branches(1, 1, math.MinInt)), api.ErrProgram},
		{"Then that does not count", of(halts(1), api.Block{End: api.EndHalt, Then: 1}), api.ErrProgram},
		{"Else that does not count", of(halts(1), api.Block{Then: 1, Else: 1}), api.ErrProgram},
		{"a body that does not count", of(halts(1), api.Block{Body: []api.Op{prints(1)}}), api.ErrProgram},
	} {
		if e := program.Check(c.p); e != c.want {
			t.Errorf("%s: Check = %v, want %v", c.name, e, c.want)
		}
		wantNone(t, c.name, c.p)
	}
	// One operation fewer, and it is a program.
	wantSets(t, of(halts(2), with(jumps(0), long...)), sets(set(2), set(1, 2)), sets(set(2), set(2)))
}

func wantNone(t *testing.T, name string, p api.Program) {
	t.Helper()
	if got := In(p); len(got) != 0 {
		t.Errorf("%s: In = %x", name, got)
	}
	if got := Out(p); len(got) != 0 {
		t.Errorf("%s: Out = %x", name, got)
	}
	places := []int{0, 1, 2, -1, math.MaxInt, math.MinInt}
	for _, block := range places {
		for _, op := range places {
			if got := At(p, block, op); got != 0 {
				t.Errorf("%s: At(%d, %d) = %x", name, block, op, got)
			}
		}
	}
}

func TestAsManyBlocksAsThereMayBe(t *testing.T) {
	last := api.MaxBlocks - 1
	var up, down, ring []api.Block
	for n := range api.MaxBlocks {
		up = append(up, jumps((n+1)%api.MaxBlocks))
		down = append(down, jumps((n+last)%api.MaxBlocks))
		ring = append(ring, with(jumps((n+1)%api.MaxBlocks), moves(uint8(n%32), uint8((n+1)%32))))
	}
	// One ring each way, with nothing that reads, then with one block that does.
	none := make([]uint32, api.MaxBlocks)
	wantSets(t, of(up...), none, none)
	wantSets(t, of(down...), none, none)
	all := slices.Repeat(sets(set(17)), api.MaxBlocks)
	for _, at := range []int{0, last} {
		reads := slices.Clone(up)
		reads[at] = branches(17, at, reads[at].Then)
		wantSets(t, of(reads...), all, all)
		reads = slices.Clone(down)
		reads[at] = branches(17, reads[at].Then, at)
		wantSets(t, of(reads...), all, all)
	}
	// One chain each way.
	up[last], down[1] = halts(31), halts(31)
	all = slices.Repeat(sets(set(31)), api.MaxBlocks)
	wantSets(t, of(up...), all, all)
	wantSets(t, of(down...), all, all)
	// A ring where every block hands a register on to the one ahead.
	wantSets(t, of(ring...), slowIn(of(ring...)), slowOut(of(ring...)))
	// As many operations as there may be, each read in a later round than it is written.
	var body []api.Op
	for n := range api.MaxOps - 2 {
		body = append(body, moves(uint8(n%31), uint8(n%31+1)))
	}
	wantIn(t, of(loops(0, 1, body...), halts(0)), slowIn(of(loops(0, 1, body...), halts(0)))...)
}
