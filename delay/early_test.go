package delay

import (
	"math"
	"slices"
	"testing"

	"hayloft/api"
	"hayloft/program"
)

func of(blocks ...api.Block) api.Program { return api.Program{Blocks: blocks} }

// wantEarly says what Early answers of what is a program.
func wantEarly(t *testing.T, p api.Program, block int, want ...int) {
	t.Helper()
	if e := program.Check(p); e != api.OK {
		t.Fatalf("%v: %v", p, e)
	}
	if got := Early(p, block); !slices.Equal(got, want) {
		t.Errorf("Early(%v, %d) is %v, want %v", p, block, got, want)
	}
}

// splits is a program that branches by r1 to a block of these operations, or to one that halts with r6.
func splits(l ...api.Op) api.Program {
	return of(branches(1, 1, 2), with(halts(5), l...), halts(6))
}

func TestHowManyComeAhead(t *testing.T) {
	wantEarly(t, splits(), 0)
	wantEarly(t, splits(adds(5, 2, 3)), 0, 0)
	wantEarly(t, splits(adds(5, 2, 3), adds(7, 2, 3)), 0, 0, 1)
	wantEarly(t, splits(adds(5, 2, 3), adds(7, 2, 3), adds(8, 2, 3)), 0, 0, 1)
	wantEarly(t, splits(slices.Repeat([]api.Op{adds(5, 2, 3)}, 900)...), 0, 0, 1)
	// They may depend on one another, and read what they like.
	wantEarly(t, splits(adds(5, 1, 6), multiplies(5, 5, 1)), 0, 0, 1)
	wantEarly(t, splits(consts(5, 1), moves(7, 5)), 0, 0, 1)
}

// The kinds at both ends of the range from Const to Times, between them and just outside.
func TestWhichKindsComeAhead(t *testing.T) {
	for do := int8(api.Const); do <= api.Print; do++ {
		o := adds(5, 2, 3)
		switch do {
		case api.Const:
			o = consts(5, 9)
		case api.Move:
			o = moves(5, 2)
		case api.Load:
			o = loads(5, 2, 9)
		case api.Store:
			o = stores(5, 2, 9)
		case api.Print:
			o = prints(5)
		}
		o.Do = do
		if do <= api.Times {
			wantEarly(t, splits(o), 0, 0)
			wantEarly(t, splits(o, o), 0, 0, 1)
			wantEarly(t, splits(adds(7, 2, 3), o), 0, 0, 1)
		} else {
			wantEarly(t, splits(o), 0)
			wantEarly(t, splits(o, o), 0)
			wantEarly(t, splits(adds(7, 2, 3), o), 0, 0)
			// The second is not taken where the first may not be.
			wantEarly(t, splits(o, adds(7, 2, 3)), 0)
			wantEarly(t, splits(adds(7, 2, 3), o, adds(8, 2, 3)), 0, 0)
		}
	}
}

func TestRegistersOfTheBranch(t *testing.T) {
	for a := range uint8(api.Registers) {
		d, other := (a+1)%32, (a+2)%32
		p := of(branches(a, 1, 2), with(halts(a), adds(d, a, a)), halts(other))
		wantEarly(t, p, 0, 0)
		p.Blocks[1].Ops = []api.Op{adds(a, d, d)}
		wantEarly(t, p, 0)
		p.Blocks[1].Ops = []api.Op{adds(d, a, a), adds(a, d, d)}
		wantEarly(t, p, 0, 0)
		p.Blocks[1].Ops = []api.Op{adds(a, d, d), adds(d, a, a)}
		wantEarly(t, p, 0)
		// Into Else.
		p.Blocks[1].Ops = []api.Op{adds(other, a, a)}
		wantEarly(t, p, 0)
		p.Blocks[1].Ops = []api.Op{adds(d, a, a), adds(other, a, a)}
		wantEarly(t, p, 0, 0)
		p.Blocks[1].Ops = []api.Op{adds(other, a, a), adds(d, a, a)}
		wantEarly(t, p, 0)
	}
}

// What is into Else is read in it, or far behind it, or in a loop's rounds; what is written ahead of that is not.
func TestWhatIsIntoElse(t *testing.T) {
	first := with(halts(5), adds(5, 2, 3), adds(7, 2, 3))
	for _, x := range []struct {
		behind []api.Block
		want   []int
	}{
		{[]api.Block{halts(6)}, []int{0, 1}},
		{[]api.Block{halts(5)}, nil},
		{[]api.Block{halts(7)}, []int{0}},
		{[]api.Block{with(halts(5), consts(5, 1))}, []int{0, 1}},
		{[]api.Block{with(halts(7), moves(7, 5))}, nil},
		{[]api.Block{with(halts(6), prints(7))}, []int{0}},
		{[]api.Block{with(halts(6), stores(6, 7, 0))}, []int{0}},
		{[]api.Block{with(halts(6), consts(7, 1), prints(7))}, []int{0, 1}},
		{[]api.Block{jumps(3), with(halts(6), prints(5))}, nil},
		{[]api.Block{jumps(3), jumps(4), branches(7, 2, 3)}, []int{0}},
		{[]api.Block{jumps(3), with(jumps(4), consts(7, 0)), branches(7, 2, 3)}, []int{0, 1}},
		{[]api.Block{loops(5, 3), halts(6)}, nil},
		{[]api.Block{loops(6, 3, prints(7)), halts(6)}, []int{0}},
		{[]api.Block{loops(6, 3, consts(7, 1), prints(7)), halts(6)}, []int{0, 1}},
		{[]api.Block{loops(6, 3, consts(7, 1)), halts(7)}, []int{0}},
		{[]api.Block{jumps(2)}, []int{0, 1}},
		{[]api.Block{jumps(0)}, []int{0, 1}},
		{[]api.Block{with(jumps(0), consts(1, 1), prints(7))}, []int{0}},
	} {
		wantEarly(t, of(append([]api.Block{branches(1, 1, 2), first}, x.behind...)...), 0, x.want...)
	}
	// Else that is the block itself, or block 0: what is into that.
	wantEarly(t, of(branches(1, 1, 0), first), 0, 0, 1)
	wantEarly(t, of(with(branches(1, 1, 0), prints(5)), first), 0)
	wantEarly(t, of(with(branches(1, 1, 0), adds(2, 2, 7)), first), 0, 0)
	wantEarly(t, of(with(branches(1, 1, 0), consts(7, 1), prints(7)), first), 0, 0, 1)
}

func TestOtherEnds(t *testing.T) {
	then := with(halts(5), adds(7, 2, 3))
	wantEarly(t, of(branches(1, 1, 2), then, halts(6)), 0, 0)
	wantEarly(t, of(jumps(1), then, halts(6)), 0)
	wantEarly(t, of(halts(1), then, halts(6)), 0)
	wantEarly(t, of(loops(1, 1), then, halts(6)), 0)
	wantEarly(t, of(loops(1, 1, adds(7, 2, 3)), then, halts(6)), 0)
	// Of a branch's two ways only Then is gone.
	wantEarly(t, of(branches(1, 2, 1), then, halts(6)), 0)
	wantEarly(t, splits(adds(5, 2, 3)), 1)
	wantEarly(t, splits(adds(5, 2, 3)), 2)
}

func TestWhatThenMayNotBe(t *testing.T) {
	sum := adds(7, 2, 3)
	// Block 0, where the program begins.
	wantEarly(t, of(with(jumps(1), sum), branches(1, 0, 2), halts(6)), 1)
	wantEarly(t, of(with(halts(5), sum), branches(1, 0, 2), halts(6)), 1)
	// Else.
	wantEarly(t, of(branches(1, 1, 1), with(halts(5), sum)), 0)
	wantEarly(t, of(branches(1, 1, 1), with(halts(5), sum), halts(6)), 0)
	// The block itself, even if nothing else leads there.
	wantEarly(t, of(jumps(2), with(branches(1, 1, 2), sum), halts(6)), 1)
	wantEarly(t, of(jumps(1), with(branches(1, 1, 2), sum), halts(6)), 1)
	wantEarly(t, of(with(branches(1, 0, 1), sum), halts(6)), 0)
	wantEarly(t, of(jumps(2), with(branches(1, 1, 1), sum), halts(6)), 1)
}

func TestBlocksAheadOfThen(t *testing.T) {
	then := with(halts(5), adds(7, 2, 3), adds(8, 2, 3))
	// One, which may stand anywhere, and may never be reached.
	wantEarly(t, of(branches(1, 2, 1), halts(6), then), 0, 0, 1)
	wantEarly(t, of(jumps(2), then, branches(1, 1, 3), halts(6)), 2, 0, 1)
	wantEarly(t, of(halts(6), branches(1, 2, 0), then), 1, 0, 1)
	// Another one ahead, by each end.
	for _, other := range []api.Block{jumps(1), branches(4, 1, 2), branches(4, 2, 1), branches(4, 1, 1), loops(4, 1), loops(4, 1, prints(4))} {
		wantEarly(t, of(branches(1, 1, 2), then, other), 0)
		wantEarly(t, of(branches(1, 1, 2), then, halts(6), other), 0)
		wantEarly(t, of(branches(1, 1, 2), then, halts(6), other, other), 0)
		wantEarly(t, of(branches(1, 1, 2), then, halts(6), other), 3)
		other.Then, other.Else = 2, 0
		if other.End == api.EndBranch {
			other.Else = 2
		}
		wantEarly(t, of(branches(1, 1, 2), then, halts(6), other), 0, 0, 1)
	}
	// Then that leads to itself has itself ahead of it.
	wantEarly(t, of(branches(1, 1, 2), with(jumps(1), adds(7, 2, 3)), halts(6)), 0)
	wantEarly(t, of(branches(1, 1, 2), with(branches(7, 1, 2), adds(7, 2, 3)), halts(6)), 0)
	wantEarly(t, of(branches(1, 1, 2), with(loops(7, 1), adds(7, 2, 3)), halts(6)), 0)
	// Then that leads back to the block has not.
	wantEarly(t, of(branches(1, 1, 2), with(jumps(0), adds(7, 2, 3)), halts(6)), 0, 0)
}

// Of a branch behind a branch each has its own.
func TestEachBranchOfAProgram(t *testing.T) {
	p := of(
		branches(1, 1, 2),
		with(branches(2, 3, 4), adds(5, 2, 3), prints(5)),
		with(branches(3, 5, 4), adds(7, 2, 3), adds(8, 2, 3)),
		with(halts(5), consts(9, 1), consts(2, 1), consts(10, 1)),
		halts(6),
		with(jumps(4), consts(6, 1), consts(9, 2)),
	)
	wantEarly(t, p, 0, 0)
	wantEarly(t, p, 1, 0)
	wantEarly(t, p, 2) // r6 is into Else
	for block := 3; block < 6; block++ {
		wantEarly(t, p, block)
	}
	p.Blocks[5].Ops = p.Blocks[5].Ops[1:]
	wantEarly(t, p, 2, 0)
}

func TestBlocksThatThereAreNot(t *testing.T) {
	p := splits(adds(5, 2, 3))
	for _, block := range []int{-1, -2, -3, 3, 4, api.MaxBlocks, 1 << 32, math.MinInt, math.MaxInt} {
		wantEarly(t, p, block)
	}
}

func TestProgramsThatAreNone(t *testing.T) {
	spoil := func(change func(p *api.Program)) api.Program {
		p := splits(adds(5, 2, 3), adds(7, 2, 3))
		wantEarly(t, p, 0, 0, 1)
		change(&p)
		return p
	}
	for _, p := range []api.Program{
		{},
		{Blocks: make([]api.Block, 0, 3)},
		spoil(func(p *api.Program) { p.Blocks[0].A = 32 }),
		spoil(func(p *api.Program) { p.Blocks[0].A = 255 }),
		spoil(func(p *api.Program) { p.Blocks[0].Then = 3 }),
		spoil(func(p *api.Program) { p.Blocks[0].Then = -1 }),
		spoil(func(p *api.Program) { p.Blocks[0].Else = 3 }),
		spoil(func(p *api.Program) { p.Blocks[0].Else = math.MaxInt }),
		spoil(func(p *api.Program) { p.Blocks[0].End = 4 }),
		spoil(func(p *api.Program) { p.Blocks[0].Body = []api.Op{adds(1, 2, 3)} }),
		spoil(func(p *api.Program) { p.Blocks[0].Ops = []api.Op{{}} }),
		spoil(func(p *api.Program) { p.Blocks[1].Ops[0].Do = api.Nop }),
		spoil(func(p *api.Program) { p.Blocks[1].Ops[0].D = 32 }),
		spoil(func(p *api.Program) { p.Blocks[1].Ops[0].D = 255 }),
		spoil(func(p *api.Program) { p.Blocks[1].Ops[1].Imm = 1 }),
		spoil(func(p *api.Program) { p.Blocks[1].Ops[1] = api.Op{Do: api.Jump} }),
		spoil(func(p *api.Program) { p.Blocks[1].Ops[1] = api.Op{Do: -1} }),
		spoil(func(p *api.Program) { p.Blocks[2].Then = 1 }),
		spoil(func(p *api.Program) { p.Blocks[2].A = 32 }),
		spoil(func(p *api.Program) { p.Blocks[2].Ops = slices.Repeat([]api.Op{prints(6)}, api.MaxOps-4) }),
		spoil(func(p *api.Program) { p.Blocks = append(p.Blocks, make([]api.Block, api.MaxBlocks-2)...) }),
	} {
		if program.Check(p) == api.OK {
			t.Fatal("a program", p)
		}
		for block := -1; block < 5; block++ {
			if got := Early(p, block); len(got) != 0 {
				t.Errorf("Early(%v, %d) is %v", p, block, got)
			}
		}
	}
	// The greatest ones that are programs yet.
	p := spoil(func(p *api.Program) { p.Blocks[2].Ops = slices.Repeat([]api.Op{prints(6)}, api.MaxOps-5) })
	wantEarly(t, p, 0, 0, 1)
	p = spoil(func(p *api.Program) {
		for range api.MaxBlocks - 3 {
			p.Blocks = append(p.Blocks, halts(0))
		}
	})
	wantEarly(t, p, 0, 0, 1)
}

// The last block of the most blocks, far from its Then.
func TestTheLastBlock(t *testing.T) {
	blocks := slices.Repeat([]api.Block{halts(6)}, api.MaxBlocks)
	blocks[0] = jumps(api.MaxBlocks - 1)
	blocks[77] = with(halts(5), adds(7, 2, 3), multiplies(8, 2, 3))
	blocks[api.MaxBlocks-1] = branches(1, 77, 78)
	wantEarly(t, of(blocks...), api.MaxBlocks-1, 0, 1)
	wantEarly(t, of(blocks...), api.MaxBlocks-2)
	blocks[126] = jumps(77)
	wantEarly(t, of(blocks...), api.MaxBlocks-1)
}
