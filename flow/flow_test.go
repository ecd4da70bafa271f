package flow

import (
	"math"
	"slices"
	"testing"

	"hayloft/api"
	"hayloft/program"
)

func of(blocks ...api.Block) api.Program { return api.Program{Blocks: blocks} }

func jumps(then int) api.Block { return api.Block{End: api.EndJump, Then: then} }

func branches(then, orElse int) api.Block {
	return api.Block{End: api.EndBranch, A: 7, Then: then, Else: orElse}
}

func halts() api.Block { return api.Block{End: api.EndHalt, A: 3} }

func loops(then int, body ...api.Op) api.Block {
	return api.Block{End: api.EndLoop, A: 2, Body: body, Then: then}
}

func prints(a uint8) api.Op { return api.Op{Do: api.Print, A: a} }

func wantProgram(t *testing.T, p api.Program) {
	t.Helper()
	if e := program.Check(p); e != api.OK {
		t.Fatalf("no program: %v", e)
	}
}

// wantAfter holds After of all blocks against lists, and Ahead against these lists turned round.
func wantAfter(t *testing.T, p api.Program, after ...[]int) {
	t.Helper()
	wantProgram(t, p)
	ahead := make([][]int, len(p.Blocks))
	for n, list := range after {
		if got := After(p, n); !slices.Equal(got, list) {
			t.Errorf("After(%v, %d) = %v, want %v", p, n, got, list)
		}
		for _, next := range list {
			ahead[next] = append(ahead[next], n)
		}
	}
	for n, list := range ahead {
		if got := Ahead(p, n); !slices.Equal(got, list) {
			t.Errorf("Ahead(%v, %d) = %v, want %v", p, n, got, list)
		}
	}
}

func wantReached(t *testing.T, p api.Program, want ...int) {
	t.Helper()
	wantProgram(t, p)
	if got := Reached(p); !slices.Equal(got, want) {
		t.Errorf("Reached(%v) = %v, want %v", p, got, want)
	}
}

func same(a, b [][]int) bool { return slices.EqualFunc(a, b, slices.Equal[[]int]) }

func wantRings(t *testing.T, p api.Program, want ...[]int) {
	t.Helper()
	wantProgram(t, p)
	if got := Rings(p); !same(got, want) {
		t.Errorf("Rings(%v) = %v, want %v", p, got, want)
	}
}

func wantNone(t *testing.T, name string, p api.Program, blocks ...int) {
	t.Helper()
	for _, n := range blocks {
		if got := After(p, n); len(got) != 0 {
			t.Errorf("%s: After(%d) = %v", name, n, got)
		}
		if got := Ahead(p, n); len(got) != 0 {
			t.Errorf("%s: Ahead(%d) = %v", name, n, got)
		}
	}
}

func TestChapterExamples(t *testing.T) {
	p := of(branches(1, 2), jumps(0), halts(), jumps(3))
	wantAfter(t, p, []int{1, 2}, []int{0}, nil, []int{3})
	if got := Ahead(p, 0); !slices.Equal(got, []int{1}) {
		t.Errorf("Ahead(0) = %v", got)
	}
	wantNone(t, "a block that there is not", p, 9)
	wantReached(t, p, 0, 1, 2)
	wantRings(t, p, []int{0, 1}, []int{3})
}

func TestEachEnd(t *testing.T) {
	p := of(jumps(2), branches(3, 0), halts(), loops(1, prints(4)))
	wantAfter(t, p, []int{2}, []int{0, 3}, nil, []int{1})
	wantReached(t, p, 0, 2)
	wantRings(t, p, []int{1, 3})
	// What does not count with an end says nothing of where it turns.
	wantAfter(t, of(halts()), nil)
	wantReached(t, of(halts()), 0)
	wantRings(t, of(halts()))
	// A loop's rounds are within its block: they make no ring.
	wantRings(t, of(loops(1, prints(1), prints(2)), halts()))
	wantAfter(t, of(loops(1), halts()), []int{1}, nil)
}

func TestBranches(t *testing.T) {
	wantAfter(t, of(branches(1, 1), halts()), []int{1}, nil)
	wantAfter(t, of(branches(0, 0)), []int{0})
	wantAfter(t, of(branches(2, 1), halts(), halts()), []int{1, 2}, nil, nil)
	wantAfter(t, of(branches(1, 2), halts(), halts()), []int{1, 2}, nil, nil)
	wantAfter(t, of(branches(0, 1), branches(1, 0)), []int{0, 1}, []int{0, 1})
	// Else alone leads on.
	p := of(branches(0, 2), halts(), halts())
	wantReached(t, p, 0, 2)
	wantRings(t, p, []int{0})
}

func TestAfterItself(t *testing.T) {
	for name, b := range map[string]api.Block{
		"jump": jumps(0), "branch both": branches(0, 0), "branch then": branches(0, 1),
		"branch else": branches(1, 0), "loop": loops(0, prints(1)), "loop without a body": loops(0),
	} {
		p := of(b, halts())
		wantProgram(t, p)
		if !slices.Contains(After(p, 0), 0) || !slices.Contains(Ahead(p, 0), 0) {
			t.Errorf("%s: not after itself: %v, %v", name, After(p, 0), Ahead(p, 0))
		}
		wantRings(t, p, []int{0})
	}
}

func TestBlocksThatThereAreNot(t *testing.T) {
	p := of(branches(1, 2), jumps(0), loops(2))
	wantNone(t, "three blocks", p, 3, 4, 127, 128, -1, -2, -3, math.MaxInt, math.MinInt, math.MaxInt-1, math.MinInt+1)
	wantAfter(t, p, []int{1, 2}, []int{0}, []int{2})
	one := of(jumps(0))
	wantNone(t, "one block", one, 1, -1, math.MaxInt, math.MinInt)
	wantAfter(t, one, []int{0})
}

func TestProgramsThatAreNone(t *testing.T) {
	long := slices.Repeat([]api.Op{prints(1)}, api.MaxOps-2)
	for _, c := range []struct {
		name string
		p    api.Program
		want api.Errno
	}{
		{"no block", api.Program{}, api.ErrProgram},
		{"an empty list of blocks", api.Program{Blocks: []api.Block{}}, api.ErrProgram},
		{"too many blocks", of(slices.Repeat([]api.Block{jumps(0)}, api.MaxBlocks+1)...), api.ErrLong},
		{"too many operations", of(jumps(0), api.Block{Ops: append(long, prints(1)), Then: 1}), api.ErrLong},
		{"too long a body", of(jumps(1), loops(0, append(long, prints(2))...)), api.ErrLong},
		{"a Nop", of(jumps(1), api.Block{Ops: []api.Op{{}}, Then: 1}), api.ErrOp},
		{"an operation that turns", of(jumps(0), api.Block{Ops: []api.Op{{Do: api.Jump}}}), api.ErrOp},
		{"a Nop in a body", of(jumps(1), loops(1, api.Op{})), api.ErrOp},
		{"a register of an operation", of(jumps(1), loops(1, prints(32))), api.ErrOp},
		{"an end that is none", of(jumps(0), api.Block{End: 4}), api.ErrProgram},
		{"an end below 0", of(jumps(0), api.Block{End: -1}), api.ErrProgram},
		{"a register above 31", of(branches(0, 1), api.Block{End: api.EndHalt, A: 32}), api.ErrProgram},
		{"a register that does not count", of(jumps(1), api.Block{A: 1}), api.ErrProgram},
		{"Then is no block", of(jumps(1), jumps(2)), api.ErrProgram},
		{"Then below 0", of(jumps(1), loops(-1)), api.ErrProgram},
		{"Else is no block", of(jumps(1), branches(1, 2)), api.ErrProgram},
		{"Else below 0", of(jumps(1), branches(1, math.MinInt)), api.ErrProgram},
		{"Then that does not count", of(jumps(1), api.Block{End: api.EndHalt, Then: 1}), api.ErrProgram},
		{"Else that does not count", of(jumps(1), api.Block{Then: 1, Else: 1}), api.ErrProgram},
		{"a body that does not count", of(jumps(1), api.Block{Body: []api.Op{prints(1)}}), api.ErrProgram},
	} {
		if e := program.Check(c.p); e != c.want {
			t.Errorf("%s: Check = %v, want %v", c.name, e, c.want)
		}
		wantNone(t, c.name, c.p, 0, 1, 2, -1, math.MaxInt, math.MinInt)
		if got := Reached(c.p); len(got) != 0 {
			t.Errorf("%s: Reached = %v", c.name, got)
		}
		if got := Rings(c.p); len(got) != 0 {
			t.Errorf("%s: Rings = %v", c.name, got)
		}
	}
	// One operation fewer, and it is a program.
	wantAfter(t, of(jumps(0), api.Block{Ops: long, Then: 1}), []int{0}, []int{1})
}

func TestReached(t *testing.T) {
	wantReached(t, of(jumps(0)), 0)
	wantReached(t, of(jumps(0), halts()), 0)
	wantReached(t, of(jumps(1), jumps(0)), 0, 1)
	wantReached(t, of(jumps(2), halts(), loops(3), jumps(0), jumps(0)), 0, 2, 3)
	// Lower numbers are met later.
	wantReached(t, of(jumps(4), halts(), jumps(1), jumps(2), branches(3, 4)), 0, 1, 2, 3, 4)
	// Reached by themselves alone, and by one another alone.
	wantReached(t, of(halts(), jumps(1), jumps(3), jumps(2)), 0)
	// What is not reached leads to what is.
	wantReached(t, of(jumps(1), halts(), branches(0, 1)), 0, 1)
}

func TestRings(t *testing.T) {
	wantRings(t, of(branches(1, 2), jumps(3), jumps(3), halts()))
	wantRings(t, of(jumps(1), jumps(0)), []int{0, 1})
	wantRings(t, of(jumps(2), jumps(0), jumps(1)), []int{0, 1, 2})
	wantRings(t, of(branches(0, 1), jumps(1)), []int{0}, []int{1})
	// Within the blocks that are not reached, and beside one that is.
	wantRings(t, of(jumps(0), jumps(2), jumps(3), jumps(1), halts()), []int{0}, []int{1, 2, 3})
	// Two rings that one way joins.
	wantRings(t, of(branches(1, 2), jumps(0), jumps(3), jumps(2)), []int{0, 1}, []int{2, 3})
	// The same joined back as well is one.
	wantRings(t, of(branches(1, 2), jumps(0), jumps(3), branches(2, 0)), []int{0, 1, 2, 3})
	// A ring that several ways come to; the ways are on none.
	wantRings(t, of(branches(1, 2), branches(3, 5), jumps(4), jumps(4), jumps(3), halts()), []int{3, 4})
	// Two small rings with a block in common are one.
	wantRings(t, of(jumps(1), branches(0, 2), jumps(1)), []int{0, 1, 2})
	// Lists that are laid into one another go by their first blocks.
	wantRings(t, of(jumps(3), jumps(2), jumps(1), jumps(0)), []int{0, 3}, []int{1, 2})
	wantRings(t, of(halts(), jumps(5), jumps(3), jumps(4), jumps(2), jumps(1)), []int{1, 5}, []int{2, 3, 4})
	// A block that leads to a ring and is not come to from it.
	wantRings(t, of(jumps(1), jumps(2), jumps(1)), []int{1, 2})
}

func TestAsManyBlocksAsThereMayBe(t *testing.T) {
	var chain, back, ring, each, all []api.Block
	var numbers []int
	var alone [][]int
	for n := range api.MaxBlocks {
		next := (n + 1) % api.MaxBlocks
		ring = append(ring, jumps(next))
		each = append(each, loops(n))
		chain = append(chain, jumps(next))
		back = append(back, jumps((n+api.MaxBlocks-1)%api.MaxBlocks))
		all = append(all, branches(next, n))
		numbers = append(numbers, n)
		alone = append(alone, []int{n})
	}
	last := api.MaxBlocks - 1
	chain[last] = halts()
	back[1] = halts()
	wantReached(t, of(chain...), numbers...)
	wantRings(t, of(chain...))
	wantReached(t, of(back...), numbers...)
	wantRings(t, of(back...))
	wantReached(t, of(ring...), numbers...)
	wantRings(t, of(ring...), numbers)
	wantReached(t, of(all...), numbers...)
	wantRings(t, of(all...), numbers)
	wantReached(t, of(each...), 0)
	wantRings(t, of(each...), alone...)
	wantAfter(t, of(ring...), append(alone[1:], []int{0})...)
	// Every block may come ahead of one.
	if got := Ahead(of(slices.Repeat([]api.Block{jumps(5)}, api.MaxBlocks)...), 5); !slices.Equal(got, numbers) {
		t.Errorf("Ahead = %v", got)
	}
}
