package flow

import (
	"math/rand"
	"reflect"
	"slices"
	"testing"

	"hayloft/api"
	"hayloft/program"
)

// chanceBlock answers a block of a program of as many.
func chanceBlock(r *rand.Rand, blocks int) api.Block {
	b := api.Block{Ops: slices.Repeat([]api.Op{prints(uint8(r.Intn(32)))}, r.Intn(4)), End: int8(r.Intn(4))}
	if r.Intn(2) == 0 {
		b.End = api.EndBranch
	}
	if b.End != api.EndJump {
		b.A = uint8(r.Intn(32))
	}
	if b.End != api.EndHalt {
		b.Then = r.Intn(blocks)
	}
	if b.End == api.EndBranch {
		b.Else = r.Intn(blocks)
	}
	if b.End == api.EndLoop {
		b.Body = slices.Repeat([]api.Op{prints(uint8(r.Intn(32)))}, r.Intn(4))
	}
	return b
}

// chance answers a program that program.Check takes.
func chance(r *rand.Rand) api.Program {
	blocks := 1 + r.Intn(9)
	if r.Intn(40) == 0 {
		blocks = 1 + r.Intn(128)
	}
	var p api.Program
	for range blocks {
		p.Blocks = append(p.Blocks, chanceBlock(r, blocks))
	}
	return p
}

// matrix says of every two blocks whether one step leads from the first to the second.
func matrix(p api.Program) [][]bool {
	m := make([][]bool, len(p.Blocks))
	for n, b := range p.Blocks {
		m[n] = make([]bool, len(p.Blocks))
		if b.End != api.EndHalt {
			m[n][b.Then] = true
		}
		if b.End == api.EndBranch {
			m[n][b.Else] = true
		}
	}
	return m
}

// closed says the same of one step or more: through each block in its turn.
func closed(m [][]bool) [][]bool {
	c := make([][]bool, len(m))
	for n := range m {
		c[n] = slices.Clone(m[n])
	}
	for k := range c {
		for i := range c {
			for j := range c {
				c[i][j] = c[i][j] || c[i][k] && c[k][j]
			}
		}
	}
	return c
}

func places(holds func(n int) bool, count int) []int {
	var list []int
	for n := range count {
		if holds(n) {
			list = append(list, n)
		}
	}
	return list
}

// slowRings is P7.3 told a second time.
func slowRings(c [][]bool) [][]int {
	var rings [][]int
	for n := range c {
		ring := places(func(k int) bool { return c[n][k] && c[k][n] }, len(c))
		if len(ring) > 0 && ring[0] == n {
			rings = append(rings, ring)
		}
	}
	return rings
}

func wantAll(t *testing.T, p api.Program) {
	t.Helper()
	m := matrix(p)
	c := closed(m)
	for n := range m {
		if got, want := After(p, n), places(func(k int) bool { return m[n][k] }, len(m)); !slices.Equal(got, want) {
			t.Fatalf("After(%v, %d) = %v, want %v", p, n, got, want)
		}
		if got, want := Ahead(p, n), places(func(k int) bool { return m[k][n] }, len(m)); !slices.Equal(got, want) {
			t.Fatalf("Ahead(%v, %d) = %v, want %v", p, n, got, want)
		}
	}
	if got, want := Reached(p), places(func(k int) bool { return k == 0 || c[0][k] }, len(m)); !slices.Equal(got, want) {
		t.Fatalf("Reached(%v) = %v, want %v", p, got, want)
	}
	if got, want := Rings(p), slowRings(c); !same(got, want) {
		t.Fatalf("Rings(%v) = %v, want %v", p, got, want)
	}
}

// wantFollows holds what P7.4 says against the answers alone.
func wantFollows(t *testing.T, p api.Program) {
	t.Helper()
	for x := range p.Blocks {
		for y := range p.Blocks {
			if slices.Contains(After(p, y), x) != slices.Contains(Ahead(p, x), y) {
				t.Fatalf("%v: %d in After(%d), or %d in Ahead(%d), not both", p, x, y, y, x)
			}
		}
	}
	reached := Reached(p)
	for _, n := range reached {
		for _, next := range After(p, n) {
			if !slices.Contains(reached, next) {
				t.Fatalf("%v: %d is after %d and not reached", p, next, n)
			}
		}
	}
	times := map[int]int{}
	for _, ring := range Rings(p) {
		for _, n := range ring {
			times[n]++
			if times[n] > 1 {
				t.Fatalf("%v: %d is in two rings, or twice in one", p, n)
			}
		}
	}
}

func TestManyPrograms(t *testing.T) {
	r := rand.New(rand.NewSource(7))
	for range 4000 {
		p := chance(r)
		wantProgram(t, p)
		wantAll(t, p)
		if len(p.Blocks) < 20 {
			wantFollows(t, p)
		}
	}
}

// TestFewBlocks goes through every program of up to three blocks, but for what they do ahead of their ends.
func TestFewBlocks(t *testing.T) {
	var ways func(p api.Program, blocks int)
	ways = func(p api.Program, blocks int) {
		if len(p.Blocks) == blocks {
			wantAll(t, p)
			return
		}
		with := func(b api.Block) { ways(of(append(slices.Clone(p.Blocks), b)...), blocks) }
		with(halts())
		for then := range blocks {
			with(jumps(then))
			with(loops(then))
			for orElse := range blocks {
				with(branches(then, orElse))
			}
		}
	}
	for blocks := 1; blocks <= 3; blocks++ {
		ways(api.Program{}, blocks)
	}
}

// TestEndsWithinItsOperations: the longest way through a program without rings and loops has no more steps than it has operations.
func TestEndsWithinItsOperations(t *testing.T) {
	r := rand.New(rand.NewSource(74))
	tried := 0
	for range 4000 {
		p := chance(r)
		if len(Rings(p)) > 0 || slices.ContainsFunc(p.Blocks, func(b api.Block) bool { return b.End == api.EndLoop }) {
			continue
		}
		tried++
		var longest func(at, left int) int
		longest = func(at, left int) int {
			if left == 0 {
				t.Fatalf("%v: does not end", p)
			}
			most := 0
			for _, next := range After(p, at) {
				most = max(most, longest(next, left-1))
			}
			return most + len(p.Blocks[at].Ops) + 1
		}
		if steps := longest(0, len(p.Blocks)+1); steps > program.Ops(p) {
			t.Fatalf("%v: %d steps", p, steps)
		}
	}
	if tried < 100 {
		t.Errorf("only %d programs without rings and loops", tried)
	}
}

// copied answers p in memory of its own, lists with the room behind their ends.
func copied(p api.Program) api.Program {
	c := api.Program{Blocks: slices.Clone(p.Blocks[:cap(p.Blocks)])[:len(p.Blocks)]}
	for n, b := range c.Blocks {
		c.Blocks[n].Ops = slices.Clone(b.Ops[:cap(b.Ops)])[:len(b.Ops)]
		c.Blocks[n].Body = slices.Clone(b.Body[:cap(b.Body)])[:len(b.Body)]
	}
	return c
}

func whole(p api.Program) api.Program {
	p = api.Program{Blocks: slices.Clone(p.Blocks[:cap(p.Blocks)])}
	for n, b := range p.Blocks {
		p.Blocks[n].Ops, p.Blocks[n].Body = b.Ops[:cap(b.Ops)], b.Body[:cap(b.Body)]
	}
	return p
}

// spoil writes over a list and the room behind its end.
func spoil(list []int) {
	list = list[:cap(list)]
	for n := range list {
		list[n] = -9
	}
}

func TestNothingIsChangedOrKept(t *testing.T) {
	r := rand.New(rand.NewSource(73))
	for range 300 {
		p := chance(r)
		p.Blocks = append(slices.Clip(p.Blocks), halts(), jumps(99))[:len(p.Blocks)]
		before := copied(p)
		var after, ahead [][]int
		for n := range p.Blocks {
			after, ahead = append(after, slices.Clone(After(p, n))), append(ahead, slices.Clone(Ahead(p, n)))
			spoil(After(p, n))
			spoil(Ahead(p, n))
		}
		reached, rings := slices.Clone(Reached(p)), Rings(before)
		spoil(Reached(p))
		got := Rings(p)
		for n := range got {
			// No list of the answer reaches into another one.
			spoil(got[n])
			if !same(got[n+1:], rings[n+1:]) {
				t.Fatalf("%v: lists of an answer share memory", p)
			}
		}
		if !reflect.DeepEqual(whole(p), whole(before)) {
			t.Fatalf("%v became %v", before, p)
		}
		for n := range p.Blocks {
			if !slices.Equal(After(p, n), after[n]) || !slices.Equal(Ahead(p, n), ahead[n]) {
				t.Fatalf("%v: another answer for %d", p, n)
			}
		}
		if !slices.Equal(Reached(p), reached) || !same(Rings(p), rings) {
			t.Fatalf("%v: another answer", p)
		}
	}
}

// TestLaterChangesOfTheProgram: what was answered stays as it was, what is asked anew is of the program as it is.
func TestLaterChangesOfTheProgram(t *testing.T) {
	p := of(branches(1, 2), jumps(0), halts())
	after, reached, rings := After(p, 0), Reached(p), Rings(p)
	p.Blocks[0] = jumps(2)
	if !slices.Equal(after, []int{1, 2}) || !slices.Equal(reached, []int{0, 1, 2}) || !same(rings, [][]int{{0, 1}}) {
		t.Errorf("changed: %v %v %v", after, reached, rings)
	}
	wantAfter(t, p, []int{2}, []int{0}, nil)
	wantReached(t, p, 0, 2)
	wantRings(t, p)
}

func FuzzFlow(f *testing.F) {
	f.Add([]byte{1, 1, 2, 0, 0, 0, 2, 0, 0, 0, 3, 0}, 0)
	f.Add([]byte{3, 0, 0}, -1)
	f.Add([]byte{4, 0, 0}, 0)
	f.Fuzz(func(t *testing.T, data []byte, block int) {
		var p api.Program
		for ; len(data) >= 3; data = data[3:] {
			b := api.Block{End: int8(data[0]), Then: int(int8(data[1])), Else: int(int8(data[2]))}
			p.Blocks = append(p.Blocks, b)
		}
		if program.Check(p) != api.OK {
			wantNone(t, "no program", p, block, 0)
			if len(Reached(p)) != 0 || len(Rings(p)) != 0 {
				t.Error("answers of no program")
			}
			return
		}
		wantAll(t, p)
		if block < 0 || block >= len(p.Blocks) {
			wantNone(t, "no block", p, block)
		}
	})
}
