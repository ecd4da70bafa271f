package better

import (
	"math/big"
	"math/rand"
	"slices"
	"testing"

	"hayloft/api"
	"hayloft/live"
	"hayloft/serial"
)

// The chapter told a second time: Fold by looking back for who wrote a register last, with whole numbers of arithmetic; Bury by taking one
// operation at a time, in any order, whenever live.At lets it go.

// writesTo answers whether an operation of a program writes a register.
func writesTo(o api.Op, register uint8) bool {
	return o.Do <= api.Load && o.D == register
}

// knownBehind answers what is known of a register behind a list that was folded.
func knownBehind(list []api.Op, register uint8) (int64, bool) {
	for _, o := range slices.Backward(list) {
		if writesTo(o, register) {
			return o.Imm, o.Do == api.Const
		}
	}
	return 0, false
}

func oneIf(b bool) *big.Int {
	if b {
		return big.NewInt(1)
	}
	return new(big.Int)
}

// comesTo answers what an operation from Add to Rest comes to; false, if it is a trap.
func comesTo(do int8, left, right int64) (int64, bool) {
	a, b, c := big.NewInt(left), big.NewInt(right), new(big.Int)
	shift := uint(((right % 64) + 64) % 64)
	switch do {
	case api.Add:
		c.Add(a, b)
	case api.Sub:
		c.Sub(a, b)
	case api.And:
		c.And(a, b)
	case api.Or:
		c.Or(a, b)
	case api.Xor:
		c.Xor(a, b)
	case api.Shl:
		c.Lsh(a, shift)
	case api.Shr:
		c.Rsh(a, shift)
	case api.Less:
		c = oneIf(a.Cmp(b) < 0)
	case api.Equal:
		c = oneIf(a.Cmp(b) == 0)
	case api.Move:
		c = a
	case api.Times:
		c.Mul(a, b)
	case api.Divide, api.Rest:
		if b.Sign() == 0 {
			return 0, false
		}
		whole, rest := new(big.Int).QuoRem(a, b, new(big.Int))
		if c = whole; do == api.Rest {
			c = rest
		}
	}
	return cut(c), true
}

// cut answers a whole number modulo 2^64.
func cut(c *big.Int) int64 {
	low := new(big.Int).And(c, new(big.Int).SetUint64(1<<64-1))
	return int64(low.Uint64())
}

func listTold(list []api.Op) []api.Op {
	var folded []api.Op
	for _, o := range list {
		left, known := knownBehind(folded, o.A)
		right, both := knownBehind(folded, o.B)
		if known && (both || o.Do == api.Move) && o.Do >= api.Add && o.Do <= api.Rest {
			if c, ok := comesTo(o.Do, left, right); ok && -1<<31 <= c && c <= 1<<31-1 {
				o = api.Op{Do: api.Const, D: o.D, Imm: c}
			}
		}
		folded = append(folded, o)
	}
	return folded
}

func foldTold(p api.Program) api.Program {
	var q api.Program
	for _, b := range p.Blocks {
		b.Ops, b.Body = listTold(b.Ops), listTold(b.Body)
		if number, known := knownBehind(b.Ops, b.A); known && b.End == api.EndBranch {
			to := b.Then
			if number == 0 {
				to = b.Else
			}
			b.End, b.A, b.Then, b.Else = api.EndJump, 0, to, 0
		}
		q.Blocks = append(q.Blocks, b)
	}
	return q
}

// place is an operation of a block's Ops.
type place struct{ block, op int }

// grave is a program while its operations are buried, and which of the first one's numbers are left of each block.
type grave struct {
	p    api.Program
	left [][]int
}

func graveOf(p api.Program) *grave {
	g := &grave{p: api.Program{Blocks: slices.Clone(p.Blocks)}}
	for _, b := range p.Blocks {
		var numbers []int
		for n := range b.Ops {
			numbers = append(numbers, n)
		}
		g.left = append(g.left, numbers)
	}
	return g
}

// bury takes an operation out, if it is one that goes.
func (g *grave) bury(at place) bool {
	now := slices.Index(g.left[at.block], at.op)
	if now < 0 {
		return false
	}
	b := &g.p.Blocks[at.block]
	o := b.Ops[now]
	if o.Do > api.Load || o.Do == api.Divide || o.Do == api.Rest || live.At(g.p, at.block, now+1)>>o.D&1 == 1 {
		return false
	}
	b.Ops = slices.Concat(b.Ops[:now], b.Ops[now+1:])
	g.left[at.block] = slices.Delete(g.left[at.block], now, now+1)
	return true
}

// buryTold buries in any order.
func buryTold(r *rand.Rand, p api.Program) *grave {
	g := graveOf(p)
	var places []place
	for n, b := range p.Blocks {
		for i := range b.Ops {
			places = append(places, place{n, i})
		}
	}
	for again := true; again; {
		again = false
		r.Shuffle(len(places), func(i, j int) { places[i], places[j] = places[j], places[i] })
		for _, at := range places {
			again = g.bury(at) || again
		}
	}
	return g
}

// trail answers the steps of the first program's run that are left, with the numbers that they have now.
func (g *grave) trail(tags []api.Tag) []api.Tag {
	var l []api.Tag
	for _, tag := range tags {
		if !tag.Loop && tag.Op >= 0 {
			if tag.Op = slices.Index(g.left[tag.Block], tag.Op); tag.Op < 0 {
				continue
			}
		}
		l = append(l, tag)
	}
	return l
}

func trailOf(t testing.TB, p api.Program, s api.State, steps int) []api.Tag {
	t.Helper()
	l, e := serial.Trail(p, s, steps)
	if e != api.OK {
		t.Fatal(p, e)
	}
	return l
}
