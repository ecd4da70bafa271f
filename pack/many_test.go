package pack

import (
	"math/rand"
	"reflect"
	"slices"
	"sync"
	"testing"

	"hayloft/api"
	"hayloft/delay"
	"hayloft/layout"
	"hayloft/ops"
	"hayloft/table"
)

// lending is what the tags say of operations that are done early.
type lending struct {
	borrower []int // by blocks: who does their first operations, or -1
	count    []int // by blocks: how many of them
}

// lendingTold reads it from the tags, and says that only what delay.Early names is done early, from the first on.
func lendingTold(t testing.TB, p api.Program, k api.Packed) lending {
	t.Helper()
	d := lending{slices.Repeat([]int{-1}, len(p.Blocks)), make([]int, len(p.Blocks))}
	met := map[api.Tag]int{}
	for n, row := range k.Tags {
		for _, tag := range row {
			if !tag.Spec {
				continue
			}
			where := 0
			for where+1 < len(k.Begins) && k.Begins[where+1] <= n {
				where++
			}
			early := delay.Early(p, where)
			if met[tag]++; met[tag] > 1 || tag.Loop || p.Blocks[where].Then != tag.Block || !slices.Contains(early, tag.Op) {
				t.Fatalf("%v: %v is done early in block %d", p, tag, where)
			}
			d.borrower[tag.Block] = where
			d.count[tag.Block]++
		}
	}
	for tag := range met {
		if tag.Op >= d.count[tag.Block] {
			t.Fatalf("%v: %v is done early, and one ahead of it is not", p, tag)
		}
	}
	return d
}

// movedTold answers the program in which what is done early stands where it is done, and for each block the tags of its Ops.
func movedTold(p api.Program, d lending) (api.Program, [][]api.Tag) {
	q, tags := api.Program{}, make([][]api.Tag, len(p.Blocks))
	for block, b := range p.Blocks {
		var l []api.Op
		for n, o := range b.Ops {
			if n >= d.count[block] {
				l = append(l, o)
				tags[block] = append(tags[block], api.Tag{Block: block, Op: n})
			}
		}
		for from, borrower := range d.borrower {
			for n := range d.count[from] {
				if borrower == block {
					l = append(l, p.Blocks[from].Ops[n])
					tags[block] = append(tags[block], api.Tag{Block: from, Op: n, Spec: true})
				}
			}
		}
		b.Ops = l
		q.Blocks = append(q.Blocks, b)
	}
	return q, tags
}

// laidTold answers what chapter 20 tells of a block.
func laidTold(t testing.TB, p api.Program, block int, m api.Table) ([]api.Bundle, [][]api.Tag) {
	t.Helper()
	ask := func() ([]api.Bundle, [][]api.Tag, api.Errno) { return layout.Block(p, block, m) }
	if b := p.Blocks[block]; b.End == api.EndLoop {
		ask = func() ([]api.Bundle, [][]api.Tag, api.Errno) { return layout.Loop(b, block, m) }
	}
	l, tags, e := ask()
	if e != api.OK {
		t.Fatal(p, block, m, e)
	}
	return l, tags
}

// placed answers a bundle of a block that begins somewhere, in which turns have become places.
func placed(b api.Bundle, from int, begins []int) api.Bundle {
	for class := range b.Ops {
		b.Ops[class] = slices.Clone(b.Ops[class])
		for n, o := range b.Ops[class] {
			switch o.Do {
			case api.Jump, api.Branch, api.Short, api.Again:
				place := from - int(o.Imm) - 1
				if o.Imm >= 0 {
					place = begins[o.Imm]
				}
				b.Ops[class][n].Imm = int64(place)
			}
		}
	}
	return b
}

// sameBundle answers whether they are the same; an empty list is one without operations.
func sameBundle(a, b api.Bundle) bool {
	for class := range a.Ops {
		if !slices.Equal(a.Ops[class], b.Ops[class]) {
			return false
		}
	}
	return true
}

// wantTold says that a program that is let in is packed as the chapter tells (P21.1, P21.2, P21.4), and hands it out.
func wantTold(t testing.TB, p api.Program, m api.Table) api.Packed {
	t.Helper()
	k, e := Pack(p, m)
	if e != api.OK {
		t.Fatalf("Pack(%v, %v) is %v", p, m, e)
	}
	l := decoded(t, k, m)
	if len(l) > api.MaxCycles || len(l) != len(k.Tags) || len(k.Begins) != len(p.Blocks) {
		t.Fatalf("%v, %v: %d bundles, %d lists of tags, blocks begin at %v", p, m, len(l), len(k.Tags), k.Begins)
	}
	moved, origins := movedTold(p, lendingTold(t, p, k))
	from := 0
	for block := range p.Blocks {
		if k.Begins[block] != from {
			t.Fatalf("%v, %v: blocks begin at %v, want %d of %d", p, m, k.Begins, from, block)
		}
		bundles, tags := laidTold(t, moved, block, m)
		for n, b := range bundles {
			for at, tag := range tags[n] {
				if tag.Op >= 0 && !tag.Loop {
					tags[n][at] = origins[block][tag.Op]
				}
			}
			if want := placed(b, from, k.Begins); from+n >= len(l) || !sameBundle(l[from+n], want) || !slices.Equal(k.Tags[from+n], tags[n]) {
				t.Fatalf("%v, %v: bundle %d of %d is not %v with %v", p, m, from+n, len(l), want, tags[n])
			}
		}
		from += len(bundles)
	}
	if from != len(l) {
		t.Fatalf("%v, %v: %d bundles, want %d", p, m, len(l), from)
	}
	wantTagsOnce(t, p, m, k)
	wantCounted(t, k, m, l)
	return k
}

// wantTagsOnce says of P21.5 where each operation has its tag, and how often.
func wantTagsOnce(t testing.TB, p api.Program, m api.Table, k api.Packed) {
	t.Helper()
	type standing struct {
		block int
		tag   api.Tag
	}
	found := map[standing]int{}
	for block, from := range k.Begins {
		to := len(k.Tags)
		if block+1 < len(k.Begins) {
			to = k.Begins[block+1]
		}
		for _, row := range k.Tags[from:to] {
			for _, tag := range row {
				found[standing{block, tag}]++
			}
		}
	}
	want := map[standing]int{}
	early := lendingTold(t, p, k)
	for block, b := range p.Blocks {
		for n := range b.Ops {
			if n < early.count[block] {
				want[standing{early.borrower[block], api.Tag{Block: block, Op: n, Spec: true}}] = 1
			} else {
				want[standing{block, api.Tag{Block: block, Op: n}}] = 1
			}
		}
		own := 1
		switch b.End {
		case api.EndBranch:
			own = 2
		case api.EndLoop:
			own = 4 // a Short, a Count, an Again, a Jump
			_, tags := laidTold(t, p, block, m)
			for _, row := range tags {
				for _, tag := range row {
					if tag.Loop {
						want[standing{block, tag}]++
					}
				}
			}
			if len(b.Body) > 0 && want[standing{block, api.Tag{Block: block, Loop: true}}] > 1 {
				own = 8 // a Short more, and the slow way's Count, Again and Jump
			}
		}
		want[standing{block, api.Tag{Block: block, Op: -1}}] = own
	}
	if !reflect.DeepEqual(found, want) {
		t.Fatalf("%v, %v: tags %v, want %v", p, m, found, want)
	}
}

// wantCounted says that Numbers are those of the bundles.
func wantCounted(t testing.TB, k api.Packed, m api.Table, l []api.Bundle) {
	t.Helper()
	want := api.Numbers{Bundles: len(l)}
	for n := range l {
		count := len(k.Tags[n])
		want.Ops, want.Longest = want.Ops+count, max(want.Longest, count)
		if count == 0 {
			want.Empty++
		}
	}
	if got, e := Numbers(k, m); e != api.OK || got != want {
		t.Fatalf("%v: %v, %v, want %v", k, got, e, want)
	}
}

// opOf answers an operation of that kind, with those of the fields that count with it.
func opOf(do int8, d, a, b uint8, imm int64) api.Op {
	switch do {
	case api.Const:
		return consts(d, imm)
	case api.Move:
		return api.Op{Do: do, D: d, A: a}
	case api.Load:
		return loads(d, a, imm)
	case api.Store:
		return stores(a, b, imm)
	case api.Print:
		return prints(a)
	}
	return api.Op{Do: do, D: d, A: a, B: b}
}

// chanceOp answers an operation of a program that has as many registers, of few cells.
func chanceOp(r *rand.Rand, registers int) api.Op {
	register := func() uint8 { return uint8(r.Intn(registers)) }
	imm := int64(r.Intn(9) - 2)
	do := api.Const + r.Intn(api.Print+2)
	if do > api.Print { // more of these than of others
		do = api.Load + do%2
	}
	if do >= api.Load {
		imm += 256 * int64(r.Intn(3)-1)
	}
	return opOf(int8(do), register(), register(), register(), imm)
}

// chanceList answers at most as many operations.
func chanceList(r *rand.Rand, registers, most int) []api.Op {
	var l []api.Op
	for range r.Intn(most + 1) {
		l = append(l, chanceOp(r, registers))
	}
	return l
}

// chanceTable answers a table that has a unit of each class; half of the time few.
func chanceTable(r *rand.Rand) api.Table {
	m := api.Table{Delay: r.Intn(api.MaxDelay + 1)}
	most := 1 + r.Intn(api.MaxUnits)
	if r.Intn(2) == 0 {
		most = 1
	}
	for class := range api.Classes {
		m.Units[class], m.Lat[class], m.Busy[class] = 1+r.Intn(most), 1+r.Intn(api.MaxLatency), 1+r.Intn(api.MaxBusy)
	}
	return m
}

// chanceBlock answers a block of a program that has as many, of any end.
func chanceBlock(r *rand.Rand, blocks, registers, most int) api.Block {
	l, a, then := chanceList(r, registers, most), uint8(r.Intn(registers)), r.Intn(blocks)
	switch r.Intn(4) {
	case api.EndJump:
		return with(jumps(then), l...)
	case api.EndBranch:
		return with(branches(a, then, r.Intn(blocks)), l...)
	case api.EndHalt:
		return with(halts(a), l...)
	}
	return with(loops(a, then, chanceList(r, registers, most)...), l...)
}

func chanceRegisters(r *rand.Rand) int {
	if r.Intn(2) == 0 {
		return api.Registers
	}
	return 1 + r.Intn(8)
}

// chanceProgram answers a program of any blocks and any turns.
func chanceProgram(r *rand.Rand, most int) api.Program {
	var p api.Program
	count, registers := 1+r.Intn(5), chanceRegisters(r)
	for range count {
		p.Blocks = append(p.Blocks, chanceBlock(r, count, registers, most))
	}
	return p
}

// chanceForks answers a program of many branches to blocks that begin with what could be done early; most of them end.
func chanceForks(r *rand.Rand, most int) api.Program {
	var p api.Program
	count, registers := 3+r.Intn(6), 8+r.Intn(24)
	for n := range count {
		b := chanceBlock(r, count, registers, most)
		if n < count-1 && r.Intn(3) > 0 {
			b = with(branches(uint8(r.Intn(registers)), n+1, n+1+r.Intn(count-1-n)), b.Ops...)
			if r.Intn(2) == 0 {
				b.Else = count - 1
			}
		}
		var first []api.Op
		for range r.Intn(3) {
			first = append(first, opOf(int8(api.Const+r.Intn(api.Times)), uint8(r.Intn(registers)), uint8(r.Intn(registers)), uint8(r.Intn(registers)), 3))
		}
		b.Ops = append(first, b.Ops...)
		p.Blocks = append(p.Blocks, b)
	}
	p.Blocks[count-1] = with(halts(uint8(r.Intn(registers))), p.Blocks[count-1].Ops...)
	if r.Intn(2) == 0 { // so that what is next is not always the next one
		swapBlocks(p, 1+r.Intn(count-1), 1+r.Intn(count-1))
	}
	return p
}

// chanceQuick answers a table whose results land soon, so that there is room behind a branch.
func chanceQuick(r *rand.Rand) api.Table {
	m := chanceTable(r)
	for class := range api.Classes {
		m.Lat[class], m.Busy[class] = 1+r.Intn(3), 1+r.Intn(2)
	}
	return m
}

// swapBlocks lets two blocks change their numbers.
func swapBlocks(p api.Program, a, b int) {
	p.Blocks[a], p.Blocks[b] = p.Blocks[b], p.Blocks[a]
	turned := func(to int) int {
		switch to {
		case a:
			return b
		case b:
			return a
		}
		return to
	}
	for n := range p.Blocks {
		c := &p.Blocks[n]
		if c.End != api.EndHalt {
			c.Then = turned(c.Then)
		}
		if c.End == api.EndBranch {
			c.Else = turned(c.Else)
		}
	}
}

func TestManyPrograms(t *testing.T) {
	r := rand.New(rand.NewSource(21))
	early := map[int]int{}
	for range 1200 {
		wantTold(t, chanceProgram(r, 8), chanceTable(r))
		k := wantTold(t, chanceForks(r, 3), chanceQuick(r))
		wantTold(t, chanceForks(r, 5), chanceTable(r))
		early[min(len(earlyIn(k)), 4)]++
	}
	for n := range 5 {
		if early[n] < 25 {
			t.Errorf("by how many are done early: %v", early)
			break
		}
	}
}

// Every table of few: each block has the place that it has by what stands ahead of it, whatever Ctl's Busy and Delay.
func TestManyTables(t *testing.T) {
	chain := []api.Op{loads(1, 2, 0), adds(3, 3, 1), multiplies(4, 3, 1)}
	p := blocks(branches(1, 1, 4), with(branches(2, 2, 4), multiplies(5, 2, 2), multiplies(6, 5, 5), prints(6)), with(loops(3, 3, chain...), multiplies(7, 2, 2), consts(3, 9)),
		with(loops(3, 4, chain[:1]...), prints(3)), halts(8))
	stood := map[int]int{}
	for busyCtl := 1; busyCtl <= api.MaxBusy; busyCtl++ {
		for delay := range api.MaxDelay + 1 {
			for unitsOfEach := 1; unitsOfEach <= api.MaxUnits; unitsOfEach++ {
				for lat := 1; lat <= api.MaxLatency; lat++ {
					m := delayed(units(ones(), unitsOfEach, unitsOfEach, unitsOfEach, 1+unitsOfEach/4), delay)
					k := wantTold(t, p, busy(lats(m, 1, lat, lat, 1), 1, 1, 1, busyCtl))
					stood[len(earlyIn(k))]++
				}
			}
		}
	}
	if min(stood[2], stood[3], stood[4]) < 100 {
		t.Errorf("by how many are done early: %v", stood)
	}
}

// P21.4: at most MaxCycles bundles, under the table in which all takes longest.
func TestLongest(t *testing.T) {
	m := delayed(busy(lats(ones(), 8, 8, 8, 8), 4, 4, 4, 4), api.MaxDelay)
	longest := 0
	try := func(count, ahead, body int, at func(k int) api.Op) {
		var p api.Program
		for n := range count {
			b := loops(1, n+1)
			for k := range body {
				b.Body = append(b.Body, at(k))
			}
			for k := range ahead {
				b.Ops = append(b.Ops, at(k))
			}
			p.Blocks = append(p.Blocks, b)
		}
		p.Blocks = append(p.Blocks, halts(0))
		longest = max(longest, len(wantTold(t, p, m).Tags))
	}
	kinds := []func(k int) api.Op{
		func(k int) api.Op { return multiplies(1, 1, 1) },
		func(k int) api.Op { return multiplies(uint8((k+1)%32), uint8(k%32), uint8(k%32)) },
		func(k int) api.Op {
			if k%2 == 0 {
				return loads(uint8(k/2%32), 31, 0)
			}
			return stores(31, uint8(k/2%32), 0)
		},
	}
	for _, at := range kinds {
		try(15, 0, api.MaxBody, at)
		try(127, 0, 7, at)
		try(127, 3, 4, at)
		try(7, 65, api.MaxBody, at)
	}
	if longest < 7000 || longest > api.MaxCycles {
		t.Errorf("at most %d bundles", longest)
	}
}

// spoilt answers an operation that is mostly none.
func spoilt(r *rand.Rand, o api.Op) api.Op {
	switch r.Intn(5) {
	case 0:
		o.Do = int8(r.Intn(256))
	case 1:
		o.D = uint8(r.Intn(256))
	case 2:
		o.A = uint8(r.Intn(256))
	case 3:
		o.B = uint8(r.Intn(256))
	case 4:
		o.Imm = int64(r.Uint64())
	}
	return o
}

// refusedTold is P21.1's errors told a second time, of programs whose blocks are at most MaxBlocks, and one at least.
func refusedTold(p api.Program, m api.Table) api.Errno {
	count := 0
	for _, b := range p.Blocks {
		count += 1 + len(b.Ops) + len(b.Body)
	}
	if count > 1024 {
		return api.ErrLong
	}
	isNone := func(o api.Op) bool { return ops.Check(o) != api.OK || o.Do < api.Const || o.Do > api.Print }
	isBlock := func(n int) bool { return n >= 0 && n < len(p.Blocks) }
	for _, b := range p.Blocks {
		if slices.ContainsFunc(b.Ops, isNone) {
			return api.ErrOp
		}
		a, then, orElse, body := b.A < 32, isBlock(b.Then), b.Else == 0, len(b.Body) == 0
		switch b.End {
		case api.EndJump:
			a = b.A == 0
		case api.EndBranch:
			orElse = isBlock(b.Else)
		case api.EndHalt:
			then = b.Then == 0
		case api.EndLoop:
			body = true
		default:
			a = false
		}
		if !a || !then || !orElse || !body {
			return api.ErrProgram
		}
		if slices.ContainsFunc(b.Body, isNone) {
			return api.ErrOp
		}
	}
	if e := table.Check(m); e != api.OK {
		return e
	}
	needed := [api.Classes]bool{api.Ctl: true}
	for _, b := range p.Blocks {
		for _, o := range slices.Concat(b.Ops, b.Body) {
			class, _ := ops.Class(o.Do)
			needed[class] = true
		}
	}
	for class, used := range needed {
		if used && m.Units[class] == 0 {
			return api.ErrNoUnit
		}
	}
	return api.OK
}

func TestManyErrors(t *testing.T) {
	r := rand.New(rand.NewSource(211))
	found := map[api.Errno]int{}
	for range 6000 {
		p, m := chanceProgram(r, 5), chanceTable(r)
		b := &p.Blocks[r.Intn(len(p.Blocks))]
		for range r.Intn(3) {
			switch r.Intn(9) {
			case 0:
				m.Lat[r.Intn(api.Classes)] = r.Intn(11) - 1
			case 1:
				m.Units[r.Intn(api.Classes)] = 0
			case 2:
				b.End = int8(r.Intn(8) - 2)
			case 3:
				b.A = uint8(30 + r.Intn(4))
			case 4:
				b.Then = r.Intn(9) - 2
			case 5:
				b.Ops = make([]api.Op, 1010+r.Intn(20)) // nops
			case 6:
				if len(b.Ops) > 0 {
					k := r.Intn(len(b.Ops))
					b.Ops[k] = spoilt(r, b.Ops[k])
				}
			case 7:
				if len(b.Body) > 0 {
					k := r.Intn(len(b.Body))
					b.Body[k] = spoilt(r, b.Body[k])
				}
			case 8:
				m.Delay = r.Intn(8) - 1
			}
		}
		want := refusedTold(p, m)
		k, e := Pack(p, m)
		if e != want || e != api.OK && (k.Words != nil || k.Tags != nil || k.Begins != nil) {
			t.Fatalf("Pack(%v, %v) is %v, %v, want %v", p, m, k, e, want)
		}
		found[e]++
	}
	if len(found) != 6 {
		t.Errorf("by errors %v", found)
	}
	for e, times := range found {
		if times < 20 {
			t.Errorf("%v only %d times", e, times)
		}
	}
}

// P8: one bit of a word turned, and it is refused, or Numbers are asked of other bundles.
func TestNumbersOfOtherWords(t *testing.T) {
	r := rand.New(rand.NewSource(212))
	refused := 0
	for range 2000 {
		m := chanceTable(r)
		k, _ := Pack(chanceForks(r, 4), m)
		k.Words[r.Intn(len(k.Words))] ^= 1 << r.Intn(64)
		n, e := Numbers(k, m)
		if e != api.OK {
			refused++
			if e != api.ErrBadBundle || n != (api.Numbers{}) {
				t.Fatal(n, e)
			}
			continue
		}
		want, now := 0, 0
		for _, row := range k.Tags {
			want += len(row)
		}
		for _, b := range decoded(t, k, m) {
			now += size(b)
		}
		if n.Ops != now || now < want-1 || now > want+1 {
			t.Fatalf("%v of %d operations, %d before", n, now, want)
		}
	}
	if refused < 200 || refused > 1980 {
		t.Errorf("%d refused", refused)
	}
}

// roomy answers a copy of a program whose lists have room behind their ends, with something in it.
func roomy(p api.Program) api.Program {
	room := func(l []api.Op) []api.Op {
		return append(append(slices.Clone(l), prints(29), prints(30)), prints(31))[: len(l) : len(l)+3]
	}
	var q api.Program
	for _, b := range p.Blocks {
		b.Ops, b.Body = room(b.Ops), room(b.Body)
		q.Blocks = append(q.Blocks, b)
	}
	q.Blocks = append(q.Blocks, halts(9), halts(8))[: len(p.Blocks) : len(p.Blocks)+2]
	return q
}

// wholeOf answers copies of a program's lists with the room behind their ends.
func wholeOf(p api.Program) []api.Block {
	l := slices.Clone(p.Blocks[:cap(p.Blocks)])
	for n, b := range l {
		l[n].Ops, l[n].Body = slices.Clone(b.Ops[:cap(b.Ops)]), slices.Clone(b.Body[:cap(b.Body)])
	}
	return l
}

func copyOf(k api.Packed) api.Packed {
	c := api.Packed{Words: slices.Clone(k.Words), Begins: slices.Clone(k.Begins)}
	for _, row := range k.Tags {
		c.Tags = append(c.Tags, slices.Clone(row))
	}
	return c
}

func samePacked(a, b api.Packed) bool {
	return slices.Equal(a.Words, b.Words) && slices.Equal(a.Begins, b.Begins) && slices.EqualFunc(a.Tags, b.Tags, slices.Equal[[]api.Tag])
}

// R3: what is handed in is not changed, and answers do not show what is written there later.
func TestArgumentsStay(t *testing.T) {
	r := rand.New(rand.NewSource(213))
	early := 0
	for range 400 {
		p, m := roomy(chanceForks(r, 3)), chanceQuick(r)
		p.Blocks = p.Blocks[:len(p.Blocks):cap(p.Blocks)]
		before := wholeOf(p)
		k, e := Pack(p, m)
		if e != api.OK || !reflect.DeepEqual(wholeOf(p), before) {
			t.Fatalf("%v: the lists were changed, %v", p, e)
		}
		early += len(earlyIn(k))
		kept := copyOf(k)
		for n := range p.Blocks {
			for _, l := range [][]api.Op{p.Blocks[n].Ops, p.Blocks[n].Body} {
				for at := range l[:cap(l)] {
					l[:cap(l)][at] = consts(7, 77)
				}
			}
			p.Blocks[n].Then, p.Blocks[n].A = 0, 0
		}
		if !samePacked(k, kept) {
			t.Fatalf("%v: what was answered shows what was written later", p)
		}
		// And what is asked later shows it.
		wantTold(t, p, m)
	}
	if early < 100 {
		t.Errorf("%d are done early", early)
	}
}

func TestNumbersLeavesItsArgument(t *testing.T) {
	r := rand.New(rand.NewSource(214))
	for range 200 {
		m := chanceTable(r)
		k, _ := Pack(chanceForks(r, 6), m)
		k.Words = append(k.Words, 5, 6)[:len(k.Words)]
		kept, words := copyOf(k), slices.Clone(k.Words[:len(k.Words)+2])
		if _, e := Numbers(k, m); e != api.OK || !samePacked(k, kept) || !slices.Equal(words, k.Words[:len(words)]) {
			t.Fatal("it was changed", e)
		}
	}
}

// R3: answers are the caller's own; one list of an answer is not another one's room.
func TestAnswersAreTheCallersOwn(t *testing.T) {
	r := rand.New(rand.NewSource(215))
	for range 300 {
		p, m := chanceForks(r, 6), chanceTable(r)
		want, _ := Pack(p, m)
		k, _ := Pack(p, m)
		spoil := func(l []api.Tag) {
			for n := range l[:cap(l)] {
				l[:cap(l)][n] = api.Tag{Block: -9, Op: 99, Loop: true, Spec: true}
			}
		}
		at := r.Intn(len(k.Tags))
		spoil(k.Tags[at])
		for n, row := range k.Tags {
			if n != at && !slices.Equal(row, want.Tags[n]) {
				t.Fatalf("%v, %v: the tags of bundle %d show what was written into those of %d", p, m, n, at)
			}
		}
		for n := range k.Tags {
			spoil(k.Tags[n])
			k.Tags[n] = nil
		}
		clear(k.Words[:cap(k.Words)])
		clear(k.Begins[:cap(k.Begins)])
		if again, e := Pack(p, m); e != api.OK || !samePacked(again, want) {
			t.Fatalf("%v, %v: a later answer shows what was written into one", p, m)
		}
	}
}

// R2: how many ask at the same time changes no answer.
func TestAskedAtTheSameTime(t *testing.T) {
	r := rand.New(rand.NewSource(216))
	p, m := chanceForks(r, 8), chanceTable(r)
	want, _ := Pack(p, m)
	numbers, _ := Numbers(want, m)
	var all sync.WaitGroup
	for range 8 {
		all.Go(func() {
			for range 20 {
				if k, e := Pack(p, m); e != api.OK || !samePacked(k, want) {
					t.Error("another one", e)
				}
				if n, e := Numbers(want, m); e != api.OK || n != numbers {
					t.Error("other numbers", e)
				}
			}
		})
	}
	all.Wait()
}
