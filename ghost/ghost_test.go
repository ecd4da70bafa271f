package ghost

import (
	"fmt"
	"math"
	"slices"
	"strconv"
	"strings"
	"testing"

	"hayloft/api"
	"hayloft/bundle"
	"hayloft/ops"
	"hayloft/pack"
	"hayloft/pipe"
)

// kinds is chapter 3's table: each kind's name, and the fields that count, in the order in which they are told.
var kinds = [][2]string{{"nop", ""}, {"const", "DI"}, {"add", "DAB"}, {"sub", "DAB"}, {"and", "DAB"}, {"or", "DAB"}, {"xor", "DAB"}, {"shl", "DAB"},
	{"shr", "DAB"}, {"less", "DAB"}, {"equal", "DAB"}, {"move", "DA"}, {"times", "DAB"}, {"divide", "DAB"}, {"rest", "DAB"}, {"load", "DAI"},
	{"store", "ABI"}, {"print", "A"}, {"jump", "I"}, {"branch", "AI"}, {"halt", "A"}, {"count", "AI"}, {"short", "ABI"}, {"again", "I"}}

// opOf answers an operation of that kind, with those of the fields that count with it.
func opOf(do int, d, a, b uint8, imm int64) api.Op {
	o := api.Op{Do: int8(do)}
	for _, field := range kinds[do][1] {
		switch field {
		case 'D':
			o.D = d
		case 'A':
			o.A = a
		case 'B':
			o.B = b
		case 'I':
			o.Imm = imm
		}
	}
	return o
}

// readOp answers the operation that is told so.
func readOp(t testing.TB, text string) api.Op {
	t.Helper()
	words := strings.Fields(text)
	do := slices.IndexFunc(kinds, func(k [2]string) bool { return k[0] == words[0] })
	values := map[rune]int64{}
	for n, field := range kinds[do][1] {
		values[field], _ = strconv.ParseInt(strings.TrimPrefix(words[n+1], "r"), 10, 64)
	}
	o := opOf(do, uint8(values['D']), uint8(values['A']), uint8(values['B']), values['I'])
	if back, e := ops.Text(o); e != api.OK || back != text {
		t.Fatalf("%q is read as %v, %q, %v", text, o, back, e)
	}
	return o
}

// read answers bundles, a line each; operations have a comma between.
func read(t testing.TB, lines ...string) []api.Bundle {
	t.Helper()
	l := make([]api.Bundle, len(lines))
	for n, line := range lines {
		for _, text := range strings.Split(line, ", ") {
			if text != "" {
				o := readOp(t, text)
				class, _ := ops.Class(o.Do)
				l[n].Ops[class] = append(l[n].Ops[class], o)
			}
		}
	}
	return l
}

// packed answers bundles as words, with a tag of its own for each operation, be it one that no packer makes.
func packed(t testing.TB, m api.Table, l []api.Bundle) api.Packed {
	t.Helper()
	w, e := bundle.Encode(l, m)
	if e != api.OK {
		t.Fatal(m, l, e)
	}
	k := api.Packed{Words: w, Begins: []int{-5}}
	for n, b := range l {
		var row []api.Tag
		for _, list := range b.Ops {
			for range list {
				row = append(row, api.Tag{Block: n - 3, Loop: n%2 == 0, Op: 7 - len(row), Spec: len(row)%3 == 1})
			}
		}
		k.Tags = append(k.Tags, row)
	}
	return k
}

func ones() api.Table {
	return api.Table{Units: [api.Classes]int{1, 1, 1, 1}, Lat: [api.Classes]int{1, 1, 1, 1}, Busy: [api.Classes]int{1, 1, 1, 1}}
}

func units(m api.Table, alu, mul, mem, ctl int) api.Table {
	m.Units = [api.Classes]int{alu, mul, mem, ctl}
	return m
}

func lats(m api.Table, alu, mul, mem, ctl int) api.Table {
	m.Lat = [api.Classes]int{alu, mul, mem, ctl}
	return m
}

func busies(m api.Table, alu, mul, mem, ctl int) api.Table {
	m.Busy = [api.Classes]int{alu, mul, mem, ctl}
	return m
}

func delayed(m api.Table, delay int) api.Table {
	m.Delay = delay
	return m
}

// The table of chapter 22's examples.
func example() api.Table { return delayed(lats(ones(), 1, 3, 2, 1), 1) }

// wide is a table with room for many operations in a bundle.
func wide() api.Table { return units(example(), 8, 8, 8, 8) }

func regs(l ...int64) api.State { return api.State{Regs: l} }

// same answers whether two outcomes are one, be an empty list nil or not.
func same(a, b api.Outcome) bool {
	return a.E == b.E && a.Value == b.Value && a.Steps == b.Steps && slices.Equal(a.Prints, b.Prints) && slices.Equal(a.Mem, b.Mem)
}

// outcomeOf answers what chapter 22's machine tells of a run.
func outcomeOf(t testing.TB, w []uint64, m api.Table, s api.State, cycles int) api.Outcome {
	t.Helper()
	p, e := pipe.New(w, m, s)
	if e != api.OK {
		t.Fatal(e)
	}
	return p.Run(cycles)
}

// told is issues without their tags: the cycle, the bundle, the operation.
func told(l []api.Issue) []string {
	var texts []string
	for _, i := range l {
		text, _ := ops.Text(i.Op)
		texts = append(texts, fmt.Sprintf("%d %d %s", i.Cycle, i.At, text))
	}
	return texts
}

// wantRun says which issues a run has, as told tells them, and that each has the tag of its place, and the outcome is pipe's.
func wantRun(t testing.TB, m api.Table, s api.State, cycles int, lines, want []string) api.Outcome {
	t.Helper()
	l := read(t, lines...)
	k := packed(t, m, l)
	issues, o, e := Run(k, m, s, cycles)
	if e != api.OK || !slices.Equal(told(issues), want) {
		t.Errorf("Run(%q, %v, %d) is %q, %v, want %q", lines, s, cycles, told(issues), e, want)
		return o
	}
	slot := map[[2]int]int{} // by cycles and bundles
	for _, i := range issues {
		at := [2]int{i.Cycle, i.At}
		if i.Tag != k.Tags[i.At][slot[at]] {
			t.Errorf("Run(%q, %v, %d): %v, want the tag %v", lines, s, cycles, i, k.Tags[i.At][slot[at]])
		}
		slot[at]++
	}
	if pipes := outcomeOf(t, k.Words, m, s, min(cycles, 1<<16)); !same(o, pipes) {
		t.Errorf("Run(%q, %v, %d): %v, want %v", lines, s, cycles, o, pipes)
	}
	return o
}

// The bundles of chapter 22's examples, issue by issue.
func TestRunOfChapterExamples(t *testing.T) {
	s := regs(0, 2, 3)
	wantRun(t, example(), s, 100, []string{"times r1 r1 r2", "print r1", "", "print r1", "halt r1"},
		[]string{"0 0 times r1 r1 r2", "1 1 print r1", "3 3 print r1", "4 4 halt r1"})
	wantRun(t, example(), s, 100, []string{"jump 3", "print r1", "print r2", "halt r2"}, []string{"0 0 jump 3", "1 1 print r1", "2 3 halt r2"})
	wantRun(t, example(), s, 100, []string{"divide r1 r1 r0, halt r1"}, []string{"0 0 divide r1 r1 r0"})
	wantRun(t, example(), s, 100, []string{"add r1 r2 r2"}, []string{"0 0 add r1 r2 r2"})
	wantRun(t, example(), s, 100, []string{"count r2 0", "print r1, again 1", "", "halt r0"}, []string{"0 0 count r2 0", "1 1 print r1", "1 1 again 1",
		"3 1 print r1", "3 1 again 1", "5 1 print r1", "5 1 again 1", "7 3 halt r0"})
}

// The tags of a program that was packed: what was done early is told by its own block, its number in it, and Spec.
func TestRunOfAPackedProgram(t *testing.T) {
	p := api.Program{Blocks: []api.Block{
		{Ops: []api.Op{readOp(t, "const r1 2")}, End: api.EndBranch, A: 2, Then: 2, Else: 1},
		{End: api.EndHalt, A: 3},
		{Ops: []api.Op{readOp(t, "const r4 1"), readOp(t, "print r1")}, End: api.EndLoop, A: 1, Body: []api.Op{readOp(t, "add r3 r3 r1")}, Then: 1},
	}}
	m := delayed(ones(), 1)
	k, e := pack.Pack(p, m)
	if e != api.OK {
		t.Fatal(e)
	}
	early, own, body := api.Tag{Block: 2, Spec: true}, api.Tag{Block: 2, Op: 1}, api.Tag{Block: 2, Loop: true}
	for way, want := range [][]api.Tag{{{}, {Op: -1}, early, {Op: -1}, {Block: 1, Op: -1}},
		{{}, {Op: -1}, early, own, {Block: 2, Op: -1}, {Block: 2, Op: -1}, body, {Block: 2, Op: -1}, body, {Block: 2, Op: -1}, {Block: 2, Op: -1}, {Block: 1, Op: -1}}} {
		l, o, e := Run(k, m, regs(0, 0, int64(way)), 100)
		var tags []api.Tag
		for _, i := range l {
			tags = append(tags, i.Tag)
		}
		if e != api.OK || !slices.Equal(tags, want) || !same(o, outcomeOf(t, k.Words, m, regs(0, 0, int64(way)), 100)) || o.Value != int64(4*way) {
			t.Errorf("%q: %v, %v, %v, want %v", told(l), tags, o, e, want)
		}
	}
}

// In a cycle issues stand in the order of the slots: class by class, and in a class as they stand in the bundle.
func TestRunGoesByCyclesAndSlots(t *testing.T) {
	wantRun(t, wide(), regs(0, 2, 3), 100, []string{"count r1 0, print r2, short r1 1 0, print r1, times r4 r1 r1, load r5 r0 0, add r6 r1 r1, rest r7 r1 r2, const r6 1", "", "halt r1, halt r2"},
		[]string{"0 0 add r6 r1 r1", "0 0 const r6 1", "0 0 times r4 r1 r1", "0 0 rest r7 r1 r2", "0 0 print r2", "0 0 print r1", "0 0 load r5 r0 0",
			"0 0 count r1 0", "0 0 short r1 1 0", "2 2 halt r1"})
}

// What ended the run is issued, what stands behind it is not; what stands ahead of it is.
func TestRunEndsWithinABundle(t *testing.T) {
	m, s := wide(), regs(0, 2, 3)
	for _, trap := range []string{"divide r5 r1 r0", "rest r5 r1 r0", "divide r5 r0 r0"} {
		o := wantRun(t, m, s, 100, []string{"print r2", "const r4 9, divide r6 r1 r2, rest r6 r1 r2, " + trap + ", times r7 r1 r2, rest r8 r1 r0, load r9 r0 0, print r1, jump 0, halt r2", "halt r1"},
			[]string{"0 0 print r2", "1 1 const r4 9", "1 1 divide r6 r1 r2", "1 1 rest r6 r1 r2", "1 1 " + trap})
		if o.E != api.ErrDivide || o.Steps != 2 {
			t.Error(o)
		}
	}
	o := wantRun(t, m, s, 100, []string{"const r4 9, times r5 r1 r2, print r1, jump 5, short r1 0 0, halt r4, halt r1, jump 7", "print r2"},
		[]string{"0 0 const r4 9", "0 0 times r5 r1 r2", "0 0 print r1", "0 0 jump 5", "0 0 short r1 0 0", "0 0 halt r4"})
	if o.E != api.OK || o.Value != 0 || o.Steps != 1 {
		t.Error(o)
	}
	// It is what the divisor is now that counts, not what is in flight to it.
	m = lats(m, 2, 1, 1, 1)
	wantRun(t, m, regs(0, 2), 100, []string{"const r1 0", "divide r3 r1 r1", "divide r3 r1 r1, print r1", "halt r1"}, []string{"0 0 const r1 0", "1 1 divide r3 r1 r1", "2 2 divide r3 r1 r1"})
	wantRun(t, m, regs(0, 0), 100, []string{"const r1 2", "", "divide r3 r1 r1", "halt r1"}, []string{"0 0 const r1 2", "2 2 divide r3 r1 r1", "3 3 halt r1"})
	wantRun(t, m, regs(0, 0), 100, []string{"const r1 2", "divide r3 r1 r1", "halt r1"}, []string{"0 0 const r1 2", "1 1 divide r3 r1 r1"})
}

// Where a run finds no bundle nothing is issued.
func TestRunFindsNoBundle(t *testing.T) {
	for _, away := range []string{"-1", "3", "65536", "2147483647", "-2147483648"} {
		o := wantRun(t, example(), regs(0, 2), 100, []string{"jump " + away, "print r1", "print r1"}, []string{"0 0 jump " + away, "1 1 print r1"})
		if o.E != api.ErrNone || o.Steps != 2 {
			t.Error(o)
		}
	}
	wantRun(t, example(), regs(0, 2), 3, []string{"print r1", "jump 0"}, []string{"0 0 print r1", "1 1 jump 0"})
}

// Turns go where the last of a bundle's that are done goes, 1 + Delay cycles later, by what registers hold as they are issued.
func TestRunTurns(t *testing.T) {
	s := regs(0, 1, 2, 3)
	for delay := range api.MaxDelay + 1 {
		m := delayed(wide(), delay)
		for _, c := range []struct {
			turns string
			goes  bool
		}{
			{"jump 6", true}, {"branch r1 6", true}, {"branch r0 6", false}, {"short r1 1 6", false}, {"short r1 2 6", true}, {"short r2 2 6", false}, {"short r0 31 6", true},
			{"again 6", false}, {"count r1 0, again 6", false}, {"count r2 0, again 6", true}, {"count r2 1, again 6", false}, {"count r2 0, again 6, again 6", true},
			{"jump 7, jump 6", true}, {"jump 7, branch r0 6, branch r1 6", true}, {"again 6, again 6, count r2 0, again 6", true}, {"count r2 0, count r1 0, again 6", false},
			{"count r1 -1, again 6", true}, {"const r0 1, branch r0 6", false}, {"const r1 0, branch r1 6", true}, {"count r2 0, again 7, again 5, jump 6", true},
		} {
			lines := append([]string{c.turns}, make([]string, 8)...)
			lines[5], lines[6] = "halt r2", "halt r3"
			k := packed(t, m, read(t, lines...))
			l, o, e := Run(k, m, s, 100)
			want := api.Issue{Cycle: 5, At: 5, Op: readOp(t, "halt r2"), Tag: k.Tags[5][0]}
			if c.goes {
				want = api.Issue{Cycle: 1 + delay, At: 6, Op: readOp(t, "halt r3"), Tag: k.Tags[6][0]}
			}
			if e != api.OK || o.E != api.OK || l[len(l)-1] != want {
				t.Errorf("%s, delay %d: %q, %v, %v", c.turns, delay, told(l), o.E, e)
			}
		}
	}
	// One turn in the bundles behind another one.
	wantRun(t, delayed(wide(), 2), s, 8, []string{"jump 4", "jump 6, print r1", "print r2", "halt r0", "print r3", "halt r0", "jump 0", "", ""},
		[]string{"0 0 jump 4", "1 1 print r1", "1 1 jump 6", "2 2 print r2", "3 4 print r3", "4 6 jump 0", "7 0 jump 4"})
}

// A counter is reckoned as numbers are, without wrapping round, and read when it is set.
func TestRunCounts(t *testing.T) {
	for _, c := range []struct {
		a    int64
		imm  string
		want int // rounds: one at least, as the first is there anyhow
	}{
		{3, "0", 3}, {1, "0", 1}, {0, "0", 1}, {-1, "0", 1}, {math.MinInt64, "0", 1}, {10, "7", 3}, {10, "11", 1}, {0, "-4", 4}, {-2, "-6", 4}, {-7, "-6", 1},
		{-2147483645, "-2147483648", 3}, {2147483650, "2147483647", 3}, {math.MinInt64, "1", 1}, {math.MinInt64 + 5, "6", 1}, {math.MinInt64, "2147483647", 1},
		{math.MaxInt64, "0", 50}, {math.MaxInt64, "-1", 50}, {math.MaxInt64, "-2147483648", 50}, {math.MaxInt64 - 3, "-4", 50}, {math.MaxInt64, "2147483647", 50},
	} {
		want := []string{"0 0 count r1 " + c.imm}
		for n := range c.want {
			want = append(want, fmt.Sprintf("%d 1 again 1", n+1))
		}
		if c.want < 50 {
			want = append(want, fmt.Sprintf("%d 2 halt r1", c.want+1))
		}
		wantRun(t, delayed(wide(), 0), regs(0, c.a), 51, []string{"count r1 " + c.imm, "again 1", "halt r1"}, want)
	}
	// It holds on behind what came between, and begins at 0; below that it does not come up again.
	wantRun(t, delayed(wide(), 0), regs(0, 2), 100, []string{"again 0, again 0", "count r1 0", "again 2", "halt r0"},
		[]string{"0 0 again 0", "0 0 again 0", "1 1 count r1 0", "2 2 again 2", "3 2 again 2", "4 3 halt r0"})
}

// As many cycles as are asked for, brought into 0 to 2^16.
func TestRunOfManyCycles(t *testing.T) {
	m := delayed(ones(), 0)
	k := packed(t, m, read(t, "print r1, jump 0"))
	for _, c := range [][2]int{{math.MinInt, 0}, {-1, 0}, {0, 0}, {1, 1}, {2, 2}, {1<<16 - 1, 1<<16 - 1}, {1 << 16, 1 << 16}, {1<<16 + 1, 1 << 16}, {1 << 20, 1 << 16}, {1 << 40, 1 << 16}, {math.MaxInt, 1 << 16}} {
		l, o, e := Run(k, m, regs(0, 5), c[0])
		if e != api.OK || len(l) != 2*c[1] || o.E != api.ErrFuel || o.Steps != c[1] || len(o.Prints) != c[1] {
			t.Errorf("Run of %d: %d issues, %v, %d steps, %v", c[0], len(l), o.E, o.Steps, e)
		}
		if len(l) > 0 && (l[len(l)-1].Cycle != c[1]-1 || l[len(l)-2].Tag != k.Tags[0][0] || l[len(l)-1].Tag != k.Tags[0][1]) {
			t.Errorf("Run of %d: the last is %v", c[0], l[len(l)-1])
		}
	}
	// What ends in the last of them has ended.
	lines := []string{"print r1", "", "halt r1"}
	wantRun(t, m, regs(0, 5), 2, lines, []string{"0 0 print r1"})
	if o := wantRun(t, m, regs(0, 5), 3, lines, []string{"0 0 print r1", "2 2 halt r1"}); o.E != api.OK {
		t.Error(o)
	}
	// Where it ends does not hang on how many are left.
	for _, cycles := range []int{4, 100, 1 << 16, math.MaxInt} {
		wantRun(t, m, regs(0, 5), cycles, lines, []string{"0 0 print r1", "2 2 halt r1"})
		wantRun(t, m, regs(0, 5), cycles, lines[:2], []string{"0 0 print r1"})
	}
}

// As much as a run can print.
func TestRunOfManyPrints(t *testing.T) {
	m := delayed(units(ones(), 1, 1, 8, 1), 0)
	k := packed(t, m, read(t, "print r1, print r1, print r1, print r1, print r1, print r1, print r1, print r1, jump 0"))
	l, o, e := Run(k, m, regs(0, 5), 1<<16)
	if e != api.OK || len(l) != 9<<16 || len(o.Prints) != 8<<16 || l[len(l)-2].Tag != k.Tags[0][7] {
		t.Errorf("%d issues, %d prints, %v", len(l), len(o.Prints), e)
	}
}

func TestRunOfNoWords(t *testing.T) {
	for _, m := range []api.Table{ones(), units(ones(), 0, 0, 0, 0), wide()} {
		for cycles, want := range map[int]api.Errno{0: api.ErrFuel, -1: api.ErrFuel, 1: api.ErrNone, 100: api.ErrNone} {
			for _, k := range []api.Packed{{}, {Words: []uint64{}, Tags: [][]api.Tag{}}, {Begins: []int{0, 1}}} {
				l, o, e := Run(k, m, regs(1), cycles)
				if e != api.OK || len(l) != 0 || !same(o, api.Outcome{E: want}) {
					t.Errorf("Run of no words, %d: %v, %v, %v", cycles, l, o, e)
				}
			}
			l, o, e := Run(api.Packed{Tags: [][]api.Tag{nil}}, m, regs(1), cycles)
			wantRefused(t, l, o, e, api.ErrArg)
		}
	}
	// Bundles that are all empty.
	wantRun(t, ones(), regs(1), 100, []string{"", "", ""}, nil)
}

func wantRefused(t testing.TB, l []api.Issue, o api.Outcome, e, want api.Errno) {
	t.Helper()
	if e != want || l != nil || !same(o, api.Outcome{}) || o.Prints != nil || o.Mem != nil {
		t.Errorf("%v, %v, %v, want %v", l, o, e, want)
	}
}

// Of several errors the one that is asked first is answered.
func TestRunRefuses(t *testing.T) {
	m := example()
	good := packed(t, m, read(t, "add r1 r2 r3, print r1", "", "halt r1"))
	type fault func(k *api.Packed, m *api.Table, s *api.State)
	faults := []struct {
		e    api.Errno
		each []fault
	}{
		{api.ErrTable, []fault{
			func(k *api.Packed, m *api.Table, s *api.State) { m.Lat[api.Mul] = 0 },
			func(k *api.Packed, m *api.Table, s *api.State) { m.Units[api.Alu] = api.MaxUnits + 1 },
			func(k *api.Packed, m *api.Table, s *api.State) { m.Delay = -1 },
		}},
		{api.ErrBadBundle, []fault{
			func(k *api.Packed, m *api.Table, s *api.State) { k.Words = k.Words[:len(k.Words)-1] },
			func(k *api.Packed, m *api.Table, s *api.State) { k.Words = append(k.Words, 0) },
			func(k *api.Packed, m *api.Table, s *api.State) { m.Units = [api.Classes]int{} },
		}},
		{api.ErrLong, []fault{func(k *api.Packed, m *api.Table, s *api.State) {
			k.Words = append(k.Words, make([]uint64, 4*api.MaxCycles)...)
		}}},
		{api.ErrBadBundle, []fault{
			func(k *api.Packed, m *api.Table, s *api.State) { k.Words[1] = 24 },
			func(k *api.Packed, m *api.Table, s *api.State) { k.Words[0] |= 1 << 54 },
			func(k *api.Packed, m *api.Table, s *api.State) { k.Words[1] = k.Words[0] },
		}},
		{api.ErrArg, []fault{
			func(k *api.Packed, m *api.Table, s *api.State) { s.Regs = make([]int64, 33) },
			func(k *api.Packed, m *api.Table, s *api.State) { s.Mem = make([]int64, 257) },
		}},
		{api.ErrArg, []fault{
			func(k *api.Packed, m *api.Table, s *api.State) { k.Tags = k.Tags[:2] },
			func(k *api.Packed, m *api.Table, s *api.State) { k.Tags = append(k.Tags, nil) },
			func(k *api.Packed, m *api.Table, s *api.State) { k.Tags = nil },
			func(k *api.Packed, m *api.Table, s *api.State) { k.Tags[0] = k.Tags[0][:1] },
			func(k *api.Packed, m *api.Table, s *api.State) { k.Tags[0] = append(k.Tags[0], api.Tag{}) },
			func(k *api.Packed, m *api.Table, s *api.State) { k.Tags[1] = []api.Tag{{}} },
			func(k *api.Packed, m *api.Table, s *api.State) { k.Tags[2] = nil },
			func(k *api.Packed, m *api.Table, s *api.State) { // as many in all
				k.Tags[0], k.Tags[1] = k.Tags[0][:1], k.Tags[0][1:]
			},
		}},
	}
	none := fault(func(k *api.Packed, m *api.Table, s *api.State) {})
	for n, first := range faults {
		others := []fault{none}
		for _, later := range faults[n+1:] {
			others = append(others, later.each...)
		}
		for _, f := range first.each {
			for _, other := range others {
				k := api.Packed{Words: slices.Clone(good.Words)}
				for _, row := range good.Tags {
					k.Tags = append(k.Tags, slices.Clone(row))
				}
				table, s := m, regs(1, 2, 3)
				other(&k, &table, &s)
				f(&k, &table, &s)
				for _, cycles := range []int{0, -1, 100} {
					l, o, e := Run(k, table, s, cycles)
					wantRefused(t, l, o, e, first.e)
				}
			}
		}
	}
	// Up to the bounds nothing is refused.
	if l, o, e := Run(good, m, api.State{Regs: make([]int64, 32), Mem: make([]int64, 256)}, 100); e != api.OK || len(l) != 3 || o.E != api.OK {
		t.Error(l, o, e)
	}
	// Every word and every list of words is refused as bundle.Decode refuses it.
	for _, w := range [][]uint64{{1}, {0, 0, 0}, {24, 0, 0, 0}, {1 << 63, 0, 0, 0}, {0, 0, 0, 200770}} {
		_, want := bundle.Decode(w, m)
		l, o, e := Run(api.Packed{Words: w, Tags: [][]api.Tag{nil}}, m, regs(), 5)
		wantRefused(t, l, o, e, want)
	}
}
