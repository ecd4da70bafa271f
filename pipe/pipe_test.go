package pipe

import (
	"fmt"
	"math"
	"slices"
	"strconv"
	"strings"
	"testing"

	"hayloft/api"
	"hayloft/bundle"
	"hayloft/ops"
)

// kinds is chapter 3's table: each kind's name, and the fields that count, in the order in which they are told.
var kinds = [][2]string{{"nop", ""}, {"const", "DI"}, {"add", "DAB"}, {"sub", "DAB"}, {"and", "DAB"}, {"or", "DAB"}, {"xor", "DAB"}, {"shl", "DAB"},
	{"shr", "DAB"}, {"less", "DAB"}, {"equal", "DAB"}, {"move", "DA"}, {"times", "DAB"}, {"divide", "DAB"}, {"rest", "DAB"}, {"load", "DAI"},
	{"store", "ABI"}, {"print", "A"}, {"jump", "I"}, {"branch", "AI"}, {"halt", "A"}, {"count", "AI"}, {"short", "ABI"}, {"again", "I"}}

// opOf answers an operation of that kind, with those of the fields that count with it.
func opOf(do int, d, a, b uint8, imm int64) api.Op {
	o := api.Op{Do: int8(do)}
	for _, field := range kinds[do][1] {
		switch field {
		case 'D':
			o.D = d
		case 'A':
			o.A = a
		case 'B':
			o.B = b
		case 'I':
			o.Imm = imm
		}
	}
	return o
}

// readOp answers the operation that is told so.
func readOp(t testing.TB, text string) api.Op {
	t.Helper()
	words := strings.Fields(text)
	do := slices.IndexFunc(kinds, func(k [2]string) bool { return k[0] == words[0] })
	values := map[rune]int64{}
	for n, field := range kinds[do][1] {
		values[field], _ = strconv.ParseInt(strings.TrimPrefix(words[n+1], "r"), 10, 64)
	}
	o := opOf(do, uint8(values['D']), uint8(values['A']), uint8(values['B']), values['I'])
	if back, e := ops.Text(o); e != api.OK || back != text {
		t.Fatalf("%q is read as %v, %q, %v", text, o, back, e)
	}
	return o
}

// read answers a bundle, whose operations have a comma between.
func read(t testing.TB, line string) api.Bundle {
	t.Helper()
	var b api.Bundle
	for _, text := range strings.Split(line, ", ") {
		if text != "" {
			o := readOp(t, text)
			class, _ := ops.Class(o.Do)
			b.Ops[class] = append(b.Ops[class], o)
		}
	}
	return b
}

func words(t testing.TB, m api.Table, lines ...string) []uint64 {
	t.Helper()
	var l []api.Bundle
	for _, line := range lines {
		l = append(l, read(t, line))
	}
	w, e := bundle.Encode(l, m)
	if e != api.OK {
		t.Fatal(m, lines, e)
	}
	return w
}

func machine(t testing.TB, m api.Table, s api.State, lines ...string) *Machine {
	t.Helper()
	p, e := New(words(t, m, lines...), m, s)
	if e != api.OK || p == nil {
		t.Fatalf("New of %v, %v is %v, %v", m, lines, p, e)
	}
	return p
}

func ones() api.Table {
	return api.Table{Units: [api.Classes]int{1, 1, 1, 1}, Lat: [api.Classes]int{1, 1, 1, 1}, Busy: [api.Classes]int{1, 1, 1, 1}}
}

func units(m api.Table, alu, mul, mem, ctl int) api.Table {
	m.Units = [api.Classes]int{alu, mul, mem, ctl}
	return m
}

func lats(m api.Table, alu, mul, mem, ctl int) api.Table {
	m.Lat = [api.Classes]int{alu, mul, mem, ctl}
	return m
}

func delayed(m api.Table, delay int) api.Table {
	m.Delay = delay
	return m
}

// The chapter's table.
func example() api.Table { return delayed(lats(ones(), 1, 3, 2, 1), 1) }

// wide is a table with room for many operations in a bundle.
func wide() api.Table { return units(example(), 8, 8, 8, 8) }

func regs(l ...int64) api.State { return api.State{Regs: l} }

func halted(value int64, steps int, printed ...int64) api.Outcome {
	return api.Outcome{Value: value, Steps: steps, Prints: printed}
}

func trapped(steps int, printed ...int64) api.Outcome {
	return api.Outcome{E: api.ErrDivide, Steps: steps, Prints: printed}
}

func lost(steps int, printed ...int64) api.Outcome {
	return api.Outcome{E: api.ErrNone, Steps: steps, Prints: printed}
}

func fuel(steps int, printed ...int64) api.Outcome {
	return api.Outcome{E: api.ErrFuel, Steps: steps, Prints: printed}
}

// same answers whether two outcomes are one, be an empty list nil or not.
func same(a, b api.Outcome) bool {
	return a.E == b.E && a.Value == b.Value && a.Steps == b.Steps && slices.Equal(a.Prints, b.Prints) && slices.Equal(a.Mem, b.Mem)
}

func sameState(a, b api.State) bool {
	return slices.Equal(a.Regs, b.Regs) && slices.Equal(a.Mem, b.Mem)
}

// wantOutcome says that a machine told that; the memory of one that halted is what it holds.
func wantOutcome(t testing.TB, p *Machine, got, want api.Outcome) {
	t.Helper()
	if want.E == api.OK {
		want.Mem = p.State().Mem
	}
	if !same(got, want) {
		t.Errorf("%v, want %v", told(got), told(want))
	}
}

// told is an outcome without those cells that are 0.
func told(o api.Outcome) string {
	text := fmt.Sprintf("%v, value %d, %d steps, prints %v, %d cells", o.E, o.Value, o.Steps, o.Prints, len(o.Mem))
	for n, value := range o.Mem {
		if value != 0 {
			text += fmt.Sprintf(" %d:%d", n, value)
		}
	}
	return text
}

// wantRun says what becomes of a run of a 1000 cycles.
func wantRun(t testing.TB, m api.Table, s api.State, want api.Outcome, lines ...string) *Machine {
	t.Helper()
	p := machine(t, m, s, lines...)
	wantOutcome(t, p, p.Run(1000), want)
	return p
}

func wantFlying(t testing.TB, p *Machine, want ...uint8) {
	t.Helper()
	if got := p.Flying(); !slices.Equal(got, want) {
		t.Errorf("flying %v, want %v", got, want)
	}
}

func TestChapterExamples(t *testing.T) {
	s := regs(0, 2, 3)
	wantRun(t, example(), s, halted(6, 5, 2, 6), "times r1 r1 r2", "print r1", "", "print r1", "halt r1")
	wantRun(t, example(), s, halted(3, 3, 2), "jump 3", "print r1", "print r2", "halt r2")
	wantRun(t, example(), s, trapped(1), "divide r1 r1 r0, halt r1")
	wantRun(t, example(), s, lost(1), "add r1 r2 r2")
	wantRun(t, example(), s, halted(0, 8, 2, 2, 2), "count r2 0", "print r1, again 1", "", "halt r0")
}

// An example of the whole: who reads r2 in the two cycles behind a Times of latency 3 reads what was there.
func TestExampleOfTheWhole(t *testing.T) {
	m := lats(ones(), 1, 3, 1, 1)
	wantRun(t, m, regs(0, 0, 7), halted(16, 5, 7, 7), "const r1 4", "times r2 r1 r1", "print r2", "print r2", "halt r2")
}

func TestNewRefuses(t *testing.T) {
	good := words(t, example(), "add r1 r2 r3", "halt r1")
	noTable := example()
	noTable.Lat[api.Mul] = 0
	tooWide := example()
	tooWide.Units[api.Alu] = api.MaxUnits + 1
	nop := make([]uint64, 4*(api.MaxCycles+1))
	manyRegs, manyCells := api.State{Regs: make([]int64, 33)}, api.State{Mem: make([]int64, 257)}
	for _, c := range []struct {
		w    []uint64
		m    api.Table
		s    api.State
		want api.Errno
	}{
		{good, noTable, api.State{}, api.ErrTable},
		{good, tooWide, api.State{}, api.ErrTable},
		{good, api.Table{}, api.State{}, api.ErrTable},
		{nil, delayed(example(), api.MaxDelay+1), api.State{}, api.ErrTable},
		{good[:7], noTable, manyRegs, api.ErrTable},
		{nop, noTable, manyCells, api.ErrTable},
		{good[:7], example(), api.State{}, api.ErrBadBundle},
		{good[:7], example(), manyRegs, api.ErrBadBundle},
		{good[1:], example(), api.State{}, api.ErrBadBundle},
		{good, units(example(), 0, 0, 0, 0), api.State{}, api.ErrBadBundle},
		{good, units(example(), 1, 1, 1, 0), api.State{}, api.ErrBadBundle},
		{[]uint64{0, good[0], 0, 0}, example(), api.State{}, api.ErrBadBundle},       // of another class
		{[]uint64{good[0] | 1<<53, 0, 0, 0}, example(), manyCells, api.ErrBadBundle}, // the 54th bit set
		{[]uint64{0, good[0], 0, 0, 0}, units(ones(), 2, 1, 1, 1), manyRegs, 210},    // a 0 ahead of it
		{[]uint64{63, 0, 0, 0}, example(), api.State{}, api.ErrBadBundle},            // no kind
		{nop, example(), api.State{}, api.ErrLong},                                   // too many bundles
		{nop, example(), manyRegs, api.ErrLong},                                      //
		{append(slices.Clone(nop), 63, 0, 0, 0), example(), manyCells, api.ErrLong},  // though one is none
		{append(slices.Clone(nop), 0), example(), manyCells, api.ErrBadBundle},       // not even whole ones
		{good, example(), manyRegs, api.ErrArg},
		{good, example(), manyCells, api.ErrArg},
		{good, example(), api.State{Regs: manyRegs.Regs, Mem: manyCells.Mem}, api.ErrArg},
		{nil, example(), api.State{Regs: make([]int64, 1000)}, api.ErrArg},
		{nil, units(example(), 0, 0, 0, 0), api.State{Mem: make([]int64, 1000)}, api.ErrArg},
	} {
		if p, e := New(c.w, c.m, c.s); p != nil || e != c.want {
			t.Errorf("New of %d words, %v, %d registers, %d cells is %v, %v, want %v", len(c.w), c.m, len(c.s.Regs), len(c.s.Mem), p, e, c.want)
		}
	}
}

// numbers answers so many, the first of them first.
func numbers(count int, first int64) []int64 {
	l := make([]int64, count)
	for n := range l {
		l[n] = first + int64(n)
	}
	return l
}

func TestNewTakes(t *testing.T) {
	for _, count := range [][2]int{{32, 256}, {31, 255}, {32, 0}, {0, 256}, {1, 1}, {0, 0}} {
		s := api.State{Regs: numbers(count[0], 5), Mem: numbers(count[1], -9)}
		p := machine(t, example(), s, "halt r0")
		want := api.State{Regs: make([]int64, 32), Mem: make([]int64, 256)}
		copy(want.Regs, s.Regs)
		copy(want.Mem, s.Mem)
		if got := p.State(); !sameState(got, want) {
			t.Errorf("state %v, want %v", got, want)
		}
		wantFlying(t, p)
		wantOutcome(t, p, p.Run(1), halted(want.Regs[0], 1))
	}
	// As many bundles as there may be, the last of them too.
	lines := make([]string, api.MaxCycles)
	lines[api.MaxCycles-1] = "halt r1"
	p := machine(t, units(example(), 0, 0, 0, 1), regs(0, 6), lines...)
	wantOutcome(t, p, p.Run(api.MaxSteps), halted(6, api.MaxCycles))
	p = machine(t, delayed(units(example(), 0, 0, 1, 1), 0), regs(0, 6), append([]string{"jump 65535"}, lines[1:]...)...)
	wantOutcome(t, p, p.Run(api.MaxSteps), halted(6, 2))
}

func TestNoWords(t *testing.T) {
	for _, m := range []api.Table{example(), units(example(), 0, 0, 0, 0), wide()} {
		for _, w := range [][]uint64{nil, {}} {
			p, e := New(w, m, regs(7))
			if e != api.OK {
				t.Fatal(m, e)
			}
			wantOutcome(t, p, p.Run(0), fuel(0))
			wantOutcome(t, p, p.Run(1), lost(0))
			wantOutcome(t, p, p.Run(5), lost(0))
			wantFlying(t, p)
			if s := p.State(); s.Regs[0] != 7 {
				t.Error(s)
			}
		}
	}
}

// results is for each kind that writes a register what comes of it, where r1 is -7, r2 is 2, r3 is 0, r4 is 66, cell 9 is 40 and cell 249 is 41.
var results = []struct {
	text string
	want int64
}{
	{"const r5 -8", -8}, {"const r5 2147483647", math.MaxInt32}, {"const r5 -2147483648", math.MinInt32},
	{"add r5 r1 r2", -5}, {"sub r5 r1 r2", -9}, {"and r5 r1 r2", 0}, {"and r5 r1 r4", 64}, {"or r5 r1 r2", -5}, {"xor r5 r1 r2", -5},
	{"shl r5 r1 r2", -28}, {"shl r5 r1 r4", -28}, {"shr r5 r1 r2", -2}, {"shr r5 r1 r4", -2},
	{"less r5 r1 r2", 1}, {"less r5 r2 r1", 0}, {"equal r5 r1 r1", 1}, {"equal r5 r1 r2", 0}, {"move r5 r1", -7},
	{"times r5 r1 r2", -14}, {"divide r5 r1 r2", -3}, {"rest r5 r1 r2", -1}, {"divide r5 r3 r1", 0},
	{"load r5 r1 16", 40}, {"load r5 r1 0", 41}, {"load r5 r2 7", 40}, {"load r5 r1 -240", 40},
}

func resultsState() api.State {
	s := api.State{Regs: []int64{0, -7, 2, 0, 66, 1234}, Mem: make([]int64, 250)}
	s.Mem[9], s.Mem[249] = 40, 41
	return s
}

// Every operation that has a result, in a bundle of its own and among others, which have results of their own.
func TestResults(t *testing.T) {
	for _, c := range results {
		o := readOp(t, c.text)
		class, _ := ops.Class(o.Do)
		lat := example().Lat[class]
		for _, line := range []string{c.text, "const r20 1, " + c.text, c.text + ", const r20 1, times r21 r2 r2, load r22 r0 9, jump 1",
			"move r21 r5, times r22 r5 r2, load r23 r0 9, print r5, store r5 r5 0, " + c.text + ", add r24 r5 r5, rest r25 r5 r2, print r5, load r26 r0 9"} {
			p := machine(t, wide(), resultsState(), line, "", "", "", "")
			for cycle := range 5 {
				want := int64(1234)
				if cycle > lat {
					want = c.want
				}
				if got := p.State().Regs[5]; got != want {
					t.Errorf("%q, ahead of cycle %d: %d, want %d", line, cycle, got, want)
				}
				if got := slices.Contains(p.Flying(), 5); got != (cycle > 0 && cycle <= lat) {
					t.Errorf("%q, ahead of cycle %d: in flight %v", line, cycle, got)
				}
				if o := p.Run(1); o.E != api.ErrFuel || o.Steps != cycle+1 {
					t.Errorf("%q: %v", line, o)
				}
			}
		}
	}
}

// What a bundle reads is what was there ahead of it, whatever else stands in it and in whichever order.
func TestOperationsOfABundle(t *testing.T) {
	s := regs(0, 2, 3)
	p := wantRun(t, lats(wide(), 1, 1, 1, 1), s, halted(2, 3, 2, 3, 3, 2),
		"move r1 r2, move r2 r1, print r1, print r2", "print r1, print r2", "halt r2")
	if got := p.State().Regs[:3]; !slices.Equal(got, []int64{0, 3, 2}) {
		t.Error(got)
	}
	// Prints come in the order of the slots, and ahead of a Halt of the same bundle.
	wantRun(t, wide(), s, halted(3, 1, 2, 3, 2, 0), "print r1, print r2, print r1, print r0, halt r2")
	// All of one class, and all units of all classes.
	p = wantRun(t, lats(wide(), 1, 1, 1, 1), s, lost(1, 2, 3), "const r10 1, const r11 2, add r12 r1 r2, sub r13 r1 r2, xor r14 r1 r2, or r15 r1 r2, and r16 r1 r2, less r17 r1 r2, "+
		"times r18 r1 r2, divide r19 r2 r1, rest r20 r2 r1, times r21 r2 r2, times r22 r1 r1, divide r23 r1 r1, rest r24 r1 r2, rest r25 r1 r1, "+
		"load r26 r1 0, store r1 r2 5, print r1, store r1 r1 6, print r2, load r27 r0 7, store r0 r2 9, load r28 r0 8, "+
		"count r1 0, again 0, branch r0 0, short r1 2 0, short r2 3 0, count r0 0, again 0, again 0")
	want := []int64{1, 2, 5, -1, 1, 3, 2, 1, 6, 1, 1, 9, 4, 1, 2, 0, 0, 0, 0}
	if got := p.State(); p.e != api.ErrNone || !slices.Equal(got.Regs[10:29], want) || got.Mem[7] != 3 || got.Mem[8] != 2 || got.Mem[9] != 3 {
		t.Errorf("%v, want %v", got, want)
	}
}

// lands answers a table whose class has that latency, and all other classes other ones.
func lands(class, lat int) api.Table {
	m := wide()
	for other := range m.Lat {
		m.Lat[other] = 1 + (lat+other+4-class)%8
	}
	m.Lat[class] = lat
	return m
}

// P22.5: read in every cycle, by a print, a move and a halt: ahead of its landing what was there, from it on what landed.
func TestLatencies(t *testing.T) {
	for class, text := range []string{"add r5 r1 r2", "times r5 r1 r2", "load r5 r1 0"} {
		for lat := 1; lat <= api.MaxLatency; lat++ {
			m := lands(class, lat)
			s := api.State{Regs: []int64{0, 2, 3, 0, 0, 77}, Mem: []int64{0, 0, 8}}
			want := []int64{5, 6, 8}[class]
			var printed []int64
			lines := []string{text + ", print r5"}
			for cycle := range 11 {
				if cycle < lat {
					printed = append(printed, 77)
				} else {
					printed = append(printed, want)
				}
				if cycle > 0 {
					lines = append(lines, "print r5, add r"+strconv.Itoa(cycle+9)+" r5 r0")
				}
			}
			p := wantRun(t, m, s, halted(want, 12, printed...), append(lines, "halt r5")...)
			now := p.State()
			for cycle := 1; cycle+m.Lat[api.Alu] <= 11; cycle++ {
				if got := now.Regs[cycle+9]; got != printed[cycle] {
					t.Errorf("class %d, latency %d: %d in cycle %d, want %d", class, lat, got, cycle, printed[cycle])
				}
			}
			for cycle := 1; cycle < 11; cycle++ {
				wantRun(t, m, s, halted(printed[cycle], cycle+1), append(append([]string{text}, make([]string, cycle-1)...), "halt r5")...)
			}
		}
	}
}

// A store lands as a result does, and a load of its cell sees it from then on.
func TestStoresLand(t *testing.T) {
	for lat := 1; lat <= api.MaxLatency; lat++ {
		lines := []string{"store r1 r2 3, load r10 r1 3"}
		for cycle := 1; cycle <= 10; cycle++ {
			lines = append(lines, "load r"+strconv.Itoa(cycle+10)+" r0 5")
		}
		lines = append(lines, make([]string, lat)...)
		p := machine(t, lands(api.Mem, lat), api.State{Regs: []int64{0, 2, 9}, Mem: []int64{0, 0, 0, 0, 0, 44, 45}}, lines...)
		for cycle := range lines {
			want := int64(44)
			if cycle > lat {
				want = 9
			}
			if got := p.State().Mem; got[5] != want || got[6] != 45 {
				t.Errorf("latency %d, ahead of cycle %d: %d, want %d", lat, cycle, got[5], want)
			}
			p.Run(1)
		}
		p.Run(1) // what lands in the cycle that does not count
		for cycle, got := range p.State().Regs[10:21] {
			want := int64(44)
			if cycle >= lat {
				want = 9
			}
			if got != want {
				t.Errorf("latency %d: loaded in cycle %d: %d, want %d", lat, cycle, got, want)
			}
		}
		wantFlying(t, p)
	}
}

// What is stored is what the register held, and where what the base held, whatever becomes of them.
func TestStoresKeepWhatTheyRead(t *testing.T) {
	m := lats(wide(), 1, 1, 4, 1)
	p := wantRun(t, m, regs(0, 2, 3), lost(5), "store r1 r2 0", "const r1 9, const r2 8", "", "", "")
	if got := p.State().Mem; got[2] != 3 || got[9] != 0 {
		t.Error(got)
	}
}

// Two results that land in one cycle in one register: the one that was issued later is the last, of one bundle the one of the later slot.
func TestLandingTogether(t *testing.T) {
	s := api.State{Regs: []int64{0, 2, 3}, Mem: []int64{0, 0, 8}}
	text := [3]string{"const r5 4", "times r5 r1 r2", "load r5 r1 0"}
	value := [3]int64{4, 6, 8}
	for first := range 3 {
		for second := range 3 {
			for apart := range 8 {
				if first == second && apart > 0 {
					continue
				}
				m := lats(wide(), 1, 1, 1, 1)
				m.Lat[first] += apart
				lines := make([]string, apart+3)
				lines[0] = text[first]
				lines[apart] = strings.TrimPrefix(lines[apart]+", "+text[second], ", ")
				lines[apart+1], lines[apart+2] = "print r5", "halt r5"
				want := value[second]
				if apart == 0 {
					want = value[max(first, second)] // class by class
				}
				p := wantRun(t, m, s, halted(want, apart+3, want), lines...)
				wantFlying(t, p)
			}
		}
	}
	m := lats(wide(), 2, 2, 2, 2)
	wantRun(t, m, s, halted(9, 3, 0), "const r5 7, const r5 8, const r5 9", "print r5", "halt r5")
	wantRun(t, m, s, halted(7, 3, 0), "const r5 9, const r5 8, const r5 7", "print r5", "halt r5")
	wantRun(t, m, s, halted(4, 3, 0), "times r5 r1 r2, times r5 r1 r1", "print r5", "halt r5")
	// The cycle in which they land alone counts: one that is issued ahead and lands behind is the last.
	wantRun(t, lats(wide(), 1, 3, 2, 1), s, halted(6, 4, 4), "times r5 r1 r2", "const r5 4", "print r5", "halt r5")
	wantRun(t, lats(wide(), 1, 3, 2, 1), s, halted(6, 4, 8), "times r5 r1 r2, load r5 r1 0", "", "print r5", "halt r5")
}

func TestLandingTogetherInACell(t *testing.T) {
	for lat := 1; lat <= api.MaxLatency; lat++ {
		m := lats(wide(), 1, 1, lat, 1)
		lines := append([]string{"store r1 r2 0, store r2 r1 -1, store r1 r1 1, store r0 r2 259"}, make([]string, lat)...)
		p := wantRun(t, m, regs(0, 2, 3), halted(0, lat+2), append(lines, "halt r0")...)
		if got := p.State().Mem; got[2] != 2 || got[3] != 3 {
			t.Errorf("latency %d: %v", lat, got[:5])
		}
	}
	// One behind the other.
	p := wantRun(t, lats(wide(), 1, 1, 3, 1), regs(0, 2, 3), halted(2, 6, 2), "store r1 r2 0", "store r1 r1 0", "", "load r5 r1 0", "print r1", "halt r1")
	if got := p.State(); got.Mem[2] != 2 || got.Regs[5] != 0 {
		t.Error(got)
	}
	wantFlying(t, p, 5)
}

func TestAddresses(t *testing.T) {
	for _, c := range []struct {
		base int64
		imm  string
		cell int
	}{
		{0, "0", 0}, {255, "0", 255}, {256, "0", 0}, {0, "256", 0}, {0, "-1", 255}, {-1, "0", 255}, {-1, "1", 0}, {-256, "0", 0}, {-257, "0", 255}, {5, "-261", 0},
		{0, "2147483647", 255}, {0, "-2147483648", 0}, {1, "2147483647", 0}, {math.MaxInt64, "0", 255}, {math.MaxInt64, "1", 0}, {math.MaxInt64, "2147483647", 254},
		{math.MinInt64, "0", 0}, {math.MinInt64, "-1", 255}, {math.MinInt64, "-2147483648", 0}, {math.MinInt64 + 3, "-4", 255}, {1 << 40, "17", 17},
	} {
		s := api.State{Regs: []int64{0, c.base, 99}, Mem: numbers(256, 1000)}
		p := machine(t, lats(wide(), 1, 1, 1, 1), s, "load r5 r1 "+c.imm, "store r1 r2 "+c.imm, "halt r5")
		s.Mem[c.cell] = 99
		o := p.Run(9)
		if o.Value != int64(1000+c.cell) || !slices.Equal(o.Mem, s.Mem) || !slices.Equal(p.State().Mem, s.Mem) {
			t.Errorf("%d and %s: %v, want cell %d", c.base, c.imm, o, c.cell)
		}
	}
}

func TestTurnsByDelays(t *testing.T) {
	s := regs(0, 1, 2, 3, 4, 5, 6)
	for delay := range api.MaxDelay + 1 {
		for lat := 1; lat <= api.MaxLatency; lat += 7 { // Ctl's latency has nothing to do with it
			m := delayed(lats(wide(), 1, 1, 1, lat), delay)
			printed := numbers(delay, 1)
			for _, turn := range []string{"jump 7", "branch r1 7", "short r1 2 7", "count r2 0, again 7"} {
				wantRun(t, m, s, halted(6, delay+2, printed...), turn, "print r1", "print r2", "print r3", "print r4", "print r5", "print r6", "halt r6")
			}
			for _, none := range []string{"branch r0 7", "short r1 1 7", "again 7", "count r1 0, again 7", "count r2 0", "count r2 7"} {
				wantRun(t, m, s, halted(6, 5, 1, 2, 3), none, "print r1", "print r2", "print r3", "halt r6")
			}
			// Back, and to itself.
			p := machine(t, m, s, "print r1", "jump 0", "print r2", "print r3", "print r4", "print r5", "print r6")
			round := append([]int64{1}, numbers(delay, 2)...)
			wantOutcome(t, p, p.Run(2*(delay+2)), fuel(2*(delay+2), append(round, round...)...))
			p = machine(t, m, s, "jump 0", "print r2", "print r3", "print r4", "print r5")
			wantOutcome(t, p, p.Run(1+delay), fuel(1+delay, numbers(delay, 2)...))
			if o := p.Run(1); o.Steps != delay+2 || len(o.Prints) != delay {
				t.Error(delay, o)
			}
		}
	}
}

func TestATurnInATurnsDelay(t *testing.T) {
	s := regs(0, 1, 2, 3, 4, 5, 6, 7, 8)
	tail := []string{"print r3", "print r4", "print r5", "print r6", "print r7", "print r8", "halt r8"} // from 3 on
	run := func(delay int, want api.Outcome, first ...string) {
		t.Helper()
		wantRun(t, delayed(wide(), delay), s, want, append(first, tail...)...)
	}
	run(0, halted(8, 5, 7, 8), "jump 2", "print r1", "jump 7")
	run(1, halted(8, 6, 3, 7, 8), "jump 3", "jump 7", "print r2")
	run(2, halted(8, 8, 2, 3, 6, 7, 8), "jump 3", "jump 6", "print r2")
	run(2, halted(8, 9, 3, 4, 6, 7, 8), "jump 3", "", "jump 6")
	run(2, halted(8, 7, 3, 6, 8), "jump 3", "jump 6", "jump 8")
	run(4, halted(8, 10, 3, 4, 7, 5, 7, 8), "jump 7", "jump 5", "jump 7")
	// One that is not done leaves the other.
	run(2, halted(8, 10, 3, 4, 5, 6, 7, 8), "jump 3", "branch r0 6", "short r1 1 7")
	// To the halt from within.
	run(1, halted(8, 4, 6), "jump 6", "jump 9", "halt r8")
	// A turn in the delay of one that goes nowhere, and one that goes nowhere in the delay of another one.
	wantRun(t, delayed(wide(), 1), s, lost(2, 1), "jump -1", "print r1, jump 3", "", "print r3")
	wantRun(t, delayed(wide(), 1), s, lost(3, 1, 3), "jump 3", "print r1, jump 4", "", "print r3")
}
