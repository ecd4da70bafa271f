package pipe

import (
	"math"
	"slices"
	"strconv"
	"testing"

	"hayloft/api"
)

// Turns of one bundle are done in one cycle: the last of them that is done says where.
func TestTurnsOfABundle(t *testing.T) {
	s := regs(0, 1, 2, 3, 4, 5, 6)
	for delay := range api.MaxDelay + 1 {
		m := delayed(wide(), delay)
		ahead := make([]string, 5)
		for _, c := range []struct {
			turns string
			want  int64
		}{
			{"jump 6, jump 8", 8}, {"jump 8, jump 6", 6}, {"jump 6, branch r0 8", 6}, {"jump 6, branch r1 8", 8}, {"branch r1 8, jump 6", 6}, {"branch r0 8, jump 6", 6},
			{"short r1 2 8, short r1 3 6", 6}, {"short r1 2 8, short r1 1 6", 8}, {"count r2 0, again 8, again 6", 8}, {"count r3 0, again 8, again 6", 6},
			{"jump 8, jump 8, jump 8, jump 8, jump 8, jump 8, jump 8, jump 7", 7}, {"jump 8, again 7, branch r0 6, short r2 2 6", 8},
		} {
			lines := append([]string{c.turns}, ahead...) // to 5
			lines = append(lines, "halt r6", "halt r3", "halt r4")
			value := map[int64]int64{6: 6, 7: 3, 8: 4}[c.want]
			wantRun(t, m, s, halted(value, delay+2), lines...)
		}
	}
}

func TestBranch(t *testing.T) {
	for _, value := range []int64{1, -1, 2, 256, 1 << 32, 1 << 62, -1 << 32, math.MaxInt64, math.MinInt64} {
		wantRun(t, example(), regs(0, value), halted(value, 3), "branch r1 3", "", "halt r0", "halt r1")
	}
	wantRun(t, example(), regs(5, 0), halted(5, 3), "branch r1 3", "", "halt r0", "halt r1")
	// It is the value now that counts, not one that is in flight, or that lands ahead of the turn.
	wantRun(t, example(), regs(5, 0), halted(5, 3), "const r1 1, branch r1 3", "", "halt r0", "halt r1")
	wantRun(t, example(), regs(5, 1), halted(0, 3), "const r1 0, branch r1 3", "", "halt r0", "halt r1")
}

// Short's B is a number, whatever the register of that number holds.
func TestShort(t *testing.T) {
	for b := range int64(api.Registers) {
		for _, value := range []int64{math.MinInt64, math.MinInt64 + 1, -1 << 32, -1, 0, 1, b - 1, b, b + 1, 31, 32, 1 << 32, math.MaxInt64} {
			// The registers would say the other thing.
			other, want := int64(math.MaxInt64), halted(math.MaxInt64, 4, math.MaxInt64)
			if value < b {
				other, want = math.MinInt64, halted(math.MinInt64, 3)
			}
			s := regs(slices.Repeat([]int64{other}, 32)...)
			a := (b + 1) % 31
			s.Regs[a] = value
			wantRun(t, example(), s, want, "short r"+strconv.FormatInt(a, 10)+" "+strconv.FormatInt(b, 10)+" 3", "", "print r31", "halt r31")
		}
	}
}

// rounds answers the outcome of so many cycles of a round that prints r0, and turns back by an Again as long as the counter says; the first bundle is
// handed in.
func rounds(t *testing.T, s api.State, cycles int, first string) api.Outcome {
	t.Helper()
	return machine(t, delayed(wide(), 0), s, first, "print r0, again 1", "halt r31").Run(cycles)
}

func TestCount(t *testing.T) {
	for _, c := range []struct {
		a    int64
		imm  string
		want int // rounds: one at least, as the first is there anyhow
	}{
		{3, "0", 3}, {2, "0", 2}, {1, "0", 1}, {0, "0", 1}, {-1, "0", 1}, {-5, "0", 1}, {math.MinInt64, "0", 1},
		{10, "7", 3}, {10, "9", 1}, {10, "10", 1}, {10, "11", 1}, {10, "2147483647", 1}, {0, "1", 1}, {-3, "5", 1},
		{0, "-4", 4}, {2, "-2", 4}, {-2, "-6", 4}, {-6, "-6", 1}, {-7, "-6", 1}, {-2147483645, "-2147483648", 3}, {-2147483648, "-2147483648", 1},
		{2147483650, "2147483647", 3}, {2147483647, "2147483647", 1},
		// As numbers these are below 0, though modulo 2^64 they are not.
		{math.MinInt64, "1", 1}, {math.MinInt64, "2147483647", 1}, {math.MinInt64 + 5, "6", 1}, {math.MinInt64, "-2147483648", 1},
	} {
		o := rounds(t, regs(0, c.a), 100, "count r1 "+c.imm)
		if want := halted(0, c.want+2, make([]int64, c.want)...); o.E != want.E || o.Steps != want.Steps || !slices.Equal(o.Prints, want.Prints) {
			t.Errorf("count %d %s: %v, want %v", c.a, c.imm, told(o), told(want))
		}
	}
	// And these are above it, though modulo 2^64 they are not, or so many that they do not run out.
	for _, c := range []struct {
		a   int64
		imm string
	}{{math.MaxInt64, "0"}, {math.MaxInt64, "-1"}, {math.MaxInt64, "-2147483648"}, {math.MaxInt64 - 3, "-4"}, {math.MaxInt64 - 3, "-3"}, {math.MaxInt64, "2147483647"}, {1 << 40, "1"}} {
		if o := rounds(t, regs(0, c.a), 1000, "count r1 "+c.imm); o.E != api.ErrFuel || len(o.Prints) != 999 {
			t.Errorf("count %d %s: %v", c.a, c.imm, told(o))
		}
	}
	// A Count is there at once, whatever Ctl's latency; the register is read when it is issued.
	m := delayed(lats(wide(), 1, 1, 1, 8), 0)
	wantRun(t, m, regs(0, 3), halted(3, 5, 3, 3, 3), "count r1 0", "print r1, again 1", "halt r1")
	wantRun(t, m, regs(0, 3), halted(9, 4, 3, 9, 9), "const r1 9, count r1 0, print r1, again 1", "print r1, again 1", "halt r1")
	wantRun(t, m, regs(7, 2, 5), halted(5, 5, 7, 7, 7), "const r1 5, count r1 0", "const r1 5, print r0, again 1", "print r0", "halt r1")
}

func TestAgain(t *testing.T) {
	// The counter is 0 at first, and below that it goes on downwards.
	if o := rounds(t, regs(0), 100, ""); o.E != api.OK || o.Steps != 3 {
		t.Error(told(o))
	}
	below := "again 0, again 0, again 0, again 0, again 0"
	if o := rounds(t, regs(0), 100, below); o.E != api.OK || o.Steps != 3 {
		t.Error(told(o))
	}
	// One that is below is not 1 above it by the next Count.
	if o := rounds(t, regs(0, 2), 100, below+", count r1 0"); o.E != api.OK || o.Steps != 4 {
		t.Error(told(o))
	}
	if o := rounds(t, regs(0, 4), 100, "count r1 0, again 1, again 1"); o.E != api.OK || o.Steps != 4 {
		t.Error(told(o))
	}
	// The last Count of a bundle counts, and those ahead of an Again for it.
	if o := rounds(t, regs(0, 4, 6), 100, "count r1 0, count r2 0"); o.E != api.OK || o.Steps != 8 {
		t.Error(told(o))
	}
	wantRun(t, delayed(wide(), 0), regs(0, 4), halted(4, 3), "again 2, count r1 0", "again 3", "halt r0", "halt r1")
	wantRun(t, delayed(wide(), 0), regs(0, 2), halted(2, 2), "count r1 0, again 3", "again 3", "halt r0", "halt r1")
	// It runs on from call to call.
	p := machine(t, delayed(wide(), 0), regs(0, 3), "count r1 0", "again 1", "halt r1")
	for n := range 4 {
		wantOutcome(t, p, p.Run(1), fuel(n+1))
	}
	wantOutcome(t, p, p.Run(1), halted(3, 5))
}

func TestPlaces(t *testing.T) {
	s := regs(0, 1, 2)
	for _, away := range []string{"-1", "-2", "4", "5", "65536", "2147483647", "-2147483648"} {
		for delay := range 4 {
			lines := []string{"jump " + away, "print r1", "print r2", "print r1"}
			printed := []int64{1, 2, 1}[:delay]
			wantRun(t, delayed(wide(), delay), s, lost(delay+1, printed...), lines...)
			wantRun(t, delayed(wide(), delay), s, lost(delay+1, printed...), append([]string{"branch r1 " + away}, lines[1:]...)...)
		}
		// Behind the last bundle, and back from there by a turn that was issued ahead: there the run has ended already.
		wantRun(t, delayed(wide(), 2), s, lost(4, 1, 2), "print r1", "print r2", "jump 0", "")
		wantRun(t, delayed(wide(), 1), s, lost(1), "jump 0")
		// Where the turn isn't done the place does not matter.
		wantRun(t, delayed(wide(), 0), s, halted(2, 2), "branch r0 "+away+", short r1 1 "+away+", again "+away, "halt r2")
	}
	wantRun(t, delayed(wide(), 1), s, halted(2, 3, 1), "jump 3", "print r1", "print r2", "halt r2")
	wantRun(t, delayed(wide(), 0), s, lost(2), "", "")
}

// What lands in the cycle that finds no bundle has landed; what lands later never does.
func TestNoBundle(t *testing.T) {
	m := lats(wide(), 1, 3, 2, 1)
	p := wantRun(t, m, regs(0, 2, 3), lost(1), "const r4 9, times r5 r1 r2, load r6 r0 0, store r0 r1 0, const r7 8")
	want := api.State{Regs: make([]int64, 32), Mem: make([]int64, 256)}
	copy(want.Regs, []int64{0, 2, 3, 0, 9, 0, 0, 8})
	for range 3 {
		if got := p.State(); !sameState(got, want) {
			t.Errorf("%v, want %v", got, want)
		}
		wantFlying(t, p, 5, 6)
		wantOutcome(t, p, p.Run(5), lost(1))
	}
}

// A trap ends the run where it stands: what is ahead of it in its bundle was done, and what is behind it is not.
func TestTrapWithinABundle(t *testing.T) {
	m := lats(wide(), 1, 1, 1, 1)
	for _, trap := range []string{"divide r5 r1 r0", "rest r5 r1 r0", "divide r5 r0 r0", "rest r0 r0 r0"} {
		p := wantRun(t, m, regs(0, 2, 3), trapped(3, 3, 2), "print r2", "print r1, const r9 5",
			"const r4 9, times r6 r1 r2, "+trap+", times r7 r1 r2, divide r8 r1 r0, load r10 r0 0, store r0 r1 0, print r1, count r1 0, jump 0, halt r2", "halt r1")
		want := api.State{Regs: make([]int64, 32), Mem: make([]int64, 256)}
		copy(want.Regs, []int64{0, 2, 3, 0, 0, 0, 0, 0, 0, 5})
		for range 3 {
			wantFlying(t, p, 4, 6)
			if got := p.State(); !sameState(got, want) {
				t.Errorf("%v, want %v", got, want)
			}
			wantOutcome(t, p, p.Run(5), trapped(3, 3, 2))
		}
	}
	// A print stands behind a trap of its own bundle, as its class does, be it the first that is named.
	wantRun(t, m, regs(0, 2), trapped(1), "print r1, divide r5 r1 r0")
	wantRun(t, m, regs(0, 2), trapped(2, 2, 2), "print r1, print r1", "print r1, print r0, rest r5 r1 r0")
	// What lands in its cycle has landed.
	p := wantRun(t, m, regs(0, 2), trapped(2), "const r1 0, const r2 6", "divide r3 r2 r1")
	if got := p.State().Regs[:3]; !slices.Equal(got, []int64{0, 0, 6}) {
		t.Error(got)
	}
	// And what is in flight to its divisor has not.
	wantRun(t, lats(m, 2, 1, 1, 1), regs(0, 2), halted(0, 3, 0), "const r1 0", "divide r3 r1 r1", "print r0, halt r1")
	wantRun(t, lats(m, 2, 1, 1, 1), regs(0, 2), trapped(2), "const r3 1", "divide r3 r1 r3")
}

func TestHaltWithinABundle(t *testing.T) {
	m := lats(wide(), 1, 2, 3, 1)
	s := api.State{Regs: []int64{0, 2, 3}, Mem: []int64{5, 6}}
	p := machine(t, m, s, "store r0 r2 1", "const r4 9, times r5 r1 r2, load r6 r0 0, store r0 r1 0, print r1, jump 5, halt r4, halt r1, jump 7", "print r2", "print r2")
	for range 3 {
		o := p.Run(9)
		if !same(o, api.Outcome{Value: 0, Steps: 2, Prints: []int64{2}, Mem: append([]int64{5, 6}, make([]int64, 254)...)}) {
			t.Error(told(o))
		}
		wantFlying(t, p, 4, 5, 6)
		if got := p.State().Regs[:8]; !slices.Equal(got, []int64{0, 2, 3, 0, 0, 0, 0, 0}) {
			t.Error(got)
		}
	}
	// With what is in the register now.
	wantRun(t, m, s, halted(2, 1), "const r1 9, halt r1")
	wantRun(t, m, s, halted(9, 2), "const r1 9", "halt r1")
	for _, value := range []int64{math.MinInt64, math.MaxInt64, -1} {
		wantRun(t, m, regs(value), halted(value, 1), "halt r0")
	}
}

func TestHowManyCycles(t *testing.T) {
	p := machine(t, delayed(ones(), 0), regs(0, 2), "print r1", "jump 1")
	wantOutcome(t, p, p.Run(0), fuel(0))
	wantOutcome(t, p, p.Run(-1), fuel(0))
	wantOutcome(t, p, p.Run(math.MinInt), fuel(0))
	wantOutcome(t, p, p.Run(1), fuel(1, 2))
	wantOutcome(t, p, p.Run(0), fuel(1, 2))
	wantOutcome(t, p, p.Run(3), fuel(4, 2))
	wantOutcome(t, p, p.Run(api.MaxSteps), fuel(4+api.MaxSteps, 2))
	wantOutcome(t, p, p.Run(api.MaxSteps+1), fuel(4+2*api.MaxSteps, 2))
	wantOutcome(t, p, p.Run(math.MaxInt), fuel(4+3*api.MaxSteps, 2))
	wantOutcome(t, p, p.Run(-7), fuel(4+3*api.MaxSteps, 2))
}

// A run ends in the cycle that ends it, and not ahead of that.
func TestTheLastCycle(t *testing.T) {
	for _, c := range []struct {
		last string
		want api.Outcome
	}{{"halt r1", halted(2, 3, 2)}, {"rest r1 r1 r0", trapped(3, 2)}, {"", lost(3, 2)}} {
		lines := []string{"print r1", "", c.last}
		cycles := 3
		if c.last == "" {
			cycles = 4 // the one that does not count must be asked for, too
		}
		for first := range cycles {
			p := machine(t, example(), regs(0, 2), lines...)
			printed := []int64{2}
			if first == 0 {
				printed = nil
			}
			wantOutcome(t, p, p.Run(first), fuel(first, printed...))
			wantOutcome(t, p, p.Run(cycles-first-1), fuel(cycles-1, 2))
			wantOutcome(t, p, p.Run(0), fuel(cycles-1, 2))
			wantOutcome(t, p, p.Run(1), c.want)
			for _, more := range []int{0, 1, -1, 100, api.MaxSteps + 1} {
				wantOutcome(t, p, p.Run(more), c.want)
			}
		}
	}
}

func TestStateAndFlying(t *testing.T) {
	m := lats(wide(), 2, 4, 3, 1)
	p := machine(t, m, regs(0, 2, 3), "times r31 r1 r2, const r9 4", "const r9 5, load r3 r0 0, store r0 r1 7", "const r0 6", "times r9 r1 r1", "", "", "halt r0")
	for cycle, want := range []struct {
		flying []uint8
		r31    int64
		r9     int64
		r0     int64
		cell   int64
	}{
		{nil, 0, 0, 0, 0},
		{[]uint8{9, 31}, 0, 0, 0, 0},
		{[]uint8{3, 9, 31}, 0, 0, 0, 0}, // two to r9
		{[]uint8{0, 3, 9, 31}, 0, 4, 0, 0},
		{[]uint8{0, 3, 9, 31}, 0, 5, 0, 0},
		{[]uint8{9}, 6, 5, 6, 2},
		{[]uint8{9}, 6, 5, 6, 2},
		{[]uint8{9}, 6, 5, 6, 2}, // behind the halt: it never lands
		{[]uint8{9}, 6, 5, 6, 2},
	} {
		s := p.State()
		if len(s.Regs) != 32 || len(s.Mem) != 256 || s.Regs[31] != want.r31 || s.Regs[9] != want.r9 || s.Regs[0] != want.r0 || s.Mem[7] != want.cell {
			t.Errorf("ahead of cycle %d: %v, want %v", cycle, s, want)
		}
		wantFlying(t, p, want.flying...)
		wantFlying(t, p, want.flying...)
		p.Run(1)
	}
	// Turns, stores and prints are not to registers.
	p = machine(t, m, regs(0, 2, 3), "store r1 r2 0, print r1, jump 1, count r2 0, again 1, branch r1 1, short r1 3 1", "halt r1")
	p.Run(1)
	wantFlying(t, p)
	// All registers at once.
	lines := []string{"", "", "", ""}
	for n := range 32 {
		text := "const r" + strconv.Itoa(31-n) + " 1"
		if lines[n/8] != "" {
			text = ", " + text
		}
		lines[n/8] += text
	}
	p = machine(t, lats(wide(), 8, 1, 1, 1), regs(), lines...)
	p.Run(4)
	want := make([]uint8, 32)
	for n := range want {
		want[n] = uint8(n)
	}
	wantFlying(t, p, want...)
	if o := p.Run(5); o.E != api.ErrNone {
		t.Error(told(o))
	}
	wantFlying(t, p, want...)
}

func TestNoMachine(t *testing.T) {
	var p *Machine
	for _, cycles := range []int{0, 1, -1, math.MaxInt} {
		if o := p.Run(cycles); !same(o, api.Outcome{E: api.ErrNil}) {
			t.Error(told(o))
		}
	}
	if s := p.State(); s.Regs != nil || s.Mem != nil {
		t.Error(s)
	}
	wantFlying(t, p)
}
