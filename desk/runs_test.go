package desk

import (
	"fmt"
	"math"
	"math/rand"
	"slices"
	"strings"
	"testing"

	"hayloft/api"
	"hayloft/pack"
	"hayloft/parse"
	"hayloft/pipe"
	"hayloft/serial"
)

// runner is a machine, of either kind.
type runner interface{ Run(n int) api.Outcome }

// alone answers a machine of a text, made without any desk.
func alone(t testing.TB, text string, m api.Table, s api.State, packed bool) runner {
	t.Helper()
	p, err := parse.Program(text)
	if err != nil {
		t.Fatal(err)
	}
	if !packed {
		one, e := serial.New(p, s)
		if e != api.OK {
			t.Fatal(e)
		}
		return one
	}
	k, e := pack.Pack(p, m)
	if e != api.OK {
		t.Fatal(e)
	}
	wide, e := pipe.New(k.Words, m, s)
	if e != api.OK {
		t.Fatal(e)
	}
	return wide
}

// probes are programs whose runs on the packed machine tell one table from another.
func probes() []string {
	return []string{
		textOf("add r1 r2 r3, add r4 r5 r6, add r7 r8 r9, halt r0"),
		textOf("times r1 r2 r3, times r4 r5 r6, times r7 r8 r9, print r1, halt r4"),
		textOf("load r1 r2 0, load r3 r4 1, store r1 r3 2, load r5 r6 3, print r5, halt r3"),
		textOf("print r1, print r2, print r3, jump 1", "print r1, halt r2"),
		textOf("branch r2 1 1", "jump 2", "jump 3", "jump 4", "halt r0"),
		textOf("const r1 20, const r9 1, jump 1", "loop r1 {, load r3 r4 0, times r3 r3 r5, add r2 r2 r3, store r4 r2 9, add r4 r4 r9, }, jump 2", "halt r2"),
	}
}

func probeState() api.State {
	return api.State{Regs: []int64{0, 1, 2, 3, 4, 5, 6, 7, 8, 9}, Mem: []int64{1, 2, 3, 4, 5, 6, 7, 8, 9}}
}

// otherTables answers tables each of which is another one than that in one of its numbers.
func otherTables(m api.Table) []api.Table {
	var l []api.Table
	add := func(change func(m *api.Table)) {
		n := m
		change(&n)
		l = append(l, n)
	}
	for class := range api.Classes {
		add(func(m *api.Table) { m.Units[class]++ })
		add(func(m *api.Table) { m.Lat[class] += 2 })
		add(func(m *api.Table) { m.Busy[class] += 2 })
	}
	for delay := range api.MaxDelay + 1 {
		if delay != m.Delay {
			add(func(m *api.Table) { m.Delay = delay })
		}
	}
	return l
}

// wantTable says that what the desk packs is packed by that table, and leaves the desk as it was, but for the runs' numbers.
func wantTable(t testing.TB, d *Desk, m api.Table) {
	t.Helper()
	put(t, d, "probe", "block 0:\nhalt r0")
	for n, text := range probes() {
		put(t, d, "probe", text)
		run := open(t, d, "probe", probeState(), true)
		want := alone(t, text, m, probeState(), true)
		// Cycle by cycle: what is printed when tells more than how many cycles there are.
		for range 400 {
			if got, want := goOn(t, d, run, 1), want.Run(1); !sameOutcome(got, want) {
				t.Fatalf("probe %d, %v: %v, want %v", n, m, got, want)
			}
		}
		wantErrno(t, d.Close(run), api.OK)
	}
	wantErrno(t, d.Drop("probe"), api.OK)
}

// The probes do tell tables apart, or wantTable says too little.
func TestProbes(t *testing.T) {
	steps := func(m api.Table) (l []int) {
		for _, text := range probes() {
			o := alone(t, text, m, probeState(), true).Run(5000)
			if o.E != api.OK {
				t.Fatal(text, m, o.E)
			}
			l = append(l, o.Steps)
		}
		return l
	}
	told, same := steps(first()), 0
	for _, m := range otherTables(first()) {
		if slices.Equal(steps(m), told) {
			same++
		}
	}
	if same > 4 { // a unit of Ctl more, for one, is of no use to anybody
		t.Errorf("%d tables are not told from the first one", same)
	}
}

// numbersOfNoRun are numbers that no run has on a desk that few were begun on.
func numbersOfNoRun() []int {
	return []int{math.MinInt, math.MinInt + 1, -1 << 32, -2, -1, 0, 1000, 1<<32 + 1, math.MaxInt - 1, math.MaxInt}
}

func TestOpen(t *testing.T) {
	d := New()
	put(t, d, "p", textOf("load r2 r0 0, load r3 r0 255, print r31, print r2, print r3, halt r30"))
	for _, name := range []string{"", "q", "P", "pp", "p ", " p", "#", strings.Repeat("p", 33), "\x00"} {
		for _, packed := range []bool{false, true} {
			for _, registers := range []int{0, 33} {
				wantNoRun(t, d, name, regs(make([]int64, registers)...), packed, api.ErrNone)
			}
		}
	}
	run := 0
	for _, registers := range []int{0, 1, 30, 31, 32, 33, 34, 1000} {
		for _, cells := range []int{0, 1, 255, 256, 257, 258, 1000} {
			s := api.State{Regs: make([]int64, registers), Mem: make([]int64, cells)}
			for n := range s.Regs {
				s.Regs[n] = int64(n)
			}
			s.Regs = noted(s.Regs, 0, 0)
			for n := range s.Mem {
				s.Mem[n] = 1000 + int64(n)
			}
			for _, packed := range []bool{false, true} {
				if registers > 32 || cells > 256 {
					wantNoRun(t, d, "p", s, packed, api.ErrArg)
					continue
				}
				run++
				wantOpenOf(t, d, "p", s, packed, run)
				wantEnd(t, goOn(t, d, run, 100), api.OK, at(s.Regs, 30), at(s.Regs, 31), at(s.Mem, 0), at(s.Mem, 255))
			}
		}
	}
}

// at answers what stands in a place of a list, or 0.
func at(l []int64, n int) int64 {
	if n < len(l) {
		return l[n]
	}
	return 0
}

// noted answers a list with a number in a place, if it has it.
func noted(l []int64, n int, value int64) []int64 {
	if n < len(l) {
		l[n] = value
	}
	return l
}

// A unit that is needed and not there stops what is packed, and nothing else; it comes ahead of a state that is none.
func TestUnitsThatAreMissing(t *testing.T) {
	texts := []string{textOf("halt r3"), textOf("add r1 r1 r1, halt r3"), textOf("rest r1 r1 r3, halt r3"), textOf("load r1 r1 0, halt r3"), textOf("times r1 r1 r1, jump 1", "add r1 r1 r1, store r2 r0 0, halt r3")}
	needs := [][]int{{api.Ctl}, {api.Ctl, api.Alu}, {api.Ctl, api.Mul}, {api.Ctl, api.Mem}, {api.Ctl, api.Alu, api.Mul, api.Mem}}
	d := New()
	for n, text := range texts {
		put(t, d, fmt.Sprint(n), text)
	}
	good, bad, run := regs(0, 1, 2, 3), []api.State{regs(make([]int64, 33)...), {Mem: make([]int64, 257)}}, 0
	for without := range 1 << api.Classes {
		m := first()
		for class := range api.Classes {
			if without>>class&1 == 1 {
				m.Units[class] = 0
			}
		}
		set(t, d, m)
		for n := range texts {
			name := fmt.Sprint(n)
			lacks := slices.ContainsFunc(needs[n], func(class int) bool { return m.Units[class] == 0 })
			run++
			wantOpenOf(t, d, name, good, false, run)
			wantEnd(t, goOn(t, d, run, 50), api.OK, 3)
			wantErrno(t, d.Close(run), api.OK)
			for _, s := range bad {
				wantNoRun(t, d, name, s, false, api.ErrArg)
			}
			if lacks {
				for _, s := range append(bad, good) {
					wantNoRun(t, d, name, s, true, api.ErrNoUnit)
				}
				continue
			}
			for _, s := range bad {
				wantNoRun(t, d, name, s, true, api.ErrArg)
			}
			run++
			wantOpenOf(t, d, name, good, true, run)
			wantEnd(t, goOn(t, d, run, 50), api.OK, 3)
			wantErrno(t, d.Close(run), api.OK)
		}
	}
}

// Numbers of runs rise from 1 on and never come again, whatever was refused or closed between.
func TestNumbersOfRuns(t *testing.T) {
	d := New()
	put(t, d, "p", five())
	put(t, d, "times", textOf("times r1 r1 r1, halt r1"))
	next := 1
	one := func(packed bool) {
		t.Helper()
		wantOpen(t, d, "p", packed, next)
		next++
	}
	one(false)
	one(true)
	wantNoRun(t, d, "q", api.State{}, false, api.ErrNone)
	one(false)
	wantNoRun(t, d, "p", regs(make([]int64, 33)...), true, api.ErrArg)
	wantNoRun(t, d, "p", regs(make([]int64, 33)...), false, api.ErrArg)
	one(true)
	wantErrno(t, d.Close(4), api.OK)
	one(true)
	for run := range 5 {
		if run > 0 && run != 4 {
			wantErrno(t, d.Close(run), api.OK)
		}
	}
	wantErrno(t, d.Close(5), api.OK)
	one(false)
	m := first()
	m.Units[api.Mul] = 0
	set(t, d, m)
	wantNoRun(t, d, "times", api.State{}, true, api.ErrNoUnit)
	one(true)
	wantErrno(t, d.Drop("p"), api.OK)
	wantNoRun(t, d, "p", api.State{}, true, api.ErrNone)
	put(t, d, "p", five())
	one(true)
	// Far more than are held at a time.
	for range 3 * api.MaxHeld {
		one(next%2 == 0)
		wantErrno(t, d.Close(next-1), api.OK)
		wantErrno(t, d.Close(next-1), api.ErrNone)
	}
	for run := range next + 2 {
		if run < 6 || run > 8 {
			wantErrno(t, d.Close(run), api.ErrNone)
			wantNoGo(t, d, run, 1, api.ErrNone)
		} else {
			wantEnd(t, goOn(t, d, run, 9), api.OK, 5)
		}
	}
}

func TestNumbersThatNoRunHas(t *testing.T) {
	d := New()
	put(t, d, "p", five())
	wantOpen(t, d, "p", false, 1)
	wantOpen(t, d, "p", true, 2)
	for _, run := range append(numbersOfNoRun(), 3, 4) {
		wantErrno(t, d.Close(run), api.ErrNone)
		for _, n := range []int{math.MinInt, -1, 0, 1, api.MaxSteps, math.MaxInt} {
			wantNoGo(t, d, run, n, api.ErrNone)
		}
	}
	for _, run := range []int{1, 2} {
		wantEnd(t, goOn(t, d, run, 9), api.OK, 5)
	}
}

// ends are programs that end with a value, by a trap, and not at all.
func ends() []string {
	return []string{
		textOf("const r1 5, print r1, const r2 6, print r2, store r0 r2 3, halt r2"),
		textOf("const r1 5, print r1, divide r1 r1 r0, print r1, halt r1"),
		textOf("rest r1 r1 r0, halt r1"),
		textOf("const r1 1, jump 1", "add r2 r2 r1, branch r2 2 2", "print r2, jump 1"),
		textOf("jump 0"),
		textOf("const r1 30, const r2 1, jump 1", "loop r1 {, add r3 r3 r2, store r3 r3 0, print r3, }, jump 2", "halt r3"),
		textOf("halt r0"),
	}
}

// A run goes on from where it stood: in parts of any sizes it comes to what it comes to at once.
func TestGoInParts(t *testing.T) {
	for _, text := range ends() {
		for _, packed := range []bool{false, true} {
			for _, parts := range [][]int{{1, 1, 1, 1, 1, 1, 1, 1, 1}, {3, 0, 4, -5, 9, 20}, {0}, {-1}, {math.MinInt, 2}, {100}, {7, 500, 0, 0}} {
				d, sum := New(), 0
				put(t, d, "p", text)
				run, whole, none := open(t, d, "p", api.State{}, packed), open(t, d, "p", api.State{}, packed), open(t, d, "p", api.State{}, packed)
				one := alone(t, text, first(), api.State{}, packed)
				for _, n := range parts {
					sum += max(n, 0)
					got := goOn(t, d, run, n)
					if want := one.Run(n); !sameOutcome(got, want) {
						t.Errorf("%s, packed %v, %d of %v: %v, want %v", text, packed, n, parts, got, want)
					}
					if got.Steps > sum || got.E == api.ErrFuel && got.Steps != sum {
						t.Errorf("%s, packed %v, %v: %d steps", text, packed, parts, got.Steps)
					}
				}
				if got, want := goOn(t, d, run, 0), goOn(t, d, whole, sum); !sameOutcome(got, want) {
					t.Errorf("%s, packed %v, %v: in parts %v, at once %v", text, packed, parts, got, want)
				}
				if o := goOn(t, d, none, 0); o.Steps != 0 || len(o.Prints) != 0 {
					t.Errorf("%s, packed %v: %v of a run that was not gone on with", text, packed, o)
				}
			}
		}
	}
}

// Behind its end a run tells the same each time, and is held till it is closed.
func TestGoBehindTheEnd(t *testing.T) {
	want := []struct {
		end    api.Errno
		value  int64
		prints []int64
	}{{api.OK, 6, []int64{5, 6}}, {api.ErrDivide, 0, []int64{5}}, {api.ErrDivide, 0, nil}, {}, {}, {api.OK, 30, upTo(30)}, {api.OK, 0, nil}}
	for n, text := range ends() {
		if n == 3 || n == 4 {
			continue
		}
		for _, packed := range []bool{false, true} {
			d := New()
			put(t, d, "p", text)
			wantOpen(t, d, "p", packed, 1)
			before := goOn(t, d, 1, 5000)
			wantEnd(t, before, want[n].end, want[n].value, want[n].prints...)
			for _, more := range []int{0, 1, -1, api.MaxSteps, math.MaxInt, math.MinInt, 1} {
				if o := goOn(t, d, 1, more); !sameOutcome(o, before) {
					t.Errorf("%s, packed %v, %d: %v, want %v", text, packed, more, o, before)
				}
			}
			wantErrno(t, d.Close(1), api.OK)
			wantNoGo(t, d, 1, 0, api.ErrNone)
		}
	}
}

// upTo answers the numbers from 1 to the last one.
func upTo(last int) (l []int64) {
	for n := range last {
		l = append(l, int64(n+1))
	}
	return l
}

// n is brought into 0 to MaxSteps, at each call by itself.
func TestMostSteps(t *testing.T) {
	d := New()
	put(t, d, "p", textOf("jump 0"))
	for _, packed := range []bool{false, true} {
		run := open(t, d, "p", api.State{}, packed)
		steps := 0
		for _, n := range []int{math.MinInt, -1, 0, 1, api.MaxSteps - 1, api.MaxSteps, api.MaxSteps + 1, 1 << 32, math.MaxInt} {
			steps += min(max(n, 0), api.MaxSteps)
			if o := goOn(t, d, run, n); o.E != api.ErrFuel || o.Steps != steps || o.Value != 0 || len(o.Mem) != 0 || len(o.Prints) != 0 {
				t.Errorf("packed %v, %d: %v, %d steps, want %d", packed, n, o.E, o.Steps, steps)
			}
		}
	}
}

func TestClose(t *testing.T) {
	d := New()
	put(t, d, "p", five())
	for n := range 6 {
		wantOpen(t, d, "p", n%2 == 0, n+1)
	}
	for _, run := range []int{3, 6, 1} {
		wantErrno(t, d.Close(run), api.OK)
		for range 2 {
			wantErrno(t, d.Close(run), api.ErrNone)
			wantNoGo(t, d, run, 3, api.ErrNone)
		}
	}
	// Others stay, one that stands in its midst and one that has ended too.
	goOn(t, d, 4, 1)
	goOn(t, d, 5, 50)
	for _, run := range []int{2, 4, 5} {
		wantEnd(t, goOn(t, d, run, 50), api.OK, 5)
		wantErrno(t, d.Close(run), api.OK)
		wantErrno(t, d.Close(run), api.ErrNone)
	}
	wantNames(t, d, "p")
}

// P27.7: runs know nothing of one another: side by side each is what it is on a desk of its own.
func TestRunsSideBySide(t *testing.T) {
	text := textOf("print r1, loop r1 {, add r2 r2 r3, store r2 r2 0, print r2, }, jump 1", "load r4 r0 7, print r4, halt r2")
	d := New()
	put(t, d, "p", text)
	put(t, d, "q", text)
	type pair struct {
		run  int
		mine *Desk
	}
	var pairs []pair
	r := rand.New(rand.NewSource(27))
	for n := range 12 {
		name, packed := []string{"p", "q"}[n%2], n%3 == 0
		s := api.State{Regs: []int64{0, int64(n % 7), int64(n), 3}, Mem: []int64{7: int64(n)}}
		mine := New()
		put(t, mine, name, text)
		wantOpenOf(t, mine, name, s, packed, 1)
		wantOpenOf(t, d, name, s, packed, n+1)
		pairs = append(pairs, pair{n + 1, mine})
	}
	for round := range 60 {
		for n := range pairs {
			p := pairs[(n*5+round)%len(pairs)]
			more := r.Intn(4)
			if got, want := goOn(t, d, p.run, more), goOn(t, p.mine, 1, more); !sameOutcome(got, want) {
				t.Fatalf("run %d, round %d: %v, want %v", p.run, round, got, want)
			}
		}
	}
	for _, p := range pairs {
		if o := goOn(t, d, p.run, 0); o.E != api.OK {
			t.Errorf("run %d has not ended", p.run)
		}
	}
}

// P27.7: programs that are put over and dropped, and tables that are changed, while a run is open.
func TestWhatComesLaterChangesNoRun(t *testing.T) {
	for _, text := range append(ends(), probes()...) {
		for _, packed := range []bool{false, true} {
			for at := range 8 {
				d := New()
				put(t, d, "p", text)
				run := open(t, d, "p", probeState(), packed)
				one := alone(t, text, first(), probeState(), packed)
				changes := []func(){
					func() { set(t, d, ones()) },
					func() { put(t, d, "p", five()) },
					func() { set(t, d, otherTables(first())[at]) },
					func() { put(t, d, "q", textOf("print r1, jump 0")) },
					func() { wantErrno(t, d.Drop("p"), api.OK) },
					func() { goOn(t, d, open(t, d, "q", api.State{}, !packed), 30) },
					func() { put(t, d, "p", text) },
					func() {
						m := ones()
						m.Units = [api.Classes]int{}
						set(t, d, m)
					},
				}
				for n := range 40 {
					if n >= at && n-at < len(changes) {
						changes[n-at]()
					}
					if got, want := goOn(t, d, run, 1), one.Run(1); !sameOutcome(got, want) {
						t.Fatalf("%s, packed %v, changed from %d on, step %d: %v, want %v", text, packed, at, n, got, want)
					}
				}
			}
		}
	}
}

// A run that is opened behind a change goes by what is there then.
func TestLaterRunsGoByWhatIsThereThen(t *testing.T) {
	d := New()
	put(t, d, "p", textOf("const r1 1, halt r1"))
	a, b := open(t, d, "p", api.State{}, false), open(t, d, "p", api.State{}, true)
	put(t, d, "p", textOf("const r1 2, halt r1"))
	wantNames(t, d, "p")
	c, e := open(t, d, "p", api.State{}, false), open(t, d, "p", api.State{}, true)
	wantErrno(t, d.Drop("p"), api.OK)
	put(t, d, "p", textOf("const r1 3, halt r1"))
	f, g := open(t, d, "p", api.State{}, false), open(t, d, "p", api.State{}, true)
	for n, run := range []int{a, b, c, e, f, g} {
		wantEnd(t, goOn(t, d, run, 9), api.OK, int64(n/2+1))
	}
}
