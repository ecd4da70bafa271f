package batch

import (
	"errors"
	"fmt"
	"math"
	"slices"
	"strings"
	"testing"

	"hayloft/api"
	"hayloft/pack"
	"hayloft/parse"
	"hayloft/pipe"
	"hayloft/race"
	"hayloft/serial"
)

// textOf answers the text of blocks, told with commas between their lines, from block 0 on.
func textOf(blocks ...string) string {
	var text strings.Builder
	for n, lines := range blocks {
		fmt.Fprintf(&text, "block %d:\n%s\n", n, strings.ReplaceAll(lines, ", ", "\n"))
	}
	return text.String()
}

func ones() api.Table {
	return api.Table{Units: [api.Classes]int{1, 1, 1, 1}, Lat: [api.Classes]int{1, 1, 1, 1}, Busy: [api.Classes]int{1, 1, 1, 1}}
}

// wide is a table of as much as there can be.
func wide() api.Table {
	return api.Table{Units: [api.Classes]int{8, 8, 8, 8}, Lat: [api.Classes]int{8, 8, 8, 8}, Busy: [api.Classes]int{4, 4, 4, 4}, Delay: 4}
}

func tables() []api.Table {
	late := ones()
	late.Lat, late.Delay = [api.Classes]int{1, 3, 2, 1}, 1
	return []api.Table{ones(), late, wide()}
}

func regs(l ...int64) api.State { return api.State{Regs: l} }

// sameOutcome answers whether two outcomes are one, be an empty list nil or not.
func sameOutcome(a, b api.Outcome) bool {
	return a.E == b.E && a.Value == b.Value && a.Steps == b.Steps && slices.Equal(a.Prints, b.Prints) && slices.Equal(a.Mem, b.Mem)
}

func same(a, b api.Result) bool {
	return a.E == b.E && sameOutcome(a.Seq, b.Seq) && sameOutcome(a.Pipe, b.Pipe)
}

// told is a result without most of its cells and prints.
func told(x api.Result) string {
	one := func(o api.Outcome) string {
		return fmt.Sprintf("%v, value %d, %d prints %v, %d cells %v, %d steps", o.E, o.Value, len(o.Prints), o.Prints[:min(8, len(o.Prints))], len(o.Mem), o.Mem[:min(8, len(o.Mem))], o.Steps)
	}
	return fmt.Sprintf("%v (%s; %s)", x.E, one(x.Seq), one(x.Pipe))
}

// alone is the chapter told a second time of one text: what it is read as, packed for this alone, and what each machine tells that is asked by itself.
func alone(t testing.TB, text string, m api.Table, s api.State, steps int) api.Result {
	t.Helper()
	p, err := parse.Program(text)
	if err != nil {
		var fault *api.Fault
		if !errors.As(err, &fault) {
			t.Fatal(err)
		}
		return api.Result{E: fault.Code}
	}
	k, e := pack.Pack(p, m)
	if e != api.OK {
		return api.Result{E: e}
	}
	one, e := serial.New(p, s)
	if e != api.OK {
		t.Fatal(e)
	}
	many, e := pipe.New(k.Words, m, s)
	if e != api.OK {
		t.Fatal(e)
	}
	return api.Result{Seq: one.Run(steps), Pipe: many.Run(steps)}
}

// all is what alone tells of each text.
func all(t testing.TB, texts []string, m api.Table, s api.State, steps int) []api.Result {
	t.Helper()
	var l []api.Result
	for _, text := range texts {
		l = append(l, alone(t, text, m, s, steps))
	}
	return l
}

// wantResults says what Run tells, and that where there are outcomes they agree.
func wantResults(t testing.TB, got, want []api.Result) {
	t.Helper()
	if len(got) != len(want) {
		t.Fatalf("%d results, want %d", len(got), len(want))
	}
	for n := range want {
		if !same(got[n], want[n]) {
			t.Fatalf("text %d of %d: %s, want %s", n, len(want), told(got[n]), told(want[n]))
		}
		if got[n].E == api.OK && !race.Agree(got[n].Seq, got[n].Pipe) {
			t.Fatalf("text %d of %d: %s do not agree", n, len(want), told(got[n]))
		}
	}
}

// run answers what Run tells where it refuses nothing.
func run(t testing.TB, texts []string, m api.Table, s api.State, steps, workers int) []api.Result {
	t.Helper()
	l, e := Run(texts, m, s, steps, workers)
	if e != api.OK {
		t.Fatalf("%d texts, %v, %d steps, %d workers: %v", len(texts), m, steps, workers, e)
	}
	return l
}

// wantRun says that Run tells of each text what is told of it alone; and answers it.
func wantRun(t testing.TB, texts []string, m api.Table, s api.State, steps, workers int) []api.Result {
	t.Helper()
	l := run(t, texts, m, s, steps, workers)
	wantResults(t, l, all(t, texts, m, s, steps))
	return l
}

// wantEnd says how both ended, but for steps and memory.
func wantEnd(t testing.TB, x api.Result, end api.Errno, value int64, prints ...int64) {
	t.Helper()
	for _, o := range []api.Outcome{x.Seq, x.Pipe} {
		cells := 0
		if end == api.OK {
			cells = api.Cells
		}
		if x.E != api.OK || o.E != end || o.Value != value || !slices.Equal(o.Prints, prints) || len(o.Mem) != cells {
			t.Fatalf("%s, want %v, %d, %v", told(x), end, value, prints)
		}
	}
}

// wantRefused says that a text has an error, and nothing else.
func wantRefused(t testing.TB, x api.Result, e api.Errno) {
	t.Helper()
	if !same(x, api.Result{E: e}) || x.Seq.Prints != nil || x.Seq.Mem != nil || x.Pipe.Prints != nil || x.Pipe.Mem != nil {
		t.Errorf("%s, want %v", told(x), e)
	}
}

// wantError says that Run refuses all texts.
func wantError(t testing.TB, texts []string, m api.Table, s api.State, steps, workers int, want api.Errno) {
	t.Helper()
	if l, e := Run(texts, m, s, steps, workers); e != want || l != nil {
		t.Errorf("%d texts, %v, %d registers, %d cells: %d results, %v, want %v", len(texts), m, len(s.Regs), len(s.Mem), len(l), e, want)
	}
}

// workerCounts are those that there can be, and some on either side.
func workerCounts() []int {
	l := []int{math.MinInt, -1 << 32, -2, -1}
	for n := range api.MaxWorkers + 3 {
		l = append(l, n)
	}
	return append(l, 99, 128, 129, 1<<16, 1<<32, 1<<32+1, math.MaxInt)
}

func TestChapterExamples(t *testing.T) {
	for _, m := range tables() {
		for _, workers := range workerCounts() {
			l := wantRun(t, []string{"block 0:\n halt r1\n", "x"}, m, regs(0, 7), 50, workers)
			wantEnd(t, l[0], api.OK, 7)
			wantRefused(t, l[1], api.ErrSyntax)
			wantError(t, make([]string, 129), m, api.State{}, 50, workers, api.ErrLong)
			for _, none := range [][]string{nil, {}, make([]string, 0, 200)} {
				if l, e := Run(none, m, api.State{}, 50, workers); e != api.OK || len(l) != 0 {
					t.Errorf("no texts, %d workers: %v, %v", workers, l, e)
				}
			}
		}
	}
}

// numbered answers so many texts, each of which prints and ends with its own place.
func numbered(count int) []string {
	var l []string
	for n := range count {
		l = append(l, textOf(fmt.Sprintf("const r1 %d, print r1, store r0 r1 9, halt r1", n)))
	}
	return l
}

func wantNumbered(t testing.TB, l []api.Result) {
	t.Helper()
	for n, x := range l {
		wantEnd(t, x, api.OK, int64(n), int64(n))
		if x.Seq.Mem[9] != int64(n) || x.Pipe.Mem[9] != int64(n) || x.Seq.Steps != 4 {
			t.Errorf("text %d: %s", n, told(x))
		}
	}
}

func TestHowManyTexts(t *testing.T) {
	for _, workers := range workerCounts() {
		for _, count := range []int{1, 2, 3, 15, 16, 17, 127, api.MaxTexts} {
			l := run(t, numbered(count), ones(), api.State{}, 50, workers)
			if len(l) != count {
				t.Fatalf("%d texts, %d workers: %d results", count, workers, len(l))
			}
			wantNumbered(t, l)
		}
		for _, count := range []int{api.MaxTexts + 1, api.MaxTexts + 2, 256, 1000} {
			wantError(t, numbered(count), ones(), api.State{}, 50, workers, api.ErrLong)
		}
	}
	// What stands behind a list's end is none of its texts.
	wantNumbered(t, run(t, numbered(1000)[:api.MaxTexts], ones(), api.State{}, 50, 4))
	if l := run(t, numbered(1000)[:0], ones(), api.State{}, 50, 4); len(l) != 0 {
		t.Error(len(l))
	}
}

// noTables are tables that are none, each by one of its bounds; and those at a bound, of which each is one.
func noTables() (none, some []api.Table) {
	add := func(change func(m *api.Table, n int), least, most int) {
		for _, n := range []int{math.MinInt, least - 1, most + 1, math.MaxInt} {
			m := ones()
			change(&m, n)
			none = append(none, m)
		}
		for _, n := range []int{least, most} {
			m := ones()
			change(&m, n)
			some = append(some, m)
		}
	}
	for class := range api.Classes {
		add(func(m *api.Table, n int) { m.Units[class] = n }, 0, api.MaxUnits)
		add(func(m *api.Table, n int) { m.Lat[class] = n }, 1, api.MaxLatency)
		add(func(m *api.Table, n int) { m.Busy[class] = n }, 1, api.MaxBusy)
	}
	add(func(m *api.Table, n int) { m.Delay = n }, 0, api.MaxDelay)
	return append(none, api.Table{}), some
}

func TestTables(t *testing.T) {
	none, some := noTables()
	for _, count := range []int{0, 1, 2, api.MaxTexts} {
		for _, m := range none {
			wantError(t, numbered(count), m, api.State{}, 50, 3, api.ErrTable)
			wantError(t, make([]string, count), m, api.State{}, 50, 3, api.ErrTable)
		}
	}
	texts := append(numbered(3), textOf("times r1 r2 r2, halt r1"), "x")
	for _, m := range some {
		wantRun(t, texts, m, regs(0, 0, 4), 50, 3)
	}
	// A table without a unit is one, whatever the texts need.
	m := ones()
	m.Units = [api.Classes]int{}
	for _, x := range run(t, numbered(4), m, api.State{}, 50, 3) {
		wantRefused(t, x, api.ErrNoUnit)
	}
}

func TestStates(t *testing.T) {
	text := textOf("load r1 r0 255, load r2 r0 0, print r31, print r1, print r2, halt r30")
	for _, registers := range []int{0, 1, 31, 32, 33, 34, 64, 1000} {
		for _, cells := range []int{0, 1, 255, 256, 257, 258, 512, 1000} {
			s := api.State{Regs: make([]int64, registers), Mem: make([]int64, cells)}
			for n := range s.Regs {
				s.Regs[n] = int64(n)
			}
			for n := range s.Mem {
				s.Mem[n] = 1000 + int64(n)
			}
			if registers > api.Registers || cells > api.Cells {
				for _, texts := range [][]string{nil, {}, {text}, {"x"}, numbered(api.MaxTexts)} {
					wantError(t, texts, ones(), s, 50, 2, api.ErrArg)
				}
				continue
			}
			var last, at0, at255, ahead int64
			if registers > 30 {
				ahead = 30
			}
			if registers > 31 {
				last = 31
			}
			if cells > 0 {
				at0 = 1000
			}
			if cells > 255 {
				at255 = 1255
			}
			l := wantRun(t, []string{text, "x", text}, ones(), s, 50, 2)
			for _, n := range []int{0, 2} {
				wantEnd(t, l[n], api.OK, ahead, last, at255, at0)
			}
			wantRefused(t, l[1], api.ErrSyntax)
		}
	}
}

// Of several errors ErrLong is the first, then the table's, then ErrArg; whatever the texts, the steps and the workers.
func TestWhichErrorIsFirst(t *testing.T) {
	none, some := noTables()
	found := map[api.Errno]int{}
	for _, count := range []int{0, 1, 127, 128, 129, 200} {
		for _, texts := range [][]string{make([]string, count), slices.Repeat([]string{"block 0:\nhalt r1\n"}, count), slices.Repeat([]string{"x"}, count)} {
			for n, m := range []api.Table{none[0], none[len(none)-1], some[0], some[1]} {
				for _, s := range []api.State{{}, regs(make([]int64, 32)...), regs(make([]int64, 33)...), {Mem: make([]int64, 256)}, {Mem: make([]int64, 257)}} {
					want := api.OK
					switch {
					case count > 128:
						want = api.ErrLong
					case n < 2:
						want = api.ErrTable
					case len(s.Regs) > 32 || len(s.Mem) > 256:
						want = api.ErrArg
					}
					for _, other := range []int{-5, 0, 3, math.MaxInt} {
						l, e := Run(texts, m, s, other, other)
						if e != want || e != api.OK && l != nil || e == api.OK && len(l) != count {
							t.Errorf("%d texts, %v, %d registers, %d cells: %d results, %v, want %v", count, m, len(s.Regs), len(s.Mem), len(l), e, want)
						}
						found[e]++
					}
				}
			}
		}
	}
	if len(found) != 4 {
		t.Errorf("by errors %v", found)
	}
}

// filled answers a text of so many bytes, which says what that one says.
func filled(text string, bytes int) string {
	return text + "#" + strings.Repeat("x", bytes-len(text)-1)
}

// lines answers a text of as many blocks, each with as many prints.
func lines(blocks, prints int) string {
	return textOf(slices.Repeat([]string{strings.Repeat("print r0, ", prints) + "halt r0"}, blocks)...)
}

// refused are texts that are refused, each with the error's number, for every fault that there is of a program's text.
func refused() map[string]api.Errno {
	l := map[string]api.Errno{
		"": api.ErrSyntax, "\n": api.ErrSyntax, " # nothing\n\n": api.ErrSyntax, "x": api.ErrSyntax, "\x00\xff": api.ErrSyntax, "block": api.ErrSyntax,
		"block 1:\nhalt r1\n": api.ErrSyntax, "block 0:\n": api.ErrSyntax, "block 0:\nadd r1 r2\nhalt r1\n": api.ErrSyntax,
		"block 0:\nhalt r32\n": api.ErrSyntax, "block 0:\nhalt r1 r2\n": api.ErrSyntax, "block 0:\nnop\nhalt r1\n": api.ErrSyntax,
		"block 0:\nconst r1 2147483648\nhalt r1\n": api.ErrSyntax, "block 0:\nloop r1 {\n": api.ErrSyntax, "block 0:\nloop r1 {\n}\n": api.ErrSyntax,
		"block 0:\nhalt r1\n}\n": api.ErrSyntax, "block 0:\nhalt r1\nblock 0:\nhalt r1\n": api.ErrSyntax, "block 0:\nprint r1\n\x00": api.ErrSyntax,
		"block 0:\njump 1\n": api.ErrProgram, "block 0:\njump -1\n": api.ErrProgram, "block 0:\nbranch r1 0 7\n": api.ErrProgram, "block 0:\nloop r1 {\n}\njump 9\n": api.ErrProgram,
		lines(api.MaxBlocks+1, 0): api.ErrLong, lines(1, api.MaxOps): api.ErrLong,
		strings.Repeat(" ", api.MaxText+1): api.ErrLong, strings.Repeat("x", 2*api.MaxText): api.ErrLong, filled("block 0:\nhalt r1\n", api.MaxText+1): api.ErrLong,
		strings.Repeat(" ", api.MaxText): api.ErrSyntax, strings.Repeat("x", api.MaxText): api.ErrSyntax,
	}
	return l
}

func TestTextsThatAreRefused(t *testing.T) {
	good := textOf("print r3, halt r1")
	for text, want := range refused() {
		for _, steps := range []int{-1, 0, 50} {
			wantRefused(t, run(t, []string{text}, ones(), regs(0, 7), steps, 2)[0], want)
		}
		l := wantRun(t, []string{good, text, good, text, text, good}, ones(), regs(0, 7), 50, 2)
		for _, n := range []int{1, 3, 4} {
			wantRefused(t, l[n], want)
		}
		for _, n := range []int{0, 2, 5} {
			wantEnd(t, l[n], api.OK, 7, 0)
		}
	}
}

// Texts, and programs, that are as long as they may be.
func TestTheLongestTexts(t *testing.T) {
	long := filled("block 0:\nhalt r1\n", api.MaxText)
	if len(long) != api.MaxText {
		t.Fatal(len(long))
	}
	texts := []string{long, long + "x", long, long[:api.MaxText-1], lines(api.MaxBlocks, 0), lines(1, api.MaxOps-1)}
	l := wantRun(t, texts, ones(), regs(0, 7), 5000, 2)
	for _, n := range []int{0, 2, 3} {
		wantEnd(t, l[n], api.OK, 7)
	}
	wantRefused(t, l[1], api.ErrLong)
	wantEnd(t, l[4], api.OK, 0)
	wantEnd(t, l[5], api.OK, 0, make([]int64, api.MaxOps-1)...)
	// All of them at once, as many as there can be.
	for n, x := range run(t, slices.Repeat([]string{long, long + "x"}, api.MaxTexts/2), ones(), regs(0, 7), 50, 5) {
		if n%2 == 0 {
			wantEnd(t, x, api.OK, 7)
		} else {
			wantRefused(t, x, api.ErrLong)
		}
	}
}

// Programs that need a class that has no unit, beside those that do not; a text that is no program is told as such ahead of that.
func TestProgramsThatNeedUnits(t *testing.T) {
	texts := []string{textOf("halt r3"), textOf("add r1 r1 r1, halt r3"), textOf("rest r1 r1 r3, halt r3"), textOf("print r1, halt r3"), "x", textOf("jump 7"), textOf("times r1 r1 r1, jump 1", "add r1 r1 r1, load r2 r0 0, jump 0")}
	needs := [][]int{{}, {api.Alu}, {api.Mul}, {api.Mem}, nil, nil, {api.Alu, api.Mul, api.Mem}}
	for without := range 1 << api.Classes {
		m := ones()
		for class := range api.Classes {
			m.Units[class] = 1 - without>>class&1
		}
		for _, steps := range []int{0, 50} {
			l := wantRun(t, texts, m, regs(0, 1, 2, 3), steps, 3)
			for n, x := range l {
				lacks := m.Units[api.Ctl] == 0 || slices.ContainsFunc(needs[n], func(class int) bool { return m.Units[class] == 0 })
				switch {
				case n == 4:
					wantRefused(t, x, api.ErrSyntax)
				case n == 5:
					wantRefused(t, x, api.ErrProgram)
				case lacks:
					wantRefused(t, x, api.ErrNoUnit)
				case steps == 0 || n == 6:
					wantEnd(t, x, api.ErrFuel, 0)
				default:
					want := []int64{1}
					if n != 3 {
						want = nil
					}
					wantEnd(t, x, api.OK, 3, want...)
				}
			}
		}
	}
}

// stepCounts are some of those that there can be, and some on either side.
func stepCounts() []int {
	l := []int{math.MinInt, math.MinInt + 1, -1 << 32, -2, -1}
	for n := range 20 {
		l = append(l, n)
	}
	return append(l, 1000, 1<<16, api.MaxSteps-1, api.MaxSteps, api.MaxSteps+1, 1<<21, 1<<32, 1<<32+1, math.MaxInt)
}

// Both machines run as far as the one number says, be it one that must be brought into its bounds first.
func TestSteps(t *testing.T) {
	texts := []string{textOf("print r3, print r1, halt r3"), textOf("print r3, divide r1 r1 r0, halt r3"), textOf("add r1 r1 r3, jump 0"), textOf("divide r1 r1 r0, halt r0")}
	for _, steps := range stepCounts() {
		counted := min(max(steps, 0), api.MaxSteps)
		l := wantRun(t, texts, ones(), regs(0, 5, 0, 7), steps, 2)
		if steps >= 3 {
			wantEnd(t, l[0], api.OK, 7, 7, 5)
		} else {
			wantEnd(t, l[0], api.ErrFuel, 0, []int64{7, 5}[:counted]...)
		}
		if steps >= 2 {
			wantEnd(t, l[1], api.ErrDivide, 0, 7)
		}
		if l[2].Seq.E != api.ErrFuel || l[2].Pipe.E != api.ErrFuel || l[2].E != api.OK || l[2].Seq.Steps != counted || l[2].Pipe.Steps != counted {
			t.Errorf("%d steps: %s", steps, told(l[2]))
		}
		// Serial tells a trap though it has no step left, pipe must come to its cycle: they need not end alike to agree.
		if l[3].E != api.OK || l[3].Seq.E != api.ErrDivide || counted == 0 && l[3].Pipe.E != api.ErrFuel || counted > 0 && l[3].Pipe.E != api.ErrDivide {
			t.Errorf("%d steps: %s", steps, told(l[3]))
		}
	}
}

// Cycles are as many as steps, not more: by a slow table pipe has not ended where serial has.
func TestAsManyCyclesAsSteps(t *testing.T) {
	m := ones()
	m.Lat = [api.Classes]int{8, 8, 8, 1}
	text := textOf("add r1 r1 r1, times r1 r1 r1, print r1, halt r1") // a print in cycle 16 and the halt in it or behind it
	whole := alone(t, text, m, regs(0, 2), 1000)
	if whole.Seq.Steps != 4 || whole.Pipe.Steps < 17 {
		t.Fatal(told(whole))
	}
	for steps := range whole.Pipe.Steps + 3 {
		x := wantRun(t, []string{text}, m, regs(0, 2), steps, 1)[0]
		if x.E != api.OK || (x.Seq.E == api.OK) != (steps >= 4) || (x.Pipe.E == api.OK) != (steps >= whole.Pipe.Steps) || x.Pipe.Steps != min(steps, whole.Pipe.Steps) {
			t.Errorf("%d steps: %s", steps, told(x))
		}
	}
}
