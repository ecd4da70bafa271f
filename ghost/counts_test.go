package ghost

import (
	"fmt"
	"math"
	"slices"
	"testing"

	"hayloft/api"
)

// at answers an operation as it is issued in a cycle; neither the bundle nor the tag makes a difference.
func at(t testing.TB, cycle int, text string) api.Issue {
	t.Helper()
	return api.Issue{Cycle: cycle, At: -7, Op: readOp(t, text), Tag: api.Tag{Block: cycle, Op: 3}}
}

// wantBusy says what Busy answers, in whatever order the issues stand.
func wantBusy(t testing.TB, m api.Table, want bool, l ...api.Issue) {
	t.Helper()
	for _, l := range orders(l) {
		if got := Busy(l, m); got != want {
			t.Errorf("Busy(%q, %v) is %v", told(l), m, got)
		}
	}
}

// wantHazards says what Hazards answers, in whatever order the issues stand.
func wantHazards(t testing.TB, m api.Table, want int, l ...api.Issue) {
	t.Helper()
	for _, l := range orders(l) {
		if got := Hazards(l, m); got != want {
			t.Errorf("Hazards(%q, %v) is %d, want %d", told(l), m, got, want)
		}
	}
}

// orders answers a list in some other orders: all that there are of up to four.
func orders(l []api.Issue) [][]api.Issue {
	if len(l) < 2 {
		return [][]api.Issue{l}
	}
	var all [][]api.Issue
	for n := range l {
		rest := slices.Concat(l[n+1:], l[:n])
		if len(l) > 4 {
			all = append(all, append([]api.Issue{l[n]}, rest...))
			slices.Reverse(rest)
			all = append(all, append([]api.Issue{l[n]}, rest...))
			continue
		}
		for _, order := range orders(rest) {
			all = append(all, append([]api.Issue{l[n]}, order...))
		}
	}
	return all
}

// noTables are tables that are none, each by one number alone.
func noTables() []api.Table {
	var all []api.Table
	spoil := func(change func(m *api.Table)) {
		m := wide()
		change(&m)
		all = append(all, m)
	}
	for class := range api.Classes {
		for _, value := range []int{-1, api.MaxUnits + 1, math.MinInt, math.MaxInt} {
			spoil(func(m *api.Table) { m.Units[class] = value })
		}
		for _, value := range []int{0, -1, api.MaxLatency + 1, math.MaxInt} {
			spoil(func(m *api.Table) { m.Lat[class] = value })
		}
		for _, value := range []int{0, -1, api.MaxBusy + 1, math.MaxInt} {
			spoil(func(m *api.Table) { m.Busy[class] = value })
		}
	}
	for _, value := range []int{-1, api.MaxDelay + 1, math.MinInt, math.MaxInt} {
		spoil(func(m *api.Table) { m.Delay = value })
	}
	return append(all, api.Table{})
}

func TestCountsOfChapterExamples(t *testing.T) {
	m := lats(ones(), 2, 3, 2, 2)
	wantBusy(t, m, true, at(t, 0, "add r1 r5 r5"), at(t, 1, "move r2 r1"))
	wantHazards(t, m, 1, at(t, 0, "add r1 r5 r5"), at(t, 1, "move r2 r1"))
	wantBusy(t, m, true, at(t, 0, "add r1 r5 r5"), at(t, 2, "move r2 r1"))
	wantHazards(t, m, 0, at(t, 0, "add r1 r5 r5"), at(t, 2, "move r2 r1"))
	wantBusy(t, m, false, at(t, 0, "add r1 r5 r5"), at(t, 0, "add r2 r5 r5"))
	wantHazards(t, m, 1, at(t, 0, "times r1 r5 r5"), at(t, 1, "add r1 r5 r5"))
}

func TestCountsOfNoTable(t *testing.T) {
	pair := []api.Issue{at(t, 0, "add r1 r5 r5"), at(t, 1, "add r1 r1 r1")}
	m := lats(ones(), 3, 1, 1, 1)
	wantBusy(t, m, true, pair...)
	wantHazards(t, m, 1, pair...)
	for _, m := range noTables() {
		for _, l := range [][]api.Issue{nil, {}, pair, pair[:1], {at(t, -1, "nop")}} {
			if Busy(l, m) || Hazards(l, m) != 0 {
				t.Errorf("%q, %v: %v, %d", told(l), m, Busy(l, m), Hazards(l, m))
			}
		}
	}
}

func TestCountsOfNoIssues(t *testing.T) {
	for _, m := range []api.Table{ones(), wide(), units(ones(), 0, 0, 0, 0)} {
		if !Busy(nil, m) || !Busy([]api.Issue{}, m) || Hazards(nil, m) != 0 || Hazards([]api.Issue{}, m) != 0 {
			t.Error(m)
		}
	}
}

// A cycle that no run has is refused, whatever is issued in it, and wherever in the list it stands.
func TestCountsOfNoCycle(t *testing.T) {
	m := lats(ones(), 3, 1, 1, 1)
	for _, first := range []int{0, 1, api.MaxSteps - 9} {
		pair := []api.Issue{at(t, first, "add r1 r5 r5"), at(t, first+1, "move r2 r1")}
		wantBusy(t, m, true, pair...)
		wantHazards(t, m, 1, pair...)
		for _, cycle := range []int{-1, -2, math.MinInt, api.MaxSteps + 1, api.MaxSteps + 2, math.MaxInt, math.MaxInt - 2} {
			for _, text := range []string{"add r6 r7 r7", "nop", "print r9", "halt r9"} {
				wantBusy(t, m, false, append(pair, at(t, cycle, text))...)
				wantHazards(t, m, 0, append(pair, at(t, cycle, text))...)
			}
		}
		for _, cycle := range []int{first + 5, api.MaxSteps} {
			wantBusy(t, m, true, append(pair, at(t, cycle, "add r6 r7 r7"))...)
			wantHazards(t, m, 1, append(pair, at(t, cycle, "add r6 r7 r7"))...)
		}
	}
	// The last cycles that there are: what is busy, and what lands, goes on behind them.
	last := api.MaxSteps
	m = busies(lats(ones(), 8, 1, 1, 1), 4, 4, 4, 4)
	wantBusy(t, m, false, at(t, last, "add r1 r5 r5"), at(t, last-3, "add r2 r5 r5"))
	wantBusy(t, m, true, at(t, last, "add r1 r5 r5"), at(t, last-4, "add r2 r5 r5"))
	wantHazards(t, m, 1, at(t, last-7, "add r1 r5 r5"), at(t, last, "move r2 r1"))
	wantHazards(t, m, 0, at(t, last-8, "add r1 r5 r5"), at(t, last, "move r2 r1"))
	wantHazards(t, m, 1, at(t, last-7, "add r1 r5 r5"), at(t, last, "times r1 r6 r6"))
	wantHazards(t, m, 1, at(t, last-1, "add r1 r5 r5"), at(t, last, "times r1 r6 r6"))
	wantHazards(t, m, 0, at(t, last-8, "add r1 r5 r5"), at(t, last, "times r1 r6 r6"))
}

// For each class operations of each of its kinds.
func textsOf(class int) []string {
	return [api.Classes][]string{
		{"add r1 r2 r3", "const r1 5", "move r1 r2", "equal r31 r0 r0", "shr r1 r2 r3"},
		{"times r1 r2 r3", "divide r1 r2 r3", "rest r1 r2 r3"},
		{"load r1 r2 3", "store r1 r2 3", "print r1"},
		{"jump 1", "branch r1 2", "halt r1", "count r1 2", "short r1 2 3", "again 1"},
	}[class]
}

// As many as there are units, and one more; of the other classes, full or without units, nothing is taken.
func TestUnitsOfEachClass(t *testing.T) {
	for class := range api.Classes {
		for count := range api.MaxUnits + 1 {
			for _, others := range []int{0, api.MaxUnits} {
				m := units(ones(), others, others, others, others)
				m.Units[class] = count
				var l []api.Issue
				for other := range api.Classes {
					if other != class {
						for n := range others {
							l = append(l, at(t, 3, textsOf(other)[n%len(textsOf(other))]))
						}
					}
				}
				for n := range count {
					l = append(l, at(t, 3, textsOf(class)[n%len(textsOf(class))]))
				}
				wantBusy(t, m, true, l...)
				for _, text := range textsOf(class) {
					wantBusy(t, m, false, append(l, at(t, 3, text))...)
					if count > 0 {
						wantBusy(t, m, true, append(l, at(t, 2, text), at(t, 4, text))...)
					} else {
						wantBusy(t, m, false, append(l, at(t, 2, text))...)
					}
				}
			}
		}
	}
}

// A unit is busy from the cycle of the issue on, for as many cycles as its class says.
func TestUnitsBusyForSeveralCycles(t *testing.T) {
	for class := range api.Classes {
		texts := textsOf(class)
		for busy := 1; busy <= api.MaxBusy; busy++ {
			for count := 1; count <= api.MaxUnits; count++ {
				m := ones()
				m.Units[class], m.Busy[class] = count, busy
				for other := range api.Classes {
					if other != class { // nothing hangs on these
						m.Busy[other] = 1 + (busy+other)%api.MaxBusy
					}
				}
				for _, first := range []int{0, 5, api.MaxSteps - 6} {
					var l []api.Issue
					for n := range count {
						l = append(l, at(t, first, texts[n%len(texts)]))
					}
					for apart := range 7 {
						wantBusy(t, m, apart >= busy, append(l, at(t, first+apart, texts[0]))...)
					}
				}
			}
		}
	}
	// Those that overlap need not have been issued together: a unit of two is busy in each, and in one cycle both and one more.
	m := busies(units(ones(), 2, 1, 1, 1), 3, 1, 1, 1)
	add := func(cycle int) api.Issue { return at(t, cycle, "add r1 r2 r3") }
	wantBusy(t, m, false, add(4), add(5), add(6))
	wantBusy(t, m, true, add(4), add(5), add(7))
	wantBusy(t, m, true, add(4), add(5), add(7), add(8))
	wantBusy(t, m, false, add(4), add(6), add(7), add(8))
	wantBusy(t, m, false, add(4), add(5), add(5))
	wantBusy(t, m, true, add(1), add(4), add(7), add(10), add(2), add(5), add(8), add(11))
	wantBusy(t, m, false, add(1), add(4), add(7), add(10), add(2), add(5), add(8), add(11), add(12))
}

// What is of no class needs no unit, and a class hangs on the kind alone.
func TestUnitsOfNoClass(t *testing.T) {
	none := units(ones(), 0, 0, 0, 0)
	for _, do := range []int8{api.Nop, api.Kinds, 127, -1, -128} {
		l := []api.Issue{{Op: api.Op{Do: do}}, {Op: api.Op{Do: do}, Cycle: api.MaxSteps}}
		wantBusy(t, none, true, l...)
		l[0].Cycle = -1
		wantBusy(t, none, false, l...)
	}
	broken := api.Issue{Op: api.Op{Do: api.Add, D: 200, Imm: 5}}
	wantBusy(t, none, false, broken)
	wantBusy(t, ones(), true, broken)
	wantBusy(t, ones(), false, broken, broken)
}

// A read meets a write from the cycle behind the write's on up to the last one ahead of that in which it lands.
func TestReadsAheadOfALanding(t *testing.T) {
	readers := []string{"add r2 r1 r9", "add r2 r9 r1", "add r2 r1 r1", "move r2 r1", "shl r2 r9 r1", "times r2 r1 r9", "divide r2 r9 r1", "load r2 r1 0", "store r1 r9 0",
		"store r9 r1 0", "store r1 r1 0", "print r1", "branch r1 0", "halt r1", "count r1 0", "short r1 9 0", "add r9 r1 r9"}
	others := []string{"const r2 1", "add r2 r9 r9", "jump 1", "short r9 1 1", "again 1", "nop", "print r0", "load r2 r9 1"}
	for class, writer := range []string{"sub r1 r5 r6", "times r1 r5 r6", "load r1 r5 6"} {
		for lat := 1; lat <= api.MaxLatency; lat++ {
			m := lats(ones(), 9-lat, 9-lat, 9-lat, 9-lat)
			m.Lat[class] = lat
			for apart := -3; apart < 11; apart++ {
				want := 0
				if apart > 0 && apart < lat {
					want = 1
				}
				for n, reader := range readers {
					wantHazards(t, m, want, at(t, 20, writer), at(t, 20+apart, reader))
					if n == 0 && apart >= 0 {
						wantHazards(t, m, want, at(t, 0, writer), at(t, apart, reader))
					}
				}
				for _, other := range others {
					wantHazards(t, m, 0, at(t, 20, writer), at(t, 20+apart, other))
				}
			}
		}
	}
}

// Each issue that reads, and each that has not landed, are a pair of their own; one that reads a register twice reads it once.
func TestReadsAreCountedByPairs(t *testing.T) {
	m := lats(wide(), 3, 5, 4, 1)
	alu, mul := at(t, 0, "add r1 r9 r9"), at(t, 0, "times r2 r9 r9")
	wantHazards(t, m, 1, alu, at(t, 1, "add r3 r1 r1"))
	wantHazards(t, m, 1, alu, mul, at(t, 1, "add r3 r1 r9"))
	wantHazards(t, m, 2, alu, mul, at(t, 1, "add r3 r1 r2"))
	wantHazards(t, m, 2, alu, mul, at(t, 1, "add r3 r2 r1"))
	wantHazards(t, m, 1, alu, mul, at(t, 3, "add r3 r1 r2"))
	wantHazards(t, m, 2, alu, at(t, 1, "print r1"), at(t, 1, "halt r1"))
	wantHazards(t, m, 3, alu, at(t, 1, "print r1"), at(t, 2, "print r1"), at(t, 2, "print r1"), at(t, 3, "print r1"))
	// Two writes of earlier cycles, which land in their order.
	wantHazards(t, m, 2, alu, at(t, 1, "add r1 r9 r9"), at(t, 2, "print r1"))
	wantHazards(t, m, 1, alu, at(t, 1, "add r1 r9 r9"), at(t, 3, "print r1"))
	wantHazards(t, m, 0, alu, at(t, 1, "add r1 r9 r9"), at(t, 4, "print r1"))
	// What one reads and writes itself: only an earlier one is in its way.
	wantHazards(t, m, 0, at(t, 4, "add r1 r1 r1"))
	wantHazards(t, m, 1, at(t, 4, "add r1 r1 r1"), at(t, 5, "add r1 r1 r1"))
	wantHazards(t, m, 0, at(t, 4, "add r1 r1 r1"), at(t, 7, "add r1 r1 r1"))
	// And a writer that stands ahead of one in the same cycle is not.
	wantHazards(t, m, 0, alu, at(t, 0, "print r1"), at(t, 0, "move r2 r1"))
	// Registers that are unlike, to the last one.
	for register := range 32 {
		for other := range 32 {
			want := 0
			if register == other {
				want = 1
			}
			wantHazards(t, m, want, at(t, 0, fmt.Sprintf("const r%d 1", register)), at(t, 1, fmt.Sprintf("print r%d", other)))
			wantHazards(t, m, want, at(t, 1, fmt.Sprintf("const r%d 1", register)), at(t, 0, fmt.Sprintf("load r%d r30 1", other)))
		}
	}
}

// Of two writes to a register the later one lands later, or they are a pair; of two of one cycle only if they land in one, too.
func TestWritesThatMeet(t *testing.T) {
	writers := []string{"sub r1 r5 r6", "times r1 r5 r6", "load r1 r5 6"}
	for first, one := range writers {
		for second, other := range writers {
			for lat := 1; lat <= api.MaxLatency; lat++ {
				for otherLat := 1; otherLat <= api.MaxLatency; otherLat++ {
					if first == second && lat != otherLat {
						continue
					}
					m := lats(wide(), 1, 1, 1, 8)
					m.Lat[first], m.Lat[second] = lat, otherLat
					for apart := range 10 {
						want := 0
						if lat == apart+otherLat || apart > 0 && lat > apart+otherLat {
							want = 1
						}
						wantHazards(t, m, want, at(t, 5, one), at(t, 5+apart, other))
						wantHazards(t, m, 0, at(t, 5, one), at(t, 5+apart, "const r2 1"))
						wantHazards(t, m, 0, at(t, 5, one), at(t, 5+apart, "const r0 1"))
						wantHazards(t, m, 0, at(t, 5, one), at(t, 5+apart, "store r9 r9 1"), at(t, 5+apart, "count r9 1"))
					}
				}
			}
		}
	}
}

func TestWritesAreCountedByPairs(t *testing.T) {
	m := lats(wide(), 1, 3, 2, 1)
	alu := func(cycle int) api.Issue { return at(t, cycle, "const r1 7") }
	mul := func(cycle int) api.Issue { return at(t, cycle, "times r1 r8 r9") }
	mem := func(cycle int) api.Issue { return at(t, cycle, "load r1 r8 9") }
	wantHazards(t, m, 0, alu(0), mul(0), mem(0))
	wantHazards(t, m, 1, alu(0), alu(0))
	wantHazards(t, m, 3, alu(0), alu(0), alu(0))
	wantHazards(t, m, 6, mul(0), mul(0), mul(0), mul(0))
	wantHazards(t, m, 28, mul(0), mul(0), mul(0), mul(0), mul(0), mul(0), mul(0), mul(0))
	wantHazards(t, m, 3, mul(0), mem(1), alu(2))
	wantHazards(t, m, 2, mul(0), mem(0), alu(1))
	wantHazards(t, m, 1, mul(0), mem(0), alu(2))
	wantHazards(t, m, 0, mul(0), mem(0), alu(3))
	wantHazards(t, m, 6, mul(0), mul(0), alu(1), alu(1)) // two by two, and each two of one cycle
	wantHazards(t, m, 2, mul(0), alu(0), mem(0), alu(1), at(t, 1, "const r2 1"), at(t, 0, "load r3 r8 9"))
	// Reads and writes of one issue count side by side.
	wantHazards(t, m, 2, mul(0), at(t, 1, "add r1 r1 r1"))
	wantHazards(t, m, 1, mul(0), at(t, 3, "add r1 r1 r1"), at(t, 3, "const r1 1"))
	// Registers that are unlike have pairs of their own.
	wantHazards(t, m, 2, mul(0), alu(1), at(t, 0, "times r31 r8 r9"), at(t, 2, "const r31 1"))
	// An issue that stands there twice is two.
	wantHazards(t, m, 3, mul(0), mul(0), at(t, 2, "print r1"))
}

// What is no operation neither reads nor writes.
func TestHazardsOfWhatIsNone(t *testing.T) {
	m := lats(wide(), 3, 3, 3, 3)
	for _, none := range []api.Op{{Do: api.Add, D: 1, A: 1, B: 1, Imm: 1}, {Do: api.Add, D: 32, A: 1, B: 1}, {Do: api.Print, A: 1, B: 1}, {Do: api.Kinds, D: 1, A: 1, B: 1},
		{Do: -1, D: 1, A: 1}, {Do: api.Nop, D: 1, A: 1}, {Do: api.Const, D: 1, Imm: 1 << 40}} {
		i := api.Issue{Cycle: 5, Op: none}
		wantHazards(t, m, 0, at(t, 4, "const r1 1"), i)
		wantHazards(t, m, 0, i, at(t, 6, "print r1"))
		wantHazards(t, m, 0, at(t, 5, "const r1 1"), i, i)
		wantHazards(t, m, 1, at(t, 4, "const r1 1"), i, at(t, 6, "print r1"))
	}
}
