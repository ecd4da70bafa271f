package rounds

import (
	"math"
	"slices"
	"testing"

	"hayloft/api"
)

func plan(every, stages int, cycles ...int) api.Plan {
	return api.Plan{Every: every, Cycles: cycles, Stages: stages}
}

// The chapter's plan.
func example() api.Plan { return plan(2, 2, 0, 1, 3) }

// row answers a row of operations and rounds, told one behind the other.
func row(numbers ...int) []api.Slot {
	var all []api.Slot
	for ; len(numbers) > 0; numbers = numbers[2:] {
		all = append(all, api.Slot{Op: numbers[0], Cycle: numbers[1]})
	}
	return all
}

func rows(all ...[]api.Slot) [][]api.Slot { return all }

// Rows are the same, if an empty one may be nil or empty.
func same(a, b [][]api.Slot) bool { return slices.EqualFunc(a, b, slices.Equal) }

func wantWhole(t *testing.T, p api.Plan, n int, want [][]api.Slot) {
	t.Helper()
	if got, e := Whole(p, n); e != api.OK || !same(got, want) {
		t.Errorf("Whole(%v, %d) is %v, %v, want %v", p, n, got, e, want)
	}
}

// wantCount says that so many rounds have so many rows.
func wantCount(t *testing.T, p api.Plan, n, want int) {
	t.Helper()
	if got, e := Whole(p, n); e != api.OK || len(got) != want {
		t.Errorf("Whole(%v, %d) has %d rows, %v, want %d", p, n, len(got), e, want)
	}
}

func wantParts(t *testing.T, p api.Plan, first, kernel, last [][]api.Slot) {
	t.Helper()
	if a, b, c, e := Parts(p); e != api.OK || !same(a, first) || !same(b, kernel) || !same(c, last) {
		t.Errorf("Parts(%v) is %v, %v, %v, %v, want %v, %v, %v", p, a, b, c, e, first, kernel, last)
	}
}

func wantPartsCount(t *testing.T, p api.Plan, first, kernel, last int) {
	t.Helper()
	if a, b, c, e := Parts(p); e != api.OK || len(a) != first || len(b) != kernel || len(c) != last {
		t.Errorf("Parts(%v) has %d, %d, %d rows, %v, want %d, %d, %d", p, len(a), len(b), len(c), e, first, kernel, last)
	}
}

// The errors have no rows beside them.
func wantWholeRefused(t *testing.T, p api.Plan, n int, want api.Errno) {
	t.Helper()
	if got, e := Whole(p, n); e != want || got != nil {
		t.Errorf("Whole(%v, %d) is %d rows, %v, want %v", p, n, len(got), e, want)
	}
}

func wantPartsRefused(t *testing.T, p api.Plan, want api.Errno) {
	t.Helper()
	if a, b, c, e := Parts(p); e != want || a != nil || b != nil || c != nil {
		t.Errorf("Parts(%v) is %d, %d, %d rows, %v, want %v", p, len(a), len(b), len(c), e, want)
	}
}

// wantNone says that it is no plan, for any number of rounds.
func wantNone(t *testing.T, p api.Plan) {
	t.Helper()
	for _, n := range []int{0, 1, 2, 3, -1, api.MaxCycles, api.MaxCycles + 1, math.MinInt, math.MaxInt} {
		wantWholeRefused(t, p, n, api.ErrArg)
	}
	wantPartsRefused(t, p, api.ErrArg)
}

// wantSome says that it is a plan: no rounds of it are no rows, or it is too long; and those of one are its own.
func wantSome(t *testing.T, p api.Plan) {
	t.Helper()
	if p.Every*p.Stages > api.MaxCycles {
		wantWholeRefused(t, p, 0, api.ErrLong)
		wantPartsRefused(t, p, api.ErrLong)
	} else {
		wantWhole(t, p, 0, nil)
	}
	wantWholeRefused(t, p, -1, api.ErrArg)
	if p.Every*p.Stages+p.Every > api.MaxCycles {
		wantWholeRefused(t, p, 1, api.ErrLong)
		return
	}
	want := make([][]api.Slot, p.Every*p.Stages)
	for n, cycle := range p.Cycles {
		want[cycle] = append(want[cycle], api.Slot{Op: n})
	}
	wantWhole(t, p, 1, want)
}

func TestChapterExamples(t *testing.T) {
	wantWhole(t, example(), 1, rows(row(0, 0), row(1, 0), nil, row(2, 0)))
	wantWhole(t, example(), 2, rows(row(0, 0), row(1, 0), row(0, 1), row(2, 0, 1, 1), nil, row(2, 1)))
	wantParts(t, example(), rows(row(0, 0), row(1, 0)), rows(row(0, 1), row(2, 0, 1, 1)), rows(nil, row(2, 1)))
	wantWhole(t, example(), 0, nil)
	wantWholeRefused(t, example(), -1, api.ErrArg)
	wantPartsRefused(t, plan(2, 1, 0, 1, 3), api.ErrArg)
}

// The chapter's plan with rounds below, of and above its Stages, told by hand.
func TestMoreRounds(t *testing.T) {
	wantWhole(t, example(), 3, rows(row(0, 0), row(1, 0), row(0, 1), row(2, 0, 1, 1), row(0, 2), row(2, 1, 1, 2), nil, row(2, 2)))
	wantWhole(t, example(), 4, rows(row(0, 0), row(1, 0), row(0, 1), row(2, 0, 1, 1), row(0, 2), row(2, 1, 1, 2), row(0, 3), row(2, 2, 1, 3), nil, row(2, 3)))
	p := plan(1, 3, 2, 0, 0)
	wantWhole(t, p, 0, nil)
	wantWhole(t, p, 1, rows(row(1, 0, 2, 0), nil, row(0, 0)))
	wantWhole(t, p, 2, rows(row(1, 0, 2, 0), row(1, 1, 2, 1), row(0, 0), row(0, 1)))
	wantWhole(t, p, 3, rows(row(1, 0, 2, 0), row(1, 1, 2, 1), row(0, 0, 1, 2, 2, 2), row(0, 1), row(0, 2)))
	wantWhole(t, p, 4, rows(row(1, 0, 2, 0), row(1, 1, 2, 1), row(0, 0, 1, 2, 2, 2), row(0, 1, 1, 3, 2, 3), row(0, 2), row(0, 3)))
	wantParts(t, p, rows(row(1, 0, 2, 0), row(1, 1, 2, 1)), rows(row(0, 0, 1, 2, 2, 2)), rows(row(0, 1), row(0, 2)))
}

// Of one stage nothing begins ahead of the kernel, and nothing runs out behind it.
func TestOneStage(t *testing.T) {
	p := plan(3, 1, 2, 0, 2)
	wantWhole(t, p, 1, rows(row(1, 0), nil, row(0, 0, 2, 0)))
	wantWhole(t, p, 2, rows(row(1, 0), nil, row(0, 0, 2, 0), row(1, 1), nil, row(0, 1, 2, 1)))
	wantParts(t, p, nil, rows(row(1, 0), nil, row(0, 0, 2, 0)), nil)
}

// A row goes by rounds first, whichever way the numbers go, and then by numbers.
func TestARowsOrder(t *testing.T) {
	// The later an operation is in its round, the earlier is the round that issues it.
	_, kernel, _, _ := Parts(plan(1, 4, 0, 1, 2, 3))
	if !same(kernel, rows(row(3, 0, 2, 1, 1, 2, 0, 3))) {
		t.Error(kernel)
	}
	_, kernel, _, _ = Parts(plan(1, 4, 3, 2, 1, 0))
	if !same(kernel, rows(row(0, 0, 1, 1, 2, 2, 3, 3))) {
		t.Error(kernel)
	}
	// Several operations of several rounds.
	_, kernel, _, _ = Parts(plan(1, 3, 1, 0, 2, 1, 2, 0, 1))
	if !same(kernel, rows(row(2, 0, 4, 0, 0, 1, 3, 1, 6, 1, 1, 2, 5, 2))) {
		t.Error(kernel)
	}
	_, kernel, _, _ = Parts(plan(2, 2, 1, 0, 3, 2, 3, 0, 1))
	if !same(kernel, rows(row(3, 0, 1, 1, 5, 1), row(2, 0, 4, 0, 0, 1, 6, 1))) {
		t.Error(kernel)
	}
	// All operations that there can be, in one cycle of one round, and each in a round of its own.
	var together, falling []api.Slot
	cycles := make([]int, api.MaxBody)
	for n := range cycles {
		together = append(together, api.Slot{Op: n})
		cycles[n] = n
	}
	wantWhole(t, plan(1, 1, make([]int, api.MaxBody)...), 1, rows(together))
	for round := range api.MaxBody {
		falling = append(falling, api.Slot{Op: api.MaxBody - 1 - round, Cycle: round})
	}
	if _, kernel, _, e := Parts(plan(1, api.MaxBody, cycles...)); e != api.OK || !same(kernel, rows(falling)) {
		t.Error(kernel, e)
	}
}

func TestEveryThatMayBe(t *testing.T) {
	for _, every := range []int{0, -1, -2, api.MaxCycles + 1, 2 * api.MaxCycles, math.MinInt, math.MaxInt} {
		for _, stages := range []int{-1, 0, 1, 2} {
			wantNone(t, plan(every, stages))
			wantNone(t, plan(every, stages, 0))
			wantNone(t, plan(every, stages, 0, 1))
			wantNone(t, plan(every, stages, -1))
		}
	}
	// Stages that would be right, were an Every below 0 one.
	wantNone(t, plan(math.MinInt, math.MinInt, 0))
	wantNone(t, plan(-1, -2, 0, 1))
	for _, every := range []int{1, 2, api.MaxCycles - 1, api.MaxCycles} {
		wantSome(t, plan(every, 1))
		wantSome(t, plan(every, 1, 0))
		wantSome(t, plan(every, 1, every-1, 0))
		wantSome(t, plan(every, 2, every, 0))
		wantNone(t, plan(every, 1, every))
		wantNone(t, plan(every, 2, every-1))
	}
}

func TestNoCycles(t *testing.T) {
	for _, cycles := range [][]int{nil, {}, make([]int, 0, 3), []int{1, 2}[:0]} {
		p := plan(3, 1, cycles...)
		wantWhole(t, p, 0, nil)
		wantWhole(t, p, 1, make([][]api.Slot, 3))
		wantWhole(t, p, 4, make([][]api.Slot, 12))
		wantParts(t, p, nil, make([][]api.Slot, 3), nil)
		for _, stages := range []int{0, 2, -1, 3, math.MinInt, math.MaxInt} {
			wantNone(t, plan(3, stages, cycles...))
			wantNone(t, plan(1, stages, cycles...))
		}
	}
}

// What stands behind the end of Cycles is none of them.
func TestTheMostCycles(t *testing.T) {
	all := make([]int, 2*api.MaxBody)
	for n := range all {
		all[n] = n % 5
	}
	all[api.MaxBody] = -1
	wantSome(t, plan(2, 3, all[:api.MaxBody]...))
	wantSome(t, plan(2, 3, all[:api.MaxBody-1]...))
	all[api.MaxBody] = 0
	wantNone(t, plan(2, 3, all[:api.MaxBody+1]...))
	wantNone(t, plan(2, 3, all...))
	wantNone(t, plan(1, 1, make([]int, api.MaxBody+1)...))
	wantNone(t, plan(1, 1, make([]int, api.MaxOps)...))
	wantSome(t, plan(1, 1, make([]int, api.MaxBody)...))
}

func TestCyclesThatMayBe(t *testing.T) {
	for _, cycle := range []int{-1, -2, api.MaxCycles + 1, 2 * api.MaxCycles, math.MinInt, math.MaxInt} {
		for at := range 4 {
			cycles := []int{0, 1, 3, 2}
			cycles[at] = cycle
			for _, stages := range []int{-1, 0, 1, 2, 3, cycle/2 + 1, cycle/2 + 2} {
				wantNone(t, plan(2, stages, cycles...))
			}
		}
	}
	for _, every := range []int{1, 2, 3, 1000, api.MaxCycles} {
		for _, cycle := range []int{0, 1, api.MaxCycles - 1, api.MaxCycles} {
			stages := cycle/every + 1
			for _, cycles := range [][]int{{cycle}, {cycle, 0}, {0, cycle}} {
				wantSome(t, plan(every, stages, cycles...))
				wantNone(t, plan(every, stages-1, cycles...))
				wantNone(t, plan(every, stages+1, cycles...))
			}
		}
	}
}

func TestStagesThatMayBe(t *testing.T) {
	for every := 1; every <= 6; every++ {
		for last := range 20 {
			right := 1
			for right*every < last+1 {
				right++
			}
			for _, p := range []api.Plan{plan(every, 0, last), plan(every, 0, 0, last), plan(every, 0, last, 0, last/2)} {
				for stages := -2; stages <= 25; stages++ {
					if p.Stages = stages; stages == right {
						wantSome(t, p)
					} else {
						wantNone(t, p)
					}
				}
			}
		}
	}
	for _, stages := range []int{math.MinInt, math.MinInt + 2, math.MaxInt, math.MaxInt - 1, 1<<32 + 2, -2} {
		wantNone(t, plan(2, stages, 0, 1, 3))
	}
}

// How many rows there are, of rounds below Stages, of Stages and above.
func TestHowManyRows(t *testing.T) {
	for _, p := range []api.Plan{example(), plan(1, 1), plan(4, 1, 3), plan(3, 5, 12), plan(3, 5, 14), plan(1, 31, 30, 0)} {
		wantCount(t, p, 0, 0)
		for n := 1; n <= 3*p.Stages; n++ {
			wantCount(t, p, n, (n-1+p.Stages)*p.Every)
		}
		wantPartsCount(t, p, (p.Stages-1)*p.Every, p.Every, (p.Stages-1)*p.Every)
		for _, n := range []int{-1, -2, -p.Stages, 1 - p.Stages, math.MinInt} {
			if n < 0 {
				wantWholeRefused(t, p, n, api.ErrArg)
			}
		}
	}
}

// n times Every, and Every times Stages, together MaxCycles, and one Every more.
func TestTheLongestWhole(t *testing.T) {
	for _, p := range []api.Plan{
		plan(1, 1), plan(1, 1, 0), plan(2, 2, 0, 1, 3), plan(4, 3, 11, 8), plan(256, 1, 7), plan(1, 100, 99), plan(32768, 1, 32767),
		plan(16384, 2, 16384), plan(3, 2, 5), plan(7, 3, 14), plan(5, 1, 4), plan(1000, 2, 1999, 0), plan(65535, 1), plan(65536, 1, 0),
		plan(1, api.MaxCycles, api.MaxCycles-1), plan(2, api.MaxCycles/2, api.MaxCycles-2),
	} {
		most := 0
		for (most+1)*p.Every+p.Every*p.Stages <= api.MaxCycles {
			most++
		}
		if most == 0 {
			wantWhole(t, p, 0, nil)
		} else {
			wantCount(t, p, most, (most-1+p.Stages)*p.Every)
		}
		for _, n := range []int{most + 1, most + 2, api.MaxCycles, api.MaxCycles + 1, 1 << 31, 1 << 32, 1 << 48, 1 << 62, math.MaxInt/p.Every + 1, math.MaxInt - 1, math.MaxInt} {
			if n > most {
				wantWholeRefused(t, p, n, api.ErrLong)
			}
		}
	}
	wantCount(t, plan(1, 1, 0), api.MaxCycles-1, api.MaxCycles-1)
	wantWholeRefused(t, plan(1, 1, 0), api.MaxCycles, api.ErrLong)
	wantCount(t, plan(2, 2, 3), api.MaxCycles/2-2, api.MaxCycles-2)
	wantWholeRefused(t, plan(2, 2, 3), api.MaxCycles/2-1, api.ErrLong)
}

// A plan whose one round is too long already is refused for no round too.
func TestNoRoundsOfAPlanThatIsTooLong(t *testing.T) {
	for _, p := range []api.Plan{
		plan(1, api.MaxCycles+1, api.MaxCycles), plan(2, api.MaxCycles/2+1, api.MaxCycles), plan(api.MaxCycles, 2, api.MaxCycles),
		plan(api.MaxCycles-1, 2, api.MaxCycles-1), plan(32769, 2, 40000), plan(3, 21846, 65535),
	} {
		for _, n := range []int{0, 1, 2, api.MaxCycles, math.MaxInt} {
			wantWholeRefused(t, p, n, api.ErrLong)
		}
		wantPartsRefused(t, p, api.ErrLong)
	}
	wantWhole(t, plan(api.MaxCycles, 1, api.MaxCycles-1), 0, nil)
	wantWholeRefused(t, plan(api.MaxCycles, 1, api.MaxCycles-1), 1, api.ErrLong)
	wantWhole(t, plan(1, api.MaxCycles, api.MaxCycles-1), 0, nil)
	wantWholeRefused(t, plan(1, api.MaxCycles, api.MaxCycles-1), 1, api.ErrLong)
}

// 3 times Every times Stages at MaxCycles, and just above. (MaxCycles is 3 times 21845, and 1.)
func TestTheLongestParts(t *testing.T) {
	wantPartsCount(t, plan(1, 21845, 21844), 21844, 1, 21844)
	wantPartsRefused(t, plan(1, 21846, 21845), api.ErrLong)
	wantPartsCount(t, plan(21845, 1, 21844), 0, 21845, 0)
	wantPartsRefused(t, plan(21846, 1, 21844), api.ErrLong)
	wantPartsRefused(t, plan(21846, 1), api.ErrLong)
	wantPartsCount(t, plan(5, 4369, 21844), 21840, 5, 21840)
	wantPartsRefused(t, plan(5, 4370, 21845), api.ErrLong)
	wantPartsCount(t, plan(10922, 2, 21843), 10922, 10922, 10922)
	wantPartsRefused(t, plan(10923, 2, 21843), api.ErrLong)
	// What is too long for its parts need not be so for as many rounds as its Stages.
	wantCount(t, plan(21846, 1), 1, 21846)
	wantCount(t, plan(10923, 2, 21843), 2, 3*10923)
}

// ErrArg goes ahead of ErrLong.
func TestErrorsInTheirOrder(t *testing.T) {
	for _, n := range []int{-1, -2, -api.MaxCycles - 5, math.MinInt} {
		wantWholeRefused(t, plan(1, api.MaxCycles+1, api.MaxCycles), n, api.ErrArg)
		wantWholeRefused(t, plan(api.MaxCycles, 1), n, api.ErrArg)
		wantWholeRefused(t, plan(1, 1), n, api.ErrArg)
	}
	wantNone(t, plan(1, api.MaxCycles, api.MaxCycles))
	wantNone(t, plan(1, api.MaxCycles+2, api.MaxCycles+1))
	wantNone(t, plan(api.MaxCycles+1, 1, 0))
	wantNone(t, plan(api.MaxCycles, 1, api.MaxCycles))
	wantNone(t, api.Plan{})
	wantNone(t, plan(21846, 2))
}
