package race

import (
	"math"
	"slices"
	"testing"

	"hayloft/api"
)

// agreeTold is P24.2 told a second time, place by place.
func agreeTold(a, b api.Outcome) bool {
	beginTogether := true
	for n := range a.Prints {
		if n < len(b.Prints) && a.Prints[n] != b.Prints[n] {
			beginTogether = false
		}
	}
	// Of two lists that are nowhere unlike, the longer one begins with the other.
	aGoesOn, bGoesOn := a.E == api.ErrFuel, b.E == api.ErrFuel
	switch {
	case !beginTogether:
		return false
	case aGoesOn && bGoesOn:
		return true
	case aGoesOn:
		return len(a.Prints) <= len(b.Prints)
	case bGoesOn:
		return len(b.Prints) <= len(a.Prints)
	case a.E != b.E || a.Value != b.Value || len(a.Prints) != len(b.Prints):
		return false
	case a.E != api.OK:
		return true
	}
	if len(a.Mem) != len(b.Mem) {
		return false
	}
	for n := range a.Mem {
		if a.Mem[n] != b.Mem[n] {
			return false
		}
	}
	return true
}

func numbers(l ...int64) []int64 { return l }

func cells(first ...int64) []int64 { return append(first, make([]int64, api.Cells-len(first))...) }

// wantAgree says whether two agree, either way round.
func wantAgree(t *testing.T, want bool, a, b api.Outcome) {
	t.Helper()
	if Agree(a, b) != want || Agree(b, a) != want || agreeTold(a, b) != want {
		t.Errorf("%s; %s: %v, %v; want %v", told(a), told(b), Agree(a, b), Agree(b, a), want)
	}
}

// ends are the errors with which an outcome has ended; that of no machine is one, too.
func ends() []api.Errno {
	return []api.Errno{api.OK, api.ErrDivide, api.ErrNone, api.ErrNil, api.ErrArg, api.ErrFuel - 1, -1, math.MaxInt, math.MinInt}
}

func TestAgreeOfTwoThatHaveEnded(t *testing.T) {
	for _, end := range ends() {
		whole := func() api.Outcome {
			return api.Outcome{E: end, Value: 7, Prints: numbers(1, 2, 3), Mem: cells(4, 5), Steps: 10}
		}
		wantAgree(t, true, whole(), whole())
		other := whole()
		other.Steps = 999
		wantAgree(t, true, whole(), other)
		for _, unlike := range ends() {
			other := whole()
			other.E = unlike
			wantAgree(t, unlike == end, whole(), other)
		}
		for _, value := range []int64{0, 6, 8, -7, 7 + 1<<32, math.MinInt64, math.MaxInt64} {
			other := whole()
			other.Value = value
			wantAgree(t, false, whole(), other)
		}
		for _, prints := range [][]int64{nil, {}, {1}, {1, 2}, {0, 2, 3}, {1, 0, 3}, {1, 2, 0}, {3, 2, 1}, {1, 2, 3, 0}, {1, 2, 3, 4}, {2, 3}} {
			other := whole()
			other.Prints = prints
			wantAgree(t, false, whole(), other)
		}
		// Memory counts where there is a value, and nowhere else.
		for _, mem := range [][]int64{nil, {}, cells(), cells(4), cells(4, 5, 1), cells(3, 5), append(cells(4, 5)[:255], 1), {4, 5}, cells(4, 5)[:255], append(cells(4, 5), 0)} {
			other := whole()
			other.Mem = mem
			wantAgree(t, end != api.OK, whole(), other)
		}
	}
	for n := range api.Cells {
		mem := cells()
		mem[n] = 1 << 40
		wantAgree(t, false, api.Outcome{Mem: mem}, api.Outcome{Mem: cells()})
		wantAgree(t, true, api.Outcome{Mem: mem}, api.Outcome{Mem: slices.Clone(mem)})
		wantAgree(t, true, api.Outcome{E: api.ErrDivide, Mem: mem}, api.Outcome{E: api.ErrDivide, Mem: cells()})
	}
}

// The one that has ended has printed all; the other one may still be on its way to that, but not beyond it.
func TestAgreeOfOneThatHasEnded(t *testing.T) {
	for _, end := range ends() {
		for _, c := range []struct {
			ended, other []int64
			want         bool
		}{
			{nil, nil, true}, {nil, numbers(), true}, {numbers(), nil, true},
			{numbers(1), nil, true}, {nil, numbers(1), false},
			{numbers(1, 2, 3), nil, true}, {numbers(1, 2, 3), numbers(), true}, {numbers(1, 2, 3), numbers(1), true},
			{numbers(1, 2, 3), numbers(1, 2), true}, {numbers(1, 2, 3), numbers(1, 2, 3), true},
			{numbers(1, 2, 3), numbers(1, 2, 3, 4), false}, {numbers(1, 2, 3), numbers(1, 2, 3, 0), false}, {numbers(1, 2, 3), numbers(1, 2, 3, 1, 2, 3), false},
			{numbers(1, 2, 3), numbers(0, 2, 3), false}, {numbers(1, 2, 3), numbers(1, 0, 3), false}, {numbers(1, 2, 3), numbers(1, 2, 0), false},
			{numbers(1, 2, 3), numbers(2), false}, {numbers(1, 2, 3), numbers(3), false}, {numbers(1, 2, 3), numbers(2, 3), false}, {numbers(1, 2, 3), numbers(1, 3), false},
			{numbers(0, 0), numbers(0), true}, {numbers(0), numbers(0, 0), false},
			{numbers(math.MinInt64, math.MaxInt64), numbers(math.MinInt64), true}, {numbers(math.MinInt64), numbers(math.MaxInt64), false},
		} {
			a, b := api.Outcome{E: end, Prints: c.ended}, api.Outcome{E: api.ErrFuel, Prints: c.other}
			wantAgree(t, c.want, a, b)
			// All else is of no matter.
			a.Value, a.Mem, a.Steps = 5, cells(1, 2), 3
			wantAgree(t, c.want, a, b)
			b.Value, b.Mem, b.Steps = 6, cells(2, 1), 4
			wantAgree(t, c.want, a, b)
		}
	}
}

func TestAgreeOfTwoThatGoOn(t *testing.T) {
	for _, c := range []struct {
		one, other []int64
		want       bool
	}{
		{nil, nil, true}, {nil, numbers(), true}, {nil, numbers(1), true}, {numbers(), numbers(1, 2, 3), true},
		{numbers(1), numbers(1, 2, 3), true}, {numbers(1, 2), numbers(1, 2, 3), true}, {numbers(1, 2, 3), numbers(1, 2, 3), true},
		{numbers(0), numbers(1, 2, 3), false}, {numbers(2), numbers(1, 2, 3), false}, {numbers(1, 3), numbers(1, 2, 3), false},
		{numbers(2, 3), numbers(1, 2, 3), false}, {numbers(3), numbers(1, 2, 3), false}, {numbers(0, 2, 3), numbers(1, 2, 3), false},
		{numbers(1, 0, 3), numbers(1, 2, 3), false}, {numbers(1, 2, 0), numbers(1, 2, 3), false}, {numbers(3, 2, 1), numbers(1, 2, 3), false},
		{numbers(0), numbers(0, 0), true}, {numbers(math.MaxInt64), numbers(math.MinInt64), false},
	} {
		a, b := api.Outcome{E: api.ErrFuel, Prints: c.one}, api.Outcome{E: api.ErrFuel, Prints: c.other}
		wantAgree(t, c.want, a, b)
		a.Value, a.Mem, a.Steps = 5, cells(1, 2), 3
		wantAgree(t, c.want, a, b)
		b.Value, b.Mem, b.Steps = 6, cells(2, 1), 4
		wantAgree(t, c.want, a, b)
	}
}

// R6: an empty list may be nil or empty. And outcomes with nothing in them are some that have ended, OK.
func TestAgreeOfNothing(t *testing.T) {
	for _, end := range append(ends(), api.ErrFuel) {
		for _, prints := range [][]int64{nil, {}} {
			for _, mem := range [][]int64{nil, {}} {
				wantAgree(t, true, api.Outcome{E: end, Prints: prints, Mem: mem}, api.Outcome{E: end})
				wantAgree(t, true, api.Outcome{E: end, Prints: prints, Mem: mem}, api.Outcome{E: end, Prints: numbers(), Mem: numbers()})
				wantAgree(t, end == api.OK || end == api.ErrFuel, api.Outcome{E: end, Prints: prints, Mem: mem}, api.Outcome{})
			}
		}
	}
	wantAgree(t, true, api.Outcome{}, api.Outcome{})
	wantAgree(t, true, api.Outcome{}, api.Outcome{E: api.ErrFuel})
	wantAgree(t, false, api.Outcome{}, api.Outcome{E: api.ErrFuel, Prints: numbers(0)})
	wantAgree(t, false, api.Outcome{}, api.Outcome{Mem: cells()})
	wantAgree(t, false, api.Outcome{}, api.Outcome{E: api.ErrDivide})
}

// listsOf answers all lists of up to so many numbers, each 1 or 2; and the empty one that is not nil.
func listsOf(most int) [][]int64 {
	all := [][]int64{nil, {}}
	for last := [][]int64{nil}; most > 0; most-- {
		var next [][]int64
		for _, l := range last {
			next = append(next, append(slices.Clone(l), 1), append(slices.Clone(l), 2))
		}
		all, last = append(all, next...), next
	}
	return all
}

// Each small outcome with each other one.
func TestAgreeOfAllSmallOutcomes(t *testing.T) {
	var all []api.Outcome
	for _, end := range []api.Errno{api.OK, api.ErrFuel, api.ErrDivide} {
		for value := range int64(2) {
			for _, prints := range listsOf(3) {
				for _, mem := range listsOf(1) {
					all = append(all, api.Outcome{E: end, Value: value, Prints: prints, Mem: mem, Steps: len(all)})
				}
			}
		}
	}
	found := map[bool]int{}
	for _, a := range all {
		for _, b := range all {
			got := Agree(a, b)
			if got != agreeTold(a, b) {
				t.Fatalf("%s; %s: %v", told(a), told(b), got)
			}
			found[got]++
		}
	}
	if min(found[true], found[false]) < 10000 {
		t.Errorf("%v", found)
	}
}

// R3: outcomes are not changed, nor what stands behind their lists' ends, and that does not count either.
func TestAgreeLeavesOutcomes(t *testing.T) {
	for _, end := range []api.Errno{api.OK, api.ErrFuel, api.ErrDivide} {
		for cut := range 5 {
			prints, mem, others, othersMem := numbers(1, 2, 3, 4), cells(5, 6, 7, 8), numbers(1, 2, 3, 9), cells(5, 6, 7, 9)
			a := api.Outcome{E: end, Prints: prints[:cut], Mem: mem[:cut]}
			b := api.Outcome{E: end, Prints: others[:cut], Mem: othersMem[:cut]}
			wantAgree(t, cut < 4, a, b)
			if !slices.Equal(prints, numbers(1, 2, 3, 4)) || !slices.Equal(mem, cells(5, 6, 7, 8)) || !slices.Equal(others, numbers(1, 2, 3, 9)) || !slices.Equal(othersMem, cells(5, 6, 7, 9)) {
				t.Error(prints, mem, others, othersMem)
			}
			if len(a.Prints) != cut || len(b.Mem) != cut || a.E != end {
				t.Error(told(a), told(b))
			}
		}
	}
}
