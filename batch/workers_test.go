package batch

import (
	"runtime"
	"slices"
	"sync"
	"sync/atomic"
	"testing"
	"time"

	"hayloft/api"
)

// broughtInto answers how many workers are meant.
func broughtInto(workers int) int { return min(max(workers, 1), 16) }

// wantGone says that no more goroutines are there than ahead: one that has told its end may take a moment to go.
func wantGone(t testing.TB, ahead int) {
	t.Helper()
	for range 2000 {
		if runtime.NumGoroutine() <= ahead {
			return
		}
		time.Sleep(time.Millisecond)
	}
	t.Fatalf("%d goroutines, ahead of the call %d", runtime.NumGoroutine(), ahead)
}

// Each number is dealt once, whoever does it, and all is done when deal answers.
func TestDealHandsOutEachNumberOnce(t *testing.T) {
	for _, workers := range workerCounts() {
		for _, count := range []int{0, 1, 2, 15, 16, 17, 127, 128} {
			ahead := runtime.NumGoroutine()
			done := make([]atomic.Int64, count)
			deal(count, workers, func(n int) { done[n].Add(1) })
			for n := range done {
				if got := done[n].Load(); got != 1 {
					t.Fatalf("%d texts, %d workers: %d was done %d times", count, workers, n, got)
				}
			}
			wantGone(t, ahead)
		}
	}
}

// gate lets those who come to it go on when so many have come, and tells how many were at it, or behind it, at most.
type gate struct {
	wanted     int64
	come       atomic.Int64
	busy, most atomic.Int64
	open       chan bool
}

// pass answers whether all have come within a time in which they must have.
func (g *gate) pass() bool {
	now := g.busy.Add(1)
	defer g.busy.Add(-1)
	for old := g.most.Load(); now > old && !g.most.CompareAndSwap(old, now); old = g.most.Load() {
	}
	if g.come.Add(1) == g.wanted {
		time.Sleep(time.Millisecond) // in which those could come who are too many
		close(g.open)
	}
	select {
	case <-g.open:
		return true
	case <-time.After(20 * time.Second):
		return false
	}
}

// As many as there may be are at work at a time, and no more.
func TestHowManyAreAtWorkAtATime(t *testing.T) {
	for _, workers := range workerCounts() {
		for _, count := range []int{1, 2, 5, 16, 17, 48, 128} {
			g := &gate{wanted: int64(min(broughtInto(workers), count)), open: make(chan bool)}
			deal(count, workers, func(int) {
				if !g.pass() {
					t.Errorf("%d texts, %d workers: not all of %d came", count, workers, g.wanted)
				}
			})
			if got := g.most.Load(); got != g.wanted || t.Failed() {
				t.Fatalf("%d texts, %d workers: %d at a time, want %d", count, workers, got, g.wanted)
			}
		}
	}
}

// endless answers so many texts that are worked on for a while, and print little.
func endless(count int) []string {
	return slices.Repeat([]string{textOf("const r1 3, print r1, jump 1", "add r2 r2 r1, store r2 r1 0, branch r1 1 0")}, count)
}

// No more goroutines are there than workers, while they work.
func TestHowManyGoroutines(t *testing.T) {
	for _, workers := range []int{-1, 1, 2, 16, 17, 128, 1 << 40} {
		ahead := runtime.NumGoroutine()
		var results []api.Result
		ended := make(chan bool)
		go func() {
			results = run(t, endless(24), ones(), api.State{}, 1<<15, workers)
			close(ended)
		}()
		most := 0
		for looking := true; looking; {
			most = max(most, runtime.NumGoroutine())
			select {
			case <-ended:
				looking = false
			case <-time.After(100 * time.Microsecond):
			}
		}
		if most -= ahead + 1; most > broughtInto(workers) {
			t.Errorf("%d workers: up to %d goroutines", workers, most)
		}
		wantGone(t, ahead)
		for _, x := range results {
			wantEnd(t, x, api.ErrFuel, 0, 3)
		}
	}
}

// Nothing is left running behind a call, be it one that is refused.
func TestNothingIsLeftRunning(t *testing.T) {
	ahead := runtime.NumGoroutine()
	for _, workers := range workerCounts() {
		run(t, append(endless(3), numbered(30)...), ones(), api.State{}, 3000, workers)
		run(t, nil, ones(), api.State{}, 3000, workers)
		run(t, []string{"x"}, ones(), api.State{}, 3000, workers)
		wantError(t, numbered(129), ones(), api.State{}, 50, workers, api.ErrLong)
		wantError(t, numbered(9), api.Table{}, api.State{}, 50, workers, api.ErrTable)
		wantError(t, numbered(9), ones(), regs(make([]int64, 33)...), 50, workers, api.ErrArg)
		wantGone(t, ahead)
	}
}

// slowAhead answers texts that take long, behind them those that take little and no time, and one more that takes long.
func slowAhead() []string {
	l := []string{lines(api.MaxBlocks, 7)}
	l = append(l, endless(5)...)
	l = append(l, textOf("loop r1 {, add r2 r2 r3, times r4 r2 r2, load r5 r2 0, add r6 r6 r5, }, jump 1", "halt r6"))
	l = append(l, numbered(20)...)
	l = append(l, "x", "", textOf("jump 3"), textOf("halt r3"), textOf("halt r3"), textOf("divide r0 r0 r0, halt r3"))
	return append(l, endless(1)...)
}

// Each Result stands in its own text's place, whatever takes long, by any number of workers and each time.
func TestResultsStandInTheirPlaces(t *testing.T) {
	for n, m := range tables() {
		texts, s := slowAhead(), regs(0, 9000, 0, 7)
		want := all(t, texts, m, s, 40000)
		wantEnd(t, want[len(texts)-3], api.OK, 7)
		counts := workerCounts()
		if n > 0 {
			counts = []int{0, 1, 3, 16, 99}
		}
		for _, workers := range counts {
			for range 2 {
				wantResults(t, run(t, texts, m, s, 40000, workers), want)
			}
		}
	}
}

// The other way round, too: what is done at once is told no earlier than what takes long.
func TestTextsThatTakeLongBehind(t *testing.T) {
	texts := slowAhead()
	slices.Reverse(texts)
	s := regs(0, 3000, 0, 7)
	want := all(t, texts, ones(), s, 15000)
	for _, workers := range workerCounts() {
		wantResults(t, run(t, texts, ones(), s, 15000, workers), want)
	}
}

// Runs of the greatest number of steps side by side.
func TestTheLongestRuns(t *testing.T) {
	texts := append(endless(12), numbered(2)...)
	s := regs(0, 1<<40, 0, 1)
	want := []api.Result{alone(t, texts[0], ones(), s, api.MaxSteps)}
	want = append(slices.Repeat(want, 12), all(t, numbered(2), ones(), s, api.MaxSteps)...)
	for _, workers := range []int{1, 5, 16} {
		l := run(t, texts, ones(), s, 1<<40, workers)
		wantResults(t, l, want)
		if l[11].Seq.Steps != api.MaxSteps || l[11].Pipe.Steps != api.MaxSteps {
			t.Error(told(l[11]))
		}
	}
}

// R2: many calls at a time, with texts, tables and states of their own, or the same ones, know nothing of one another.
func TestManyCallsAtATime(t *testing.T) {
	texts, s := append(numbered(20), "x", textOf("print r1, divide r1 r1 r0, halt r1"), textOf("jump 0")), regs(0, 4)
	var wants [][]api.Result
	for _, m := range tables() {
		wants = append(wants, all(t, texts, m, s, 300))
	}
	var group sync.WaitGroup
	for n := range 24 {
		group.Go(func() {
			l, e := Run(texts, tables()[n%3], s, 300, n)
			for k, x := range l {
				if !same(x, wants[n%3][k]) {
					t.Errorf("call %d, text %d: %s, want %s", n, k, told(x), told(wants[n%3][k]))
				}
			}
			if e != api.OK || len(l) != len(texts) {
				t.Errorf("call %d: %d results, %v", n, len(l), e)
			}
		})
	}
	group.Wait()
}
