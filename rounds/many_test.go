package rounds

import (
	"math/rand"
	"slices"
	"testing"

	"hayloft/api"
	"hayloft/modulo"
)

// mayBeTold is the chapter's words of which plans may be, told a second time.
func mayBeTold(p api.Plan) bool {
	if p.Every < 1 || p.Every > 65536 || len(p.Cycles) > 64 || p.Stages < 1 || p.Stages > 65537 {
		return false
	}
	greatest := 0
	for _, cycle := range p.Cycles {
		if cycle < 0 || cycle > 65536 {
			return false
		}
		greatest = max(greatest, cycle)
	}
	// Rounded up: so many Everys hold them, and one fewer does not.
	return p.Stages*p.Every >= greatest+1 && (p.Stages-1)*p.Every < greatest+1
}

// rowTold is the chapter's words of one cycle's row: of all rounds, one behind the other, all operations.
func rowTold(p api.Plan, n, cycle int) []api.Slot {
	var row []api.Slot
	for round := max(0, cycle/p.Every-p.Stages); round < n && round*p.Every <= cycle; round++ {
		for op, at := range p.Cycles {
			if round*p.Every+at == cycle {
				row = append(row, api.Slot{Op: op, Cycle: round})
			}
		}
	}
	return row
}

func wholeTold(p api.Plan, n int) ([][]api.Slot, api.Errno) {
	if !mayBeTold(p) || n < 0 {
		return nil, api.ErrArg
	}
	// Every is 1 at least: so many rounds are too many whatever else there is.
	if n > 65536 || n*p.Every+p.Every*p.Stages > 65536 {
		return nil, api.ErrLong
	}
	if n == 0 {
		return nil, api.OK
	}
	var all [][]api.Slot
	for cycle := range (n - 1 + p.Stages) * p.Every {
		all = append(all, rowTold(p, n, cycle))
	}
	return all, api.OK
}

// wantTold says that both functions answer what is told a second time.
func wantTold(t testing.TB, p api.Plan, n int) api.Errno {
	t.Helper()
	want, e := wholeTold(p, n)
	got, f := Whole(p, n)
	if f != e || !same(got, want) {
		t.Fatalf("Whole(%v, %d) is %v, %v, want %v, %v", p, n, got, f, want, e)
	}
	wantPartsTold(t, p)
	return e
}

func wantPartsTold(t testing.TB, p api.Plan) {
	t.Helper()
	first, kernel, last, e := Parts(p)
	if !mayBeTold(p) || 3*p.Every*p.Stages > 65536 {
		want := api.ErrLong
		if !mayBeTold(p) {
			want = api.ErrArg
		}
		if e != want || first != nil || kernel != nil || last != nil {
			t.Fatalf("Parts(%v) is %v, %v, %v, %v, want %v", p, first, kernel, last, e, want)
		}
		return
	}
	whole, _ := wholeTold(p, p.Stages)
	from, to := (p.Stages-1)*p.Every, p.Stages*p.Every
	if e != api.OK || !same(first, whole[:from]) || !same(kernel, whole[from:to]) || !same(last, whole[to:]) {
		t.Fatalf("Parts(%v) is %v, %v, %v, %v, want the parts of %v", p, first, kernel, last, e, whole)
	}
}

// chancePlan answers a plan of at most so many operations, and of few stages or of many.
func chancePlan(r *rand.Rand, most int) api.Plan {
	p := plan(1+r.Intn(8), 1)
	length := 1 + r.Intn(8*p.Every)
	for range r.Intn(most + 1) {
		cycle := r.Intn(length)
		p.Cycles = append(p.Cycles, cycle)
		p.Stages = max(p.Stages, cycle/p.Every+1)
	}
	return p
}

// spoilt answers a plan that is mostly none.
func spoilt(r *rand.Rand, p api.Plan) api.Plan {
	p.Cycles = slices.Clone(p.Cycles)
	switch r.Intn(4) {
	case 0:
		p.Every = r.Intn(12) - 3
	case 1:
		p.Stages += r.Intn(5) - 2
	case 2:
		if len(p.Cycles) > 0 {
			p.Cycles[r.Intn(len(p.Cycles))] = r.Intn(80) - 20
		}
	case 3:
		p.Cycles = append(p.Cycles, r.Intn(40)-4)
	}
	return p
}

// manyPlans hands out many plans, and numbers of rounds from 0 to some more than their Stages.
func manyPlans(seed int64, count, most int, do func(p api.Plan, n int)) {
	r := rand.New(rand.NewSource(seed))
	for range count {
		p := chancePlan(r, most)
		do(p, r.Intn(2*p.Stages+4))
	}
}

func TestManyPlans(t *testing.T) {
	few, enough, several, empty := 0, 0, 0, 0
	manyPlans(17, 3000, 12, func(p api.Plan, n int) {
		if e := wantTold(t, p, n); e != api.OK {
			t.Fatalf("%v, %d: %v", p, n, e)
		}
		if n < p.Stages {
			few++
		} else {
			enough++
		}
		all, _ := Whole(p, n)
		for _, row := range all {
			if len(row) == 0 {
				empty++
			} else if row[0].Cycle != row[len(row)-1].Cycle {
				several++
			}
		}
	})
	if min(few, enough) < 500 || min(several, empty) < 5000 {
		t.Errorf("%d of few rounds, %d of enough, %d rows of several rounds, %d empty ones", few, enough, several, empty)
	}
}

func TestManyLongPlans(t *testing.T) {
	manyPlans(171, 300, api.MaxBody, func(p api.Plan, n int) {
		wantTold(t, p, n)
		wantTold(t, p, 5*n+3)
	})
}

func TestManyThatAreNone(t *testing.T) {
	r := rand.New(rand.NewSource(172))
	errors := map[api.Errno]int{}
	for range 4000 {
		p := chancePlan(r, 8)
		n := r.Intn(12) - 2
		if r.Intn(10) == 0 {
			n = 65536/p.Every - p.Stages + 1 + r.Intn(3)
		}
		if r.Intn(2) == 0 {
			p = spoilt(r, p)
		}
		errors[wantTold(t, p, n)]++
	}
	if len(errors) != 3 || min(errors[api.OK], errors[api.ErrArg]) < 1000 || errors[api.ErrLong] < 100 {
		t.Errorf("by errors %v", errors)
	}
}

// All plans of up to three operations that go over up to six cycles.
func TestAllShortPlans(t *testing.T) {
	for every := 1; every <= 6; every++ {
		for stages := range 8 {
			for a := -1; a < 6; a++ {
				for b := -1; b < 6; b++ {
					for c := -1; c < 6; c++ {
						// The first one may be a cycle that may not be; of the others -1 is none at all.
						p := plan(every, stages, a)
						if b >= 0 {
							p.Cycles = append(p.Cycles, b)
						}
						if c >= 0 {
							p.Cycles = append(p.Cycles, c)
						}
						wantTold(t, p, stages+c)
					}
				}
			}
		}
	}
}

// countedOn answers the rows with so many more as each round's number.
func countedOn(all [][]api.Slot, more int) [][]api.Slot {
	var on [][]api.Slot
	for _, row := range all {
		row = slices.Clone(row)
		for n := range row {
			row[n].Cycle += more
		}
		on = append(on, row)
	}
	return on
}

// wantPutTogether says P17.3 (P2, P7) of a plan and a number of rounds from its Stages on.
func wantPutTogether(t *testing.T, p api.Plan, n int) {
	t.Helper()
	whole, e := Whole(p, n)
	first, kernel, last, f := Parts(p)
	if e != api.OK || f != api.OK {
		t.Fatalf("%v, %d: %v, %v", p, n, e, f)
	}
	together := slices.Clone(first)
	for k := range n - p.Stages + 1 {
		together = append(together, countedOn(kernel, k)...)
	}
	together = append(together, countedOn(last, n-p.Stages)...)
	if !same(whole, together) {
		t.Fatalf("Whole(%v, %d) is %v, its parts are %v", p, n, whole, together)
	}
}

func TestWholeIsItsParts(t *testing.T) {
	r := rand.New(rand.NewSource(173))
	overlapping := 0
	for range 1500 {
		p := chancePlan(r, 10)
		for _, more := range []int{0, 1, 2, r.Intn(20)} {
			wantPutTogether(t, p, p.Stages+more)
		}
		if p.Stages > 1 {
			overlapping++
		}
	}
	if overlapping < 700 {
		t.Errorf("the rounds of %d plans overlap", overlapping)
	}
	for range 20 {
		p := chancePlan(r, api.MaxBody)
		wantPutTogether(t, p, p.Stages+r.Intn(100))
	}
	// As many rounds as there can be.
	wantPutTogether(t, example(), api.MaxCycles/2-2)
	wantPutTogether(t, plan(1, 1, 0), api.MaxCycles-1)
	wantPutTogether(t, plan(1, 1), api.MaxCycles-1)
	wantPutTogether(t, plan(7, 5, 34, 0, 11), api.MaxCycles/7-5)
}

// wantEachOnce says P17.4: each operation of each round stands in its cycle, and nothing else stands anywhere.
func wantEachOnce(t *testing.T, p api.Plan, n int) {
	t.Helper()
	whole, e := Whole(p, n)
	if e != api.OK {
		t.Fatalf("Whole(%v, %d): %v", p, n, e)
	}
	count := 0
	for _, row := range whole {
		count += len(row)
	}
	if count != n*len(p.Cycles) {
		t.Fatalf("Whole(%v, %d) has %d operations, want %d", p, n, count, n*len(p.Cycles))
	}
	for round := range n {
		for op, cycle := range p.Cycles {
			if !slices.Contains(whole[round*p.Every+cycle], api.Slot{Op: op, Cycle: round}) {
				t.Fatalf("Whole(%v, %d) is %v, without operation %d of round %d", p, n, whole, op, round)
			}
		}
	}
}

func TestEachOperationOfEachRoundOnce(t *testing.T) {
	manyPlans(174, 2500, 12, func(p api.Plan, n int) { wantEachOnce(t, p, n) })
	manyPlans(1741, 50, api.MaxBody, func(p api.Plan, n int) { wantEachOnce(t, p, 10*n) })
	for _, p := range []api.Plan{example(), plan(1, 1, 0, 0), plan(1000, 3, 2999, 0, 1500), plan(3, 70, 207, 209, 0)} {
		wantEachOnce(t, p, api.MaxCycles/p.Every-p.Stages)
	}
}

// As many operations and rounds as there can be in one answer.
func TestTheGreatestAnswer(t *testing.T) {
	cycles := make([]int, api.MaxBody)
	for n := range cycles {
		cycles[n] = n * 37 % api.MaxBody
	}
	p := plan(1, api.MaxBody, cycles...)
	wantEachOnce(t, p, api.MaxCycles-api.MaxBody)
	wantCount(t, p, api.MaxCycles-api.MaxBody, api.MaxCycles-1)
	wantWholeRefused(t, p, api.MaxCycles-api.MaxBody+1, api.ErrLong)
}

// The plans that modulo finds may be told here, and put together.
func TestPlansThatModuloFinds(t *testing.T) {
	sum := []api.Op{{Do: api.Load, D: 3, A: 4}, {Do: api.Times, D: 2, A: 2, B: 3}, {Do: api.Add, D: 4, A: 4, B: 5}, {Do: api.Print, A: 2}}
	for delay := range api.MaxDelay + 1 {
		for lat := 1; lat <= api.MaxLatency; lat++ {
			m := api.Table{Units: [api.Classes]int{1, 1, 1, 1}, Lat: [api.Classes]int{1, lat, lat, 1}, Busy: [api.Classes]int{1, 1, 1, 1}, Delay: delay}
			for size := range len(sum) + 1 {
				p, e := modulo.Find(sum[:size], m)
				if e != api.OK {
					t.Fatalf("%v: %v", m, e)
				}
				wantTold(t, p, p.Stages+1)
				wantPutTogether(t, p, p.Stages+3)
				wantEachOnce(t, p, p.Stages+3)
			}
		}
	}
}

func TestNothingThatIsHandedInIsChanged(t *testing.T) {
	r := rand.New(rand.NewSource(37))
	for range 1500 {
		p := chancePlan(r, 8)
		if r.Intn(3) == 0 {
			p = spoilt(r, p)
		}
		all := append(p.Cycles, 77, -88, 99)
		p.Cycles = all[:len(all)-3]
		room := all[:cap(all)]
		before := slices.Clone(room)
		Whole(p, r.Intn(9)-1)
		Parts(p)
		if !slices.Equal(room, before) {
			t.Fatalf("%v became %v", before, room)
		}
	}
}

// scribble writes all over rows, with the room behind the end of each and of all of them.
func scribble(all [][]api.Slot) {
	for _, row := range all {
		row = row[:cap(row)]
		for n := range row {
			row[n] = api.Slot{Op: -7, Cycle: -7}
		}
	}
	all = all[:cap(all)]
	for n := range all {
		all[n] = row(-9, -9)
	}
}

// copied answers rows in memory of their own.
func copied(all [][]api.Slot) [][]api.Slot { return countedOn(all, 0) }

// What a caller writes into an answer is seen in no other one, and in no other list of it.
func TestAnswersAreTheCallersOwn(t *testing.T) {
	manyPlans(73, 400, 12, func(p api.Plan, n int) {
		cycles := slices.Clone(p.Cycles)
		whole, _ := Whole(p, n)
		want := copied(whole)
		again, _ := Whole(p, n)
		scribble(whole)
		first, kernel, last, _ := Parts(p)
		parts := [][][]api.Slot{first, kernel, last}
		for at, part := range parts {
			before := [][][]api.Slot{copied(first), copied(kernel), copied(last)}
			scribble(part)
			for other := range parts {
				if other != at && !same(parts[other], before[other]) {
					t.Fatalf("%v: what is written into part %d is seen in part %d: %v", p, at, other, parts[other])
				}
			}
		}
		third, _ := Whole(p, n)
		if !same(again, want) || !same(third, want) || !slices.Equal(p.Cycles, cycles) {
			t.Fatalf("%v, %d: %v, %v, want %v", p, n, again, third, want)
		}
		wantPartsTold(t, p)
	})
}

// Who appends to a row, or to a part, changes no other one.
func TestRowsShareNoMemory(t *testing.T) {
	manyPlans(74, 400, 12, func(p api.Plan, n int) {
		whole, _ := Whole(p, n)
		for at := range whole {
			before := copied(whole)
			changed := append(whole[at], api.Slot{Op: -5, Cycle: -5})
			changed[0] = api.Slot{Op: -6, Cycle: -6}
			before[at], whole[at] = nil, nil
			if !same(whole, before) {
				t.Fatalf("Whole(%v, %d): what is written into row %d is seen in %v, want %v", p, n, at, whole, before)
			}
		}
	})
}

// Nothing is kept: what the caller changes in his plan is seen by the next call.
func TestLaterChangesAreSeen(t *testing.T) {
	p := example()
	before, _ := Whole(p, 1)
	p.Cycles[2] = 2
	wantWhole(t, p, 1, rows(row(0, 0), row(1, 0), row(2, 0), nil))
	if !same(before, rows(row(0, 0), row(1, 0), nil, row(2, 0))) {
		t.Error(before)
	}
	p.Cycles[2] = 1
	wantNone(t, p)
	p.Stages = 1
	wantWhole(t, p, 1, rows(row(0, 0), row(1, 0, 2, 0)))
	wantParts(t, p, nil, rows(row(0, 0), row(1, 0, 2, 0)), nil)
	p.Every = 1
	wantNone(t, p)
	p.Stages = 2
	wantParts(t, p, rows(row(0, 0)), rows(row(1, 0, 2, 0, 0, 1)), rows(row(1, 1, 2, 1)))
}

// Who asks at the same time, of the same plan, gets the same answers.
func TestAskedAtTheSameTime(t *testing.T) {
	p := chancePlan(rand.New(rand.NewSource(5)), api.MaxBody)
	want, e := wholeTold(p, p.Stages)
	if e != api.OK {
		t.Fatal(e)
	}
	done := make(chan bool)
	for range 8 {
		go func() {
			well := true
			for range 20 {
				whole, e := Whole(p, p.Stages)
				first, kernel, last, f := Parts(p)
				well = well && e == api.OK && f == api.OK && same(whole, want) && same(slices.Concat(first, kernel, last), want)
			}
			done <- well
		}()
	}
	for range 8 {
		if !<-done {
			t.Error("another answer")
		}
	}
}

func FuzzRounds(f *testing.F) {
	f.Add(2, 2, 3, []byte{0, 1, 3})
	f.Add(1, 4, 9, []byte{3, 0, 2, 1, 1})
	f.Add(65536, 1, 1, []byte{})
	f.Add(0, 1, -1, []byte{255})
	f.Fuzz(func(t *testing.T, every, stages, n int, cycles []byte) {
		p := plan(every, stages)
		for _, cycle := range cycles {
			p.Cycles = append(p.Cycles, int(int8(cycle)))
		}
		wantTold(t, p, n)
		// With the Stages that are right it is mostly a plan.
		if every > 0 && len(p.Cycles) > 0 {
			p.Stages = slices.Max(p.Cycles)/every + 1
			wantTold(t, p, n)
			wantTold(t, p, p.Stages)
		}
	})
}
