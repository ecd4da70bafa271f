package modulo

import (
	"math"
	"math/rand"
	"slices"
	"testing"

	"hayloft/api"
	"hayloft/bounds"
	"hayloft/deps"
	"hayloft/list"
)

// busyTold counts the units of a class that are busy in a cycle of the ring, over all operations and the one that turns back.
func busyTold(t testing.TB, l []api.Op, m api.Table, p api.Plan, class, cycle int) int {
	t.Helper()
	sum := 0
	count := func(c, from int) {
		for k := range m.Busy[c] {
			if c == class && (from+k-cycle)%p.Every == 0 {
				sum++
			}
		}
	}
	for n, o := range l {
		count(classTold(t, o), p.Cycles[n])
	}
	count(api.Ctl, p.Every-1-m.Delay)
	return sum
}

// keepsTold is the chapter's words of what keeps the rounds told a second time.
func keepsTold(t testing.TB, l []api.Op, m api.Table, p api.Plan) bool {
	t.Helper()
	edges, e := deps.Loop(l, m)
	if e != api.OK {
		t.Fatal(e)
	}
	for _, d := range edges {
		if p.Cycles[d.To]+d.Dist*p.Every-p.Cycles[d.From] < d.Lat {
			return false
		}
	}
	within := func(class, from int) bool {
		for k := range m.Busy[class] {
			if busyTold(t, l, m, p, class, from+k) > m.Units[class] {
				return false
			}
		}
		return true
	}
	for n, o := range l {
		if !within(classTold(t, o), p.Cycles[n]) {
			return false
		}
	}
	return within(api.Ctl, p.Every-1-m.Delay)
}

// stagesTold answers how many times Every cycles are as many as the greatest cycle and 1, or more.
func stagesTold(p api.Plan) int {
	stages := 1
	for _, cycle := range p.Cycles {
		for stages*p.Every < cycle+1 {
			stages++
		}
	}
	return stages
}

// checkTold is P16.1's words told a second time.
func checkTold(t testing.TB, l []api.Op, m api.Table, p api.Plan) bool {
	t.Helper()
	if _, e := bounds.Least(l, m); e != api.OK || m.Units[api.Ctl] == 0 {
		return false
	}
	if p.Every < 1+m.Delay || p.Every > api.MaxCycles || len(p.Cycles) != len(l) {
		return false
	}
	for _, cycle := range p.Cycles {
		if cycle < 0 || cycle > api.MaxCycles {
			return false
		}
	}
	return p.Stages == stagesTold(p) && p.Stages <= 31 && keepsTold(t, l, m, p)
}

// wantCheckTold says that Check answers what is told a second time, and hands it out.
func wantCheckTold(t testing.TB, l []api.Op, m api.Table, p api.Plan) bool {
	t.Helper()
	want := checkTold(t, l, m, p)
	if got := Check(l, m, p); got != want {
		t.Fatalf("Check(%v, %v, %v) is %v, want %v", l, m, p, got, want)
	}
	return want
}

// errorTold is the errors' words told a second time.
func errorTold(l []api.Op, m api.Table) api.Errno {
	if _, e := bounds.Least(l, m); e != api.OK {
		return e
	}
	if _, e := list.Cycles(l, m); e != api.OK {
		return e
	}
	if m.Units[api.Ctl] == 0 {
		return api.ErrNoUnit
	}
	return api.OK
}

// wantFindTold says that Find answers what P16.2 asks, or the error; and the same when it is asked again.
func wantFindTold(t testing.TB, l []api.Op, m api.Table) (api.Plan, api.Errno) {
	t.Helper()
	want := errorTold(l, m)
	p, e := Find(l, m)
	q, f := Find(l, m)
	if e != want || f != want || !samePlan(p, q) {
		t.Fatalf("Find(%v, %v) is %v, %v, then %v, %v, want %v", l, m, p, e, q, f, want)
	}
	if e != api.OK {
		if !samePlan(p, api.Plan{}) {
			t.Fatalf("Find(%v, %v) is %v beside %v", l, m, p, e)
		}
		return p, e
	}
	if !samePlan(p, wantFound(t, l, m)) || !checkTold(t, l, m, p) {
		t.Fatalf("Find(%v, %v) is %v", l, m, p)
	}
	return p, e
}

// fewOps are operations of which every two depend on one another in some way, or in none.
func fewOps() []api.Op {
	return bodyOf(consts(1, 8), moves(2, 1), adds(1, 1, 2), adds(0, 1, 2), multiplies(2, 2, 1), divides(1, 2, 2), rests(2, 1, 1),
		loads(1, 2, 264), loads(2, 1, 9), stores(1, 2, 8), stores(2, 1, 8), prints(1), prints(0))
}

// fewTables are tables in which now edges, now units, now the one that turns back is what keeps rounds apart.
func fewTables() []api.Table {
	return []api.Table{
		example(),
		delay(busy(lats(units(example(), 2, 1, 2, 1), 1, 4, 3, 1), 1, 3, 2, 3), 0),
		delay(busy(lats(units(example(), 1, 2, 1, 2), 3, 1, 2, 1), 4, 1, 3, 4), 0),
		wide(),
	}
}

// smallerPlan looks for a plan of an Every by going over all cycles below most of each operation of a short body.
func smallerPlan(t testing.TB, l []api.Op, m api.Table, every, most int) (api.Plan, bool) {
	t.Helper()
	p := api.Plan{Every: every, Cycles: make([]int, len(l))}
	var fill func(n int) bool
	fill = func(n int) bool {
		if n == len(l) {
			return keepsTold(t, l, m, p)
		}
		for p.Cycles[n] = 0; p.Cycles[n] < most; p.Cycles[n]++ {
			if fill(n + 1) {
				return true
			}
		}
		return false
	}
	found := fill(0)
	return p, found
}

// Every body of up to two of these, and some of three: no smaller Every is to be had than the one that Find tells.
func TestAllShortBodies(t *testing.T) {
	all := fewOps()
	above, bodies := 0, 0
	for _, m := range fewTables() {
		try := func(l ...api.Op) {
			p, _ := wantFindTold(t, l, m)
			bodies++
			cycles, _ := list.Cycles(l, m)
			least, _ := bounds.Least(l, m)
			for every := least; every < p.Every; every++ {
				above++
				if q, ok := smallerPlan(t, l, m, every, 2*drainedTold(t, l, m, cycles)/every*every); ok {
					t.Errorf("Find(%v, %v) is %v, and %v goes too", l, m, p, q)
				}
			}
		}
		try()
		for i, a := range all {
			try(a)
			for j, b := range all {
				try(a, b)
				for k, c := range all {
					if (i+j+k)%3 == 0 {
						try(a, b, c)
					}
				}
			}
		}
	}
	if above < 20 {
		t.Errorf("of %d bodies %d times an Every was looked for", bodies, above)
	}
}

// Every two of some in all cycles from -1 to some, every Every from 0 on, with right and wrong Stages.
func TestAllShortPlans(t *testing.T) {
	const upTo = 6
	few := bodyOf(consts(1, 8), adds(1, 1, 2), multiplies(2, 2, 1), divides(1, 2, 2), loads(2, 1, 9), stores(1, 2, 8), prints(1))
	taken := 0
	for _, m := range append(fewTables(), units(example(), 1, 0, 1, 1)) {
		for _, a := range few {
			for _, b := range few {
				for every := range 5 {
					for n := range upTo * upTo {
						p := plan(every, 0, n%upTo-1, n/upTo-1)
						if every > 0 {
							p.Stages = stagesTold(p)
						}
						if wantCheckTold(t, bodyOf(a, b), m, p) {
							taken++
						}
						p.Stages += 1 - n%3
						wantCheckTold(t, bodyOf(a, b), m, p)
					}
				}
			}
		}
	}
	if taken < 3000 {
		t.Errorf("%d plans are some", taken)
	}
}

// chanceOp answers an operation of a list, of few cells and few bases, so that many depend on one another.
func chanceOp(r *rand.Rand, registers int) api.Op {
	register := func() uint8 { return uint8(r.Intn(registers)) }
	imm := int64(r.Intn(4) + 256*r.Intn(3) - 256)
	switch do := int8(api.Const + r.Intn(api.Print+6)); {
	case do == api.Const:
		return consts(register(), imm)
	case do == api.Move:
		return moves(register(), register())
	case do < api.Load:
		return api.Op{Do: do, D: register(), A: register(), B: register()}
	case do == api.Print:
		return prints(register())
	case do%2 == 0:
		return loads(register(), register(), imm)
	}
	return stores(register(), register(), imm)
}

// chanceTable answers a table, half of the time of few units, and now and then of none of a class.
func chanceTable(r *rand.Rand) api.Table {
	m := api.Table{Delay: r.Intn(5)}
	most := 1 + r.Intn(8)
	for class := range api.Classes {
		m.Units[class], m.Lat[class], m.Busy[class] = 1+r.Intn(most), 1+r.Intn(8), 1+r.Intn(4)
		if r.Intn(16) == 0 {
			m.Units[class] = 0
		}
	}
	return m
}

// chanceBody answers a body of at most so many operations; half of them of many registers, so that few depend on one another.
func chanceBody(r *rand.Rand, most int) []api.Op {
	registers := 1 + r.Intn(8)
	if r.Intn(2) == 0 {
		registers = 32
	}
	var l []api.Op
	for range r.Intn(most + 1) {
		l = append(l, chanceOp(r, registers))
	}
	return l
}

// spoilt answers an operation that is mostly none.
func spoilt(r *rand.Rand, o api.Op) api.Op {
	switch r.Intn(5) {
	case 0:
		o.Do = int8(r.Intn(256))
	case 1:
		o.D = uint8(r.Intn(256))
	case 2:
		o.A = uint8(r.Intn(256))
	case 3:
		o.B = uint8(r.Intn(256))
	case 4:
		o.Imm = int64(r.Uint64())
	}
	return o
}

// chancePlan answers a plan that is about the one handed in: later as a whole, with another Every, some operations
// put off, by whole rounds or by a few cycles; seldom one that is far off.
func chancePlan(r *rand.Rand, p api.Plan) api.Plan {
	p.Cycles = slices.Clone(p.Cycles)
	later := r.Intn(3) * r.Intn(30)
	for n := range p.Cycles {
		p.Cycles[n] += later
	}
	for range r.Intn(3) {
		if len(p.Cycles) > 0 {
			p.Cycles[r.Intn(len(p.Cycles))] += []int{p.Every, 2 * p.Every, -p.Every, r.Intn(7) - 3}[r.Intn(4)]
		}
	}
	if r.Intn(3) == 0 {
		p.Every += r.Intn(6) - 2
	}
	if p.Every > 0 {
		p.Stages = stagesTold(p)
	}
	switch r.Intn(12) {
	case 0:
		p.Stages += r.Intn(3) - 1
	case 1:
		p.Every = []int{0, -1, api.MaxCycles, api.MaxCycles + 1, math.MinInt, math.MaxInt}[r.Intn(6)]
		p.Stages = 1
	case 2:
		if len(p.Cycles) > 0 {
			p.Cycles[r.Intn(len(p.Cycles))] = []int{-1, 0, 1000, api.MaxCycles, api.MaxCycles + 1, math.MaxInt, math.MinInt}[r.Intn(7)]
		}
	case 3:
		p.Cycles = append(p.Cycles, 0)
	}
	return p
}

// manyPlans hands on plans that Check takes, of many bodies and tables: Find's own, and others about them.
func manyPlans(t *testing.T, seed int64, bodies, most int, use func(l []api.Op, m api.Table, p api.Plan)) {
	t.Helper()
	r := rand.New(rand.NewSource(seed))
	own, others := 0, 0
	for range bodies {
		l, m := chanceBody(r, most), chanceTable(r)
		p, e := Find(l, m)
		if e != api.OK {
			continue
		}
		own++
		use(l, m, p)
		for range 6 {
			if q := chancePlan(r, p); Check(l, m, q) {
				others++
				use(l, m, q)
			}
		}
	}
	if own < bodies/2 || others < bodies/2 {
		t.Errorf("of %d bodies %d plans of Find, %d others", bodies, own, others)
	}
}

func TestManyBodies(t *testing.T) {
	r := rand.New(rand.NewSource(16))
	errors := map[api.Errno]int{}
	overlapped, every, leasts := 0, 0, 0
	count := func(l []api.Op, m api.Table) {
		p, e := wantFindTold(t, l, m)
		errors[e]++
		least, _ := bounds.Least(l, m)
		every, leasts = every+p.Every, leasts+least
		if p.Stages > 1 {
			overlapped++
		}
	}
	for range 1200 {
		l, m := chanceBody(r, 16), chanceTable(r)
		count(l, m)
		if len(l) > 0 {
			at := r.Intn(len(l))
			l[at] = spoilt(r, l[at])
		}
		if r.Intn(4) == 0 {
			m.Busy[r.Intn(api.Classes)] = r.Intn(7) - 1
		}
		count(l, m)
	}
	for range 60 {
		count(chanceBody(r, api.MaxBody+20), chanceTable(r))
	}
	if len(errors) != 5 || min(errors[api.OK], errors[api.ErrNoUnit], errors[api.ErrTable], errors[api.ErrOp]) < 100 || errors[api.ErrLong] < 5 {
		t.Errorf("by errors %v", errors)
	}
	// How good the plans are is the program's own affair; they are not to get worse.
	if 1000*every > 1045*leasts || overlapped < 200 {
		t.Errorf("of %d plans %d overlap; all Everys are %d together, all Leasts %d", errors[api.OK], overlapped, every, leasts)
	}
}

// The longest bodies, in which now the most depends, now units are scarce.
func TestManyLongBodies(t *testing.T) {
	r := rand.New(rand.NewSource(64))
	for _, registers := range []int{1, 2, 8, 32} {
		for range 4 {
			var l []api.Op
			for range api.MaxBody {
				l = append(l, chanceOp(r, registers))
			}
			wantFindTold(t, l, units(chanceTable(r), 1+r.Intn(8), 1+r.Intn(8), 1+r.Intn(8), 1+r.Intn(8)))
		}
	}
}

func TestManyPlans(t *testing.T) {
	r := rand.New(rand.NewSource(161))
	taken, refused := 0, 0
	for range 1500 {
		l, m := chanceBody(r, 10), chanceTable(r)
		p, e := Find(l, m)
		if e != api.OK {
			p = planOf(make([]int, len(l)), 9)
		}
		for range 8 {
			if wantCheckTold(t, l, m, chancePlan(r, p)) {
				taken++
			} else {
				refused++
			}
		}
	}
	if taken < 2000 || refused < 2000 {
		t.Errorf("%d plans are some, %d none", taken, refused)
	}
}

// P16.3: list.Cycles with the drained length as Every, and one stage, is a plan.
func TestTheDrainedListIsAPlan(t *testing.T) {
	r := rand.New(rand.NewSource(163))
	plans := 0
	for n := range 3000 {
		most := 12
		if n%20 == 0 {
			most = api.MaxBody
		}
		l, m := chanceBody(r, most), chanceTable(r)
		cycles, e := list.Cycles(l, m)
		if e != api.OK || m.Units[api.Ctl] == 0 {
			continue
		}
		plans++
		drained := drainedTold(t, l, m, cycles)
		if p := plan(drained, 1, cycles...); !Check(l, m, p) || !checkTold(t, l, m, p) {
			t.Fatalf("%v, %v: %v is no plan", l, m, p)
		}
		if got := newBody(l, m, cycles).drained; got != drained {
			t.Fatalf("%v, %v: the drained length is %d, want %d", l, m, got, drained)
		}
	}
	if plans < 1500 {
		t.Errorf("%d plans", plans)
	}
}

// P16.4 and P7: no plan begins rounds more often than Least says; with Every one more its cycles keep the edges.
func TestNoPlanIsBelowLeast(t *testing.T) {
	atLeast := 0
	manyPlans(t, 164, 1200, 14, func(l []api.Op, m api.Table, p api.Plan) {
		least, e := bounds.Least(l, m)
		if e != api.OK || p.Every < least || p.Every < 1+m.Delay {
			t.Fatalf("%v, %v: %v, where the least is %d, %v", l, m, p, least, e)
		}
		if p.Every == least {
			atLeast++
		}
		edges, _ := deps.Loop(l, m)
		for _, d := range edges {
			if p.Cycles[d.To]+d.Dist*(p.Every+1) < p.Cycles[d.From]+d.Lat {
				t.Fatalf("%v, %v: %v with Every one more fails by %v", l, m, p, d)
			}
		}
		// With units for all it is a plan then.
		more := plan(p.Every+1, 0, p.Cycles...)
		more.Stages = stagesTold(more)
		m = busy(units(m, 8, 8, 8, 8), 1, 1, 1, 1)
		if len(l) <= api.MaxUnits && more.Every <= api.MaxCycles && !Check(l, m, more) {
			t.Fatalf("%v, %v: %v is no plan", l, m, more)
		}
	})
	if atLeast < 500 {
		t.Errorf("%d plans begin as often as Least says", atLeast)
	}
}

// The units are not kept with Every one more: so the chapter says, and so it is.
func TestUnitsAreNotKeptWithEveryOneMore(t *testing.T) {
	l := freeOf(api.Mul, 2)
	wantRight(t, l, example(), 2, 2, 0, 3)
	wantNone(t, l, example(), 3, 0, 3)
}

// P16.5: rounds of a plan put one behind the other keep the edges of all of them as one list, and the units.
func TestRoundsOneBehindTheOther(t *testing.T) {
	farther := 0
	manyPlans(t, 165, 500, 12, func(l []api.Op, m api.Table, p api.Plan) {
		count := min(p.Stages+3, 9)
		if len(l) > 0 {
			count = min(count, 60/len(l)+2)
		}
		var all []api.Op
		var cycles []int
		for round := range count {
			all = append(all, l...)
			for _, cycle := range p.Cycles {
				cycles = append(cycles, cycle+round*p.Every)
			}
		}
		edges, e := deps.Of(all, m)
		if e != api.OK {
			t.Fatal(e)
		}
		for _, d := range edges {
			if cycles[d.To] < cycles[d.From]+d.Lat {
				t.Fatalf("%v, %v, %v: %d rounds fail by %v", l, m, p, count, d)
			}
			if len(l) > 0 && d.To/len(l) > d.From/len(l)+1 {
				farther++
			}
		}
		wantUnitsOfRounds(t, all, m, p, cycles, count)
		if slices.Max(append(cycles, 0)) <= api.MaxCycles && !list.Check(all, m, cycles) {
			t.Fatalf("%v, %v, %v: %d rounds are no schedule", l, m, p, count)
		}
	})
	if farther < 1000 {
		t.Errorf("%d edges went over more rounds than one", farther)
	}
}

// wantUnitsOfRounds counts the units of all operations in each cycle, and of those that turn back, one a round.
func wantUnitsOfRounds(t *testing.T, all []api.Op, m api.Table, p api.Plan, cycles []int, count int) {
	t.Helper()
	used := map[place]int{}
	take := func(class, cycle int) {
		for k := range m.Busy[class] {
			at := place{class, cycle + k}
			if used[at]++; used[at] > m.Units[class] {
				t.Fatalf("%v, %v, %v: %d rounds have %d units of class %d busy in the cycle %d", all, m, p, count, used[at], class, cycle+k)
			}
		}
	}
	for n, o := range all {
		take(classTold(t, o), cycles[n])
	}
	for round := range count {
		take(api.Ctl, (round+1)*p.Every-1-m.Delay)
	}
}

// P16.5 up to MaxOps.
func TestManyRoundsOneBehindTheOther(t *testing.T) {
	r := rand.New(rand.NewSource(1655))
	for _, size := range []int{1, 16, api.MaxBody} {
		var l []api.Op
		for range size {
			l = append(l, chanceOp(r, 12))
		}
		m := units(chanceTable(r), 2, 1, 2, 1)
		p := wantFound(t, l, m)
		var cycles []int
		for round := range api.MaxOps / size {
			for _, cycle := range p.Cycles {
				cycles = append(cycles, cycle+round*p.Every)
			}
		}
		if !list.Check(slices.Repeat(l, api.MaxOps/size), m, cycles) {
			t.Errorf("%v, %v, %v", l, m, p)
		}
	}
}

// The longest way between two operations of a short body, along all ways that go over no operation twice.
func TestLongestWays(t *testing.T) {
	r := rand.New(rand.NewSource(9))
	for range 400 {
		l, m := chanceBody(r, 5), units(chanceTable(r), 1, 1, 1, 1)
		least, e := bounds.Least(l, m)
		if e != api.OK {
			t.Fatal(e)
		}
		edges, _ := deps.Loop(l, m)
		every := least + r.Intn(3)
		want := make([][]int, len(l))
		for first := range l {
			want[first] = slices.Repeat([]int{noWay}, len(l))
			been := make([]bool, len(l))
			var walk func(at, length int)
			walk = func(at, length int) {
				want[first][at] = max(want[first][at], length)
				been[at] = true
				for _, d := range edges {
					if d.From == at && !been[d.To] {
						walk(d.To, length+d.Lat-every*d.Dist)
					}
				}
				been[at] = false
			}
			walk(first, 0)
		}
		if got := longestWays(len(l), edges, every); !slices.EqualFunc(got, want, slices.Equal) {
			t.Fatalf("%v, %v, every %d: %v, want %v", l, m, every, got, want)
		}
	}
}

func TestNothingThatIsHandedInIsChanged(t *testing.T) {
	r := rand.New(rand.NewSource(37))
	for range 800 {
		l := append(chanceBody(r, 12), stores(1, 2, 3), loads(1, 1, 4), api.Op{Do: -5, D: 255, A: 255, B: 255, Imm: math.MinInt64})
		room := l[:cap(l)]
		before := slices.Clone(room)
		part, m := l[:r.Intn(len(l)+1)], chanceTable(r)
		p, _ := Find(part, m)
		if !slices.Equal(room, before) {
			t.Fatalf("by Find %v became %v", before, room)
		}
		p.Cycles = append(p.Cycles, 77, -88, 99)
		cyclesBefore := slices.Clone(p.Cycles)
		q := p
		q.Cycles = q.Cycles[:len(q.Cycles)-3]
		Check(part, m, p)
		Check(part, m, q)
		if !slices.Equal(room, before) || !slices.Equal(p.Cycles, cyclesBefore) {
			t.Fatalf("by Check %v, %v became %v, %v", before, cyclesBefore, room, p.Cycles)
		}
	}
}

// What a caller writes into an answer, with the room behind its end, is seen in no other one.
func TestAnswersAreTheCallersOwn(t *testing.T) {
	r := rand.New(rand.NewSource(73))
	for range 300 {
		l, m := chanceBody(r, 12), chanceTable(r)
		first, e := Find(l, m)
		second, _ := Find(l, m)
		for n, all := 0, first.Cycles[:cap(first.Cycles)]; n < len(all); n++ {
			all[n] = -7
		}
		third, _ := Find(l, m)
		if e == api.OK && (!samePlan(second, third) || !Check(l, m, second)) {
			t.Fatalf("%v: %v, %v", l, second, third)
		}
	}
}

// Nothing is kept: what the caller changes in his body and his plan is seen by the next call.
func TestLaterChangesAreSeen(t *testing.T) {
	l := bodyOf(multiplies(1, 1, 8), moves(2, 9), prints(3))
	wantEvery(t, l, example(), 3, 1)
	p := plan(3, 1, 0, 0, 0)
	wantCheck(t, l, example(), p, true)
	p.Cycles[1] = 3
	wantCheck(t, l, example(), p, false)
	p.Stages = 2
	wantCheck(t, l, example(), p, true)
	l[1].A = 1
	wantEvery(t, l, example(), 3, 2)
	p.Cycles[1] = 4
	wantCheck(t, l, example(), p, false)
	l[0].A = 8
	l[1].A = 9
	wantEvery(t, l, example(), 2, 1)
	l[1] = api.Op{Do: api.Halt}
	wantRefused(t, l, example(), api.ErrOp)
}

// Who asks at the same time, of the same body, gets the same answers.
func TestAskedAtTheSameTime(t *testing.T) {
	r := rand.New(rand.NewSource(5))
	var l []api.Op
	for range 24 {
		l = append(l, chanceOp(r, 32))
	}
	want := wantFound(t, l, example())
	done := make(chan bool)
	for range 8 {
		go func() {
			well := true
			for range 10 {
				p, e := Find(l, example())
				well = well && e == api.OK && samePlan(p, want) && Check(l, example(), want)
			}
			done <- well
		}()
	}
	for range 8 {
		if !<-done {
			t.Error("another answer")
		}
	}
}

func FuzzModulo(f *testing.F) {
	f.Add([]byte{2, 1, 2, 3, 0, 12, 4, 1, 1, 0, 17, 0, 4, 0, 0}, []byte{1, 1, 1, 1, 1, 3, 2, 1, 1, 2, 1, 1, 1}, []byte{3, 2, 0, 1, 4})
	f.Add([]byte{16, 0, 1, 2, 8, 15, 3, 1, 0, 9, 13, 1, 1, 2, 0}, []byte{2, 1, 1, 0, 8, 1, 7, 7, 4, 3, 2, 1, 4}, []byte{9, 1, 0, 0, 0})
	f.Add([]byte{18, 0, 0, 0, 1}, []byte{0, 9}, []byte{2, 1})
	f.Fuzz(func(t *testing.T, data, numbers, places []byte) {
		m := example()
		all := []*int{}
		for _, row := range []*[api.Classes]int{&m.Units, &m.Lat, &m.Busy} {
			for class := range row {
				all = append(all, &row[class])
			}
		}
		for n, at := range append(all, &m.Delay) {
			if n < len(numbers) {
				*at = int(int8(numbers[n]))
			}
		}
		var l []api.Op
		for ; len(data) >= 5 && len(l) < 70; data = data[5:] {
			l = append(l, api.Op{Do: int8(data[0]), D: data[1], A: data[2], B: data[3], Imm: int64(int8(data[4]))})
		}
		var p api.Plan
		for n, b := range places {
			switch n {
			case 0:
				p.Every = int(int8(b))
			case 1:
				p.Stages = int(int8(b))
			default:
				p.Cycles = append(p.Cycles, int(int8(b)))
			}
		}
		for _, m := range []api.Table{m, example()} {
			wantFindTold(t, l, m)
			wantCheckTold(t, l, m, p)
		}
	})
}
