package bundle

import (
	"math"
	"slices"
	"strings"
	"testing"

	"hayloft/api"
)

// row is a line of chapter 3's table, written out once more: a kind's class (-1: none) and the fields that count.
type row struct {
	do     int8
	class  int
	fields string
}

var chapter = []row{
	{api.Nop, -1, ""}, {api.Const, 0, "DI"}, {api.Add, 0, "DAB"}, {api.Sub, 0, "DAB"}, {api.And, 0, "DAB"}, {api.Or, 0, "DAB"},
	{api.Xor, 0, "DAB"}, {api.Shl, 0, "DAB"}, {api.Shr, 0, "DAB"}, {api.Less, 0, "DAB"}, {api.Equal, 0, "DAB"}, {api.Move, 0, "DA"},
	{api.Times, 1, "DAB"}, {api.Divide, 1, "DAB"}, {api.Rest, 1, "DAB"}, {api.Load, 2, "DAI"}, {api.Store, 2, "ABI"}, {api.Print, 2, "A"},
	{api.Jump, 3, "I"}, {api.Branch, 3, "AI"}, {api.Halt, 3, "A"}, {api.Count, 3, "AI"}, {api.Short, 3, "ABI"}, {api.Again, 3, "I"},
}

func (r row) has(field string) bool { return strings.Contains(r.fields, field) }

// with answers an operation of this kind whose fields that count are handed in.
func (r row) with(d, a, b uint8, imm int64) api.Op {
	o := api.Op{Do: r.do}
	if r.has("D") {
		o.D = d
	}
	if r.has("A") {
		o.A = a
	}
	if r.has("B") {
		o.B = b
	}
	if r.has("I") {
		o.Imm = imm
	}
	return o
}

// sample answers an operation of a class, the number-th of several that are unlike each other.
func sample(class, number int) api.Op {
	n := uint8(number)
	return [api.Classes]api.Op{
		api.Alu: {Do: api.Add, D: 1 + n, A: 2 + n, B: 3 + n},
		api.Mul: {Do: api.Times, D: 4 + n, A: 5 + n, B: 6 + n},
		api.Mem: {Do: api.Load, D: 7 + n, A: 8 + n, Imm: int64(number) - 3},
		api.Ctl: {Do: api.Branch, A: 9 + n, Imm: int64(number) + 4},
	}[class]
}

// samples answers so many operations of a class.
func samples(class, count int) []api.Op {
	var l []api.Op
	for n := range count {
		l = append(l, sample(class, n))
	}
	return l
}

// machine answers a table of so many units, and of no matter what else.
func machine(alu, mul, mem, ctl int) api.Table {
	return api.Table{Units: [api.Classes]int{alu, mul, mem, ctl}, Lat: [api.Classes]int{1, 3, 8, 1}, Busy: [api.Classes]int{1, 4, 2, 1}, Delay: 1}
}

// The chapter's table: one unit of Alu and Mul, two of Mem, one of Ctl.
func example() api.Table { return machine(1, 1, 2, 1) }

// noTables are tables that are none, each by one number.
func noTables() []api.Table {
	var all []api.Table
	spoil := func(change func(m *api.Table)) {
		m := machine(1, 2, 3, 4)
		change(&m)
		all = append(all, m)
	}
	for class := range api.Classes {
		for _, n := range []int{-1, api.MaxUnits + 1, math.MinInt, math.MaxInt, 1 << 32} {
			spoil(func(m *api.Table) { m.Units[class] = n })
		}
		for _, n := range []int{-1, 0, api.MaxLatency + 1, math.MinInt, math.MaxInt} {
			spoil(func(m *api.Table) { m.Lat[class] = n })
		}
		for _, n := range []int{-1, 0, api.MaxBusy + 1, math.MinInt, math.MaxInt} {
			spoil(func(m *api.Table) { m.Busy[class] = n })
		}
	}
	for _, n := range []int{-1, api.MaxDelay + 1, math.MinInt, math.MaxInt} {
		spoil(func(m *api.Table) { m.Delay = n })
	}
	return append(all, api.Table{})
}

// of answers a bundle of operations of one class, and of no others.
func of(class int, l ...api.Op) api.Bundle {
	var b api.Bundle
	b.Ops[class] = l
	return b
}

// full answers a bundle that uses all units.
func full(m api.Table) api.Bundle {
	var b api.Bundle
	for class, units := range m.Units {
		b.Ops[class] = samples(class, units)
	}
	return b
}

// Bundles are the same, if a list without operations may be nil or empty.
func same(a, b api.Bundle) bool {
	for class := range api.Classes {
		if !slices.Equal(a.Ops[class], b.Ops[class]) {
			return false
		}
	}
	return true
}

func sameAll(a, b []api.Bundle) bool { return slices.EqualFunc(a, b, same) }

// told answers an operation's word by sums, as the chapter says where its fields begin: at bits 0, 6, 11, 16 and 21.
func told(o api.Op) uint64 {
	imm := uint64(o.Imm + 1<<32)
	if o.Imm >= 0 {
		imm = uint64(o.Imm)
	}
	return uint64(o.Do) + 64*uint64(o.D) + 2048*uint64(o.A) + 65536*uint64(o.B) + 2097152*imm
}

func wantCheck(t testing.TB, b api.Bundle, m api.Table, want api.Errno) {
	t.Helper()
	if e := Check(b, m); e != want {
		t.Errorf("Check(%v, %v) is %v, want %v", b, m, e, want)
	}
}

func wantEncode(t testing.TB, l []api.Bundle, m api.Table, want ...uint64) {
	t.Helper()
	if w, e := Encode(l, m); e != api.OK || !slices.Equal(w, want) {
		t.Errorf("Encode(%v, %v) is %v, %v, want %v", l, m, w, e, want)
	}
}

func wantDecode(t testing.TB, w []uint64, m api.Table, want ...api.Bundle) {
	t.Helper()
	if l, e := Decode(w, m); e != api.OK || !sameAll(l, want) {
		t.Errorf("Decode(%v, %v) is %v, %v, want %v", w, m, l, e, want)
	}
}

// wantBoth says that these are the words of these bundles, and the bundles of these words.
func wantBoth(t testing.TB, l []api.Bundle, m api.Table, w ...uint64) {
	t.Helper()
	wantEncode(t, l, m, w...)
	wantDecode(t, w, m, l...)
}

// The errors have nothing beside them.
func wantEncodeRefused(t testing.TB, l []api.Bundle, m api.Table, want api.Errno) {
	t.Helper()
	if w, e := Encode(l, m); e != want || w != nil {
		t.Errorf("Encode of %d bundles, %v, is %d words, %v, want %v", len(l), m, len(w), e, want)
	}
}

func wantDecodeRefused(t testing.TB, w []uint64, m api.Table, want api.Errno) {
	t.Helper()
	if l, e := Decode(w, m); e != want || l != nil {
		t.Errorf("Decode of %d words, %v, is %d bundles, %v, want %v", len(w), m, len(l), e, want)
	}
}

// wantFormed says that b is well formed: it has a word for each unit, and is what is read of them.
func wantFormed(t testing.TB, b api.Bundle, m api.Table) {
	t.Helper()
	wantCheck(t, b, m, api.OK)
	w, e := Encode([]api.Bundle{b}, m)
	if e != api.OK || len(w) != m.Units[0]+m.Units[1]+m.Units[2]+m.Units[3] {
		t.Errorf("Encode(%v, %v) is %v, %v", b, m, w, e)
	}
	if len(w) > 0 {
		wantDecode(t, w, m, b)
	}
}

// wantUnformed says that b is not well formed, alone and among others that are.
func wantUnformed(t testing.TB, b api.Bundle, m api.Table) {
	t.Helper()
	wantCheck(t, b, m, api.ErrBadBundle)
	good := full(m)
	for _, l := range [][]api.Bundle{{b}, {b, good}, {good, b}, {{}, b, {}}, {good, good, b}} {
		wantEncodeRefused(t, l, m, api.ErrBadBundle)
	}
}

func TestChapterExamples(t *testing.T) {
	var b api.Bundle
	b.Ops[api.Alu] = []api.Op{{Do: api.Add, D: 1, A: 2, B: 3}}
	b.Ops[api.Mem] = []api.Op{{Do: api.Load, D: 4, A: 5, Imm: -1}}
	wantBoth(t, []api.Bundle{b}, example(), 200770, 0, 9007199252654351, 0, 0)
	wantBoth(t, []api.Bundle{{}}, example(), 0, 0, 0, 0, 0)
	wantDecodeRefused(t, []uint64{0, 0, 0, 9007199252654351, 0}, example(), api.ErrBadBundle)
	wantDecodeRefused(t, []uint64{200770, 0, 9007199252654351, 0}, example(), api.ErrBadBundle)
	wantDecodeRefused(t, make([]uint64, 4), example(), api.ErrBadBundle)
	// The word of DOC.md's eighth example, and with its 54th bit.
	wantDecode(t, []uint64{200770}, machine(1, 0, 0, 0), of(api.Alu, api.Op{Do: api.Add, D: 1, A: 2, B: 3}))
	wantDecodeRefused(t, []uint64{200770 | 1<<53}, machine(1, 0, 0, 0), api.ErrBadBundle)
}

// A word by hand for a kind of each class, with each field in its place.
func TestWordsByHand(t *testing.T) {
	for _, c := range []struct {
		o     api.Op
		class int
		word  uint64
	}{
		{api.Op{Do: api.Const}, api.Alu, 1},
		{api.Op{Do: api.Const, Imm: 1}, api.Alu, 1 + 1<<21},
		{api.Op{Do: api.Const, D: 31, Imm: math.MinInt32}, api.Alu, 0x00100000000007c1},
		{api.Op{Do: api.Const, Imm: math.MaxInt32}, api.Alu, 0x000fffffffe00001},
		{api.Op{Do: api.Move, D: 1}, api.Alu, 11 + 1<<6},
		{api.Op{Do: api.Move, A: 1}, api.Alu, 11 + 1<<11},
		{api.Op{Do: api.Rest, B: 1}, api.Mul, 14 + 1<<16},
		{api.Op{Do: api.Divide, D: 31, A: 31, B: 31}, api.Mul, 0x1fffcd},
		{api.Op{Do: api.Store, A: 31, B: 31, Imm: -1}, api.Mem, 0x001ffffffffff810},
		{api.Op{Do: api.Print, A: 30}, api.Mem, 17 + 30<<11},
		{api.Op{Do: api.Jump}, api.Ctl, 18},
		{api.Op{Do: api.Short, A: 4, B: 5, Imm: 9}, api.Ctl, 22 + 4<<11 + 5<<16 + 9<<21},
		{api.Op{Do: api.Again, Imm: -1}, api.Ctl, 0x001fffffffe00017},
	} {
		m := machine(0, 0, 0, 0)
		m.Units[c.class] = 1
		wantBoth(t, []api.Bundle{of(c.class, c.o)}, m, c.word)
	}
}

// The classes stand in their order, each with as many words as it has units.
func TestWordsStandByClasses(t *testing.T) {
	m := machine(2, 1, 3, 2)
	a, b, c, d := sample(api.Alu, 0), sample(api.Mul, 0), sample(api.Mem, 0), sample(api.Ctl, 0)
	a1, c1, c2, d1 := sample(api.Alu, 1), sample(api.Mem, 1), sample(api.Mem, 2), sample(api.Ctl, 1)
	wantBoth(t, []api.Bundle{full(m)}, m, told(a), told(a1), told(b), told(c), told(c1), told(c2), told(d), told(d1))
	some := api.Bundle{Ops: [api.Classes][]api.Op{{a1}, {}, {c2, c}, {d}}}
	wantBoth(t, []api.Bundle{some}, m, told(a1), 0, 0, told(c2), told(c), 0, told(d), 0)
	wantBoth(t, []api.Bundle{of(api.Mul, b)}, m, 0, 0, told(b), 0, 0, 0, 0, 0)
	wantBoth(t, []api.Bundle{of(api.Ctl, d1, d)}, m, 0, 0, 0, 0, 0, 0, told(d1), told(d))
	// One behind the other, with such as use nothing between.
	wantBoth(t, []api.Bundle{of(api.Alu, a), {}, some, {}}, m,
		told(a), 0, 0, 0, 0, 0, 0, 0,
		0, 0, 0, 0, 0, 0, 0, 0,
		told(a1), 0, 0, told(c2), told(c), 0, told(d), 0,
		0, 0, 0, 0, 0, 0, 0, 0)
	// The same operation in several units is one in each of them.
	wantBoth(t, []api.Bundle{of(api.Mem, c, c, c)}, m, 0, 0, 0, told(c), told(c), told(c), 0, 0)
}

// A class without units has no words.
func TestTablesWithoutAUnitOfAClass(t *testing.T) {
	for class := range api.Classes {
		m := example()
		m.Units[class] = 0
		wantFormed(t, full(m), m)
		wantFormed(t, api.Bundle{}, m)
		wantUnformed(t, of(class, sample(class, 0)), m)
		b := full(m)
		b.Ops[class] = samples(class, 1)
		wantUnformed(t, b, m)
		var words []uint64
		for other := range api.Classes {
			for n := range m.Units[other] {
				words = append(words, told(sample(other, n)))
			}
		}
		wantBoth(t, []api.Bundle{full(m), {}, full(m)}, m, slices.Concat(words, make([]uint64, len(words)), words)...)
	}
}

// Of no units there are no words, of as many bundles as there are; and of no words no bundles.
func TestTablesWithoutAnyUnit(t *testing.T) {
	m := machine(0, 0, 0, 0)
	wantCheck(t, api.Bundle{}, m, api.OK)
	empty := api.Bundle{Ops: [api.Classes][]api.Op{{}, nil, {}, make([]api.Op, 0, 3)}}
	wantCheck(t, empty, m, api.OK)
	for _, count := range []int{0, 1, 2, 1000, api.MaxCycles} {
		wantEncode(t, make([]api.Bundle, count), m)
	}
	wantEncode(t, []api.Bundle{empty, {}, empty}, m)
	wantEncodeRefused(t, make([]api.Bundle, api.MaxCycles+1), m, api.ErrLong)
	for class := range api.Classes {
		wantUnformed(t, of(class, sample(class, 0)), m)
		wantUnformed(t, of(class, api.Op{}), m)
	}
	wantDecode(t, nil, m)
	wantDecode(t, []uint64{}, m)
	wantDecode(t, []uint64{1, 2, 3}[:0], m)
	for _, count := range []int{1, 2, 5, 8, api.MaxCycles, api.MaxCycles + 1} {
		wantDecodeRefused(t, make([]uint64, count), m, api.ErrBadBundle)
	}
	wantDecodeRefused(t, []uint64{200770}, m, api.ErrBadBundle)
}

// As many operations as units, fewer, and one more, of every class.
func TestHowManyOperations(t *testing.T) {
	for class := range api.Classes {
		for units := range api.MaxUnits + 1 {
			m := example()
			m.Units[class] = units
			for count := range units + 1 {
				wantFormed(t, of(class, samples(class, count)...), m)
				b := full(m)
				b.Ops[class] = samples(class, count)
				wantFormed(t, b, m)
			}
			for _, count := range []int{units + 1, units + 2, 2*units + 1, 100} {
				wantUnformed(t, of(class, samples(class, count)...), m)
				b := full(m)
				b.Ops[class] = samples(class, count)
				wantUnformed(t, b, m)
			}
		}
	}
	// One class's units are of no use to another one, and what stands behind a list's end is none of it.
	wantUnformed(t, of(api.Alu, samples(api.Alu, 2)...), machine(1, 8, 8, 8))
	wantFormed(t, of(api.Alu, samples(api.Alu, 8)[:1]...), machine(1, 0, 0, 0))
}

// noOps are such as are none, of a class each by their kinds.
func noOps(class int) []api.Op {
	var all []api.Op
	for _, r := range chapter {
		if r.class != class {
			continue
		}
		o := r.with(1, 2, 3, 4)
		spoil := func(change func(o *api.Op)) {
			spoilt := o
			change(&spoilt)
			all = append(all, spoilt)
		}
		for _, register := range []uint8{32, 33, 63, 64, 128, 255} {
			spoil(func(o *api.Op) { o.D = register })
			spoil(func(o *api.Op) { o.A = register })
			spoil(func(o *api.Op) { o.B = register })
		}
		for _, imm := range []int64{math.MaxInt32 + 1, math.MinInt32 - 1, 1 << 32, 1<<32 + 4, -1 << 32, math.MinInt64, math.MaxInt64} {
			spoil(func(o *api.Op) { o.Imm = imm })
		}
		if !r.has("D") {
			spoil(func(o *api.Op) { o.D = 1 })
			spoil(func(o *api.Op) { o.D = 31 })
		}
		if !r.has("A") {
			spoil(func(o *api.Op) { o.A = 1 })
			spoil(func(o *api.Op) { o.A = 31 })
		}
		if !r.has("B") {
			spoil(func(o *api.Op) { o.B = 1 })
			spoil(func(o *api.Op) { o.B = 31 })
		}
		if !r.has("I") {
			for _, imm := range []int64{1, -1, math.MaxInt32, math.MinInt32} {
				spoil(func(o *api.Op) { o.Imm = imm })
			}
		}
	}
	return all
}

func TestOperationsThatAreNone(t *testing.T) {
	m := machine(2, 2, 2, 2)
	for class := range api.Classes {
		all := noOps(class)
		for n := range 128 {
			if n >= api.Kinds {
				all = append(all, api.Op{Do: int8(n)})
			}
			all = append(all, api.Op{Do: int8(-n - 1)}, api.Op{Do: int8(-n - 1), D: 1, A: 2, B: 3})
		}
		for _, o := range all {
			wantUnformed(t, of(class, o), m)
			wantUnformed(t, of(class, o, sample(class, 0)), m)
			wantUnformed(t, of(class, sample(class, 0), o), m)
			b := full(m)
			b.Ops[class][1] = o
			wantUnformed(t, b, m)
		}
	}
}

// Every kind in every class: it is well formed in its own one alone, and Nop in none.
func TestOperationsOfAnotherClass(t *testing.T) {
	m := machine(2, 2, 2, 2)
	for _, r := range chapter {
		for class := range api.Classes {
			for _, o := range []api.Op{r.with(0, 0, 0, 0), r.with(1, 2, 3, 4), r.with(31, 31, 31, math.MinInt32)} {
				if class == r.class {
					wantFormed(t, of(class, o), m)
					wantFormed(t, of(class, o, o), m)
					continue
				}
				wantUnformed(t, of(class, o), m)
				wantUnformed(t, of(class, o, sample(class, 0)), m)
				wantUnformed(t, of(class, sample(class, 0), o), m)
				b := full(m)
				b.Ops[class][0] = o
				wantUnformed(t, b, m)
			}
		}
	}
}

// Each kind with each field at both ends of its range, and Imm around 0.
func TestEveryKindAndField(t *testing.T) {
	imms := []int64{math.MinInt32, math.MinInt32 + 1, -1 << 16, -257, -2, -1, 0, 1, 2, 255, 1 << 16, math.MaxInt32 - 1, math.MaxInt32}
	for _, r := range chapter[1:] {
		m := machine(0, 0, 0, 0)
		m.Units[r.class] = 1
		for _, d := range []uint8{0, 1, 16, 30, 31} {
			for _, a := range []uint8{0, 1, 16, 30, 31} {
				for _, b := range []uint8{0, 1, 16, 30, 31} {
					for _, imm := range imms {
						o := r.with(d, a, b, imm)
						wantBoth(t, []api.Bundle{of(r.class, o)}, m, told(o))
					}
				}
			}
		}
		for register := range uint8(api.Registers) {
			for _, o := range []api.Op{r.with(register, 0, 0, 0), r.with(0, register, 0, 0), r.with(0, 0, register, 0)} {
				wantBoth(t, []api.Bundle{of(r.class, o)}, m, told(o))
			}
		}
		for bit := range 31 {
			for _, imm := range []int64{1 << bit, 1<<bit - 1, -1 << bit, -1<<bit - 1} {
				o := r.with(0, 0, 0, imm)
				wantBoth(t, []api.Bundle{of(r.class, o)}, m, told(o))
			}
		}
	}
}

func TestTablesThatAreNone(t *testing.T) {
	bad := of(api.Alu, api.Op{Do: 99})
	for _, m := range noTables() {
		wantCheck(t, api.Bundle{}, m, api.ErrTable)
		wantCheck(t, full(example()), m, api.ErrTable)
		wantCheck(t, bad, m, api.ErrTable)
		for _, l := range [][]api.Bundle{nil, {}, {{}}, {bad}, {full(example()), bad}} {
			wantEncodeRefused(t, l, m, api.ErrTable)
		}
		for _, w := range [][]uint64{nil, {}, {0}, {200770}, {1 << 63}, make([]uint64, 5), make([]uint64, 7)} {
			wantDecodeRefused(t, w, m, api.ErrTable)
		}
	}
}

// Lat, Busy and Delay at their ends are of no matter.
func TestWhatElseATableSays(t *testing.T) {
	low, high := example(), example()
	for class := range api.Classes {
		low.Lat[class], low.Busy[class] = 1, 1
		high.Lat[class], high.Busy[class] = api.MaxLatency, api.MaxBusy
	}
	low.Delay, high.Delay = 0, api.MaxDelay
	for _, m := range []api.Table{low, high} {
		wantFormed(t, full(m), m)
		wantBoth(t, []api.Bundle{of(api.Mul, sample(api.Mul, 0))}, m, 0, told(sample(api.Mul, 0)), 0, 0, 0)
	}
}

func TestNoBundles(t *testing.T) {
	for _, m := range []api.Table{example(), machine(0, 0, 0, 1), machine(8, 8, 8, 8)} {
		wantEncode(t, nil, m)
		wantEncode(t, []api.Bundle{}, m)
		wantEncode(t, []api.Bundle{of(0, api.Op{Do: 99})}[:0], m)
		wantDecode(t, nil, m)
		wantDecode(t, []uint64{}, m)
		wantDecode(t, []uint64{1 << 63}[:0], m)
	}
}

// A number of words that is a multiple of the width, and all that are not.
func TestHowManyWords(t *testing.T) {
	for _, m := range []api.Table{example(), machine(0, 0, 1, 0), machine(0, 2, 0, 0), machine(3, 0, 0, 0), machine(8, 8, 8, 8)} {
		width := m.Units[0] + m.Units[1] + m.Units[2] + m.Units[3]
		for count := range 4*width + 1 {
			w := make([]uint64, count)
			if count%width == 0 {
				wantDecode(t, w, m, make([]api.Bundle, count/width)...)
			} else {
				wantDecodeRefused(t, w, m, api.ErrBadBundle)
			}
		}
		// What stands behind the words' end is none of them.
		w := make([]uint64, 2*width)
		w[width] = 1 << 63
		wantDecode(t, w[:width], m, api.Bundle{})
		wantDecodeRefused(t, w, m, api.ErrBadBundle)
	}
}

// many answers so many bundles, unlike each other, and their words.
func many(m api.Table, count int) ([]api.Bundle, []uint64) {
	l := make([]api.Bundle, count)
	var w []uint64
	for n := range l {
		for class, units := range m.Units {
			used := (n + class) % (units + 1)
			for k := range units {
				if k >= used {
					w = append(w, 0)
					continue
				}
				o := sample(class, (n+k)%20)
				l[n].Ops[class] = append(l[n].Ops[class], o)
				w = append(w, told(o))
			}
		}
	}
	return l, w
}

// As many bundles as there can be, and one more.
func TestTheMostBundles(t *testing.T) {
	for _, m := range []api.Table{machine(1, 0, 0, 0), machine(0, 0, 0, 1), example(), machine(8, 8, 8, 8)} {
		l, w := many(m, api.MaxCycles+1)
		width := len(w) / len(l)
		for _, count := range []int{1, 2, 1000, api.MaxCycles - 1, api.MaxCycles} {
			got, e := Encode(l[:count], m)
			if e != api.OK || !slices.Equal(got, w[:count*width]) {
				t.Errorf("%v: Encode of %d bundles is %d words, %v", m, count, len(got), e)
			}
			back, e := Decode(w[:count*width], m)
			if e != api.OK || !sameAll(back, l[:count]) {
				t.Errorf("%v: Decode of %d bundles' words is %d, %v", m, count, len(back), e)
			}
		}
		wantEncodeRefused(t, l, m, api.ErrLong)
		wantDecodeRefused(t, w, m, api.ErrLong)
		wantDecodeRefused(t, slices.Concat(w, w), m, api.ErrLong)
		wantEncodeRefused(t, slices.Concat(l, l), m, api.ErrLong)
	}
}

func TestErrorsInTheirOrder(t *testing.T) {
	bad := of(api.Alu, api.Op{Do: 99})
	l, w := many(example(), api.MaxCycles+1)
	none := example()
	none.Delay = 5
	// The table's goes ahead of all.
	wantEncodeRefused(t, l, none, api.ErrTable)
	wantDecodeRefused(t, w, none, api.ErrTable)
	wantDecodeRefused(t, w[1:], none, api.ErrTable)
	// More bundles than there can be go ahead of one that is not well formed, wherever it stands.
	for _, at := range []int{0, 1000, api.MaxCycles} {
		spoilt := slices.Clone(l)
		spoilt[at] = bad
		wantEncodeRefused(t, spoilt, example(), api.ErrLong)
		if at < api.MaxCycles {
			wantEncodeRefused(t, spoilt[:api.MaxCycles], example(), api.ErrBadBundle)
		}
	}
	wantEncodeRefused(t, append(make([]api.Bundle, api.MaxCycles), bad), machine(0, 0, 0, 0), api.ErrLong)
	// A number of words that is no multiple goes ahead of more than there can be, and that ahead of a word that is none.
	for more := 1; more < 5; more++ {
		wantDecodeRefused(t, append(slices.Clone(w), make([]uint64, more)...), example(), api.ErrBadBundle)
		wantDecodeRefused(t, w[:5*api.MaxCycles+more], example(), api.ErrBadBundle)
	}
	wantDecodeRefused(t, w, machine(0, 0, 0, 0), api.ErrBadBundle)
	for _, at := range []int{0, 1000, 5 * api.MaxCycles} {
		spoilt := slices.Clone(w)
		spoilt[at] = 1 << 63
		wantDecodeRefused(t, spoilt, example(), api.ErrLong)
		if at < 5*api.MaxCycles {
			wantDecodeRefused(t, spoilt[:5*api.MaxCycles], example(), api.ErrBadBundle)
		}
	}
	// The last word of as many as there can be is asked too.
	last := slices.Clone(w[:5*api.MaxCycles])
	last[len(last)-1] = 63
	wantDecodeRefused(t, last, example(), api.ErrBadBundle)
}

// wantNoWord says that it is no word of that class: in each of its units, alone and in a bundle that is full.
func wantNoWord(t testing.TB, word uint64, class int) {
	t.Helper()
	m := machine(2, 2, 2, 2)
	good, _ := Encode([]api.Bundle{full(m)}, m)
	for at := range 2 {
		w := slices.Clone(good)
		w[2*class+at] = word
		wantDecodeRefused(t, w, m, api.ErrBadBundle)
		wantDecodeRefused(t, slices.Concat(good, w, good), m, api.ErrBadBundle)
		alone := make([]uint64, 8)
		alone[2*class+at] = word
		wantDecodeRefused(t, alone, m, api.ErrBadBundle)
	}
}

// A bit above the fields, whatever they say.
func TestBitsAboveTheFields(t *testing.T) {
	for class := range api.Classes {
		for bit := 53; bit < 64; bit++ {
			wantNoWord(t, told(sample(class, 0))|1<<bit, class)
			wantNoWord(t, 1<<bit, class)
		}
		wantNoWord(t, math.MaxUint64, class)
		// An Imm below 0, its sign in all bits above.
		for _, r := range chapter {
			if r.class == class && r.has("I") {
				wantNoWord(t, uint64(r.do)|math.MaxUint64<<21&math.MaxUint64, class)
			}
		}
	}
}

// A kind that there is none of; and of a word that is not 0 the kind 0.
func TestWordsOfNoKind(t *testing.T) {
	for class := range api.Classes {
		for do := range uint64(64) {
			if do >= api.Kinds {
				wantNoWord(t, do, class)
				wantNoWord(t, do+1<<6+2<<11, class)
			}
		}
		for bit := 6; bit < 64; bit++ {
			wantNoWord(t, 1<<bit, class)
		}
	}
}

func TestWordsOfAnotherClass(t *testing.T) {
	for _, r := range chapter[1:] {
		for class := range api.Classes {
			if class != r.class {
				wantNoWord(t, told(r.with(0, 0, 0, 0)), class)
				wantNoWord(t, told(r.with(1, 2, 3, 4)), class)
				wantNoWord(t, told(r.with(31, 31, 31, -1)), class)
			}
		}
	}
}

// A field that the kind does not use, with each of its bits.
func TestWordsOfFieldsThatDoNotCount(t *testing.T) {
	for _, r := range chapter[1:] {
		good := told(r.with(1, 2, 3, 4))
		for _, field := range []struct {
			name     string
			at, bits int
		}{{"D", 6, 5}, {"A", 11, 5}, {"B", 16, 5}, {"I", 21, 32}} {
			if r.has(field.name) {
				continue
			}
			for bit := range field.bits {
				wantNoWord(t, good|1<<(field.at+bit), r.class)
				wantNoWord(t, uint64(r.do)|1<<(field.at+bit), r.class)
			}
		}
	}
}

// Which units are used, in every way that there is: the words are some just if the used ones come first.
func TestZerosAheadAndBehind(t *testing.T) {
	for class := range api.Classes {
		for units := 1; units <= api.MaxUnits; units++ {
			m := machine(1, 1, 1, 1)
			m.Units[class] = units
			for used := range 1 << units {
				w := make([]uint64, 3+units)
				var l []api.Op
				for n := range units {
					if used>>n&1 == 1 {
						w[class+n] = told(sample(class, n))
						l = append(l, sample(class, n))
					}
				}
				if used&(used+1) == 0 {
					wantDecode(t, w, m, of(class, l...))
				} else {
					wantDecodeRefused(t, w, m, api.ErrBadBundle)
				}
			}
		}
	}
	// A class's 0s are of no matter to the next one: it begins with its own first unit.
	m := machine(2, 2, 2, 2)
	a, d := told(sample(api.Mul, 0)), told(sample(api.Ctl, 0))
	wantDecode(t, []uint64{0, 0, a, 0, 0, 0, d, 0}, m, api.Bundle{Ops: [api.Classes][]api.Op{nil, samples(1, 1), nil, samples(3, 1)}})
	wantDecodeRefused(t, []uint64{0, 0, a, 0, 0, 0, 0, d}, m, api.ErrBadBundle)
	wantDecodeRefused(t, []uint64{0, 0, a, 0, 0, 0, d, 0, 0, 0, 0, a, 0, 0, 0, 0}, m, api.ErrBadBundle)
}
