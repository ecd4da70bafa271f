package bundle

import (
	"math"
	"math/rand"
	"slices"
	"testing"

	"hayloft/api"
)

// isTable is what chapter 2 asks of a table, told a second time.
func isTable(m api.Table) bool {
	for class := range 4 {
		if m.Units[class] < 0 || m.Units[class] > 8 || m.Lat[class] < 1 || m.Lat[class] > 8 || m.Busy[class] < 1 || m.Busy[class] > 4 {
			return false
		}
	}
	return m.Delay >= 0 && m.Delay <= 4
}

// isOpTold is what chapter 3 asks of an operation of a class: what counts of it is all that there is.
func isOpTold(o api.Op, class int) bool {
	if o.Do < 0 || int(o.Do) >= len(chapter) || chapter[o.Do].class != class {
		return false
	}
	return o.D < 32 && o.A < 32 && o.B < 32 && o.Imm >= math.MinInt32 && o.Imm <= math.MaxInt32 && o == chapter[o.Do].with(o.D, o.A, o.B, o.Imm)
}

func checkTold(b api.Bundle, m api.Table) api.Errno {
	if !isTable(m) {
		return api.ErrTable
	}
	for class, l := range b.Ops {
		if len(l) > m.Units[class] || slices.ContainsFunc(l, func(o api.Op) bool { return !isOpTold(o, class) }) {
			return api.ErrBadBundle
		}
	}
	return api.OK
}

// encodeTold asks for each unit of each class of each bundle which word stands there.
func encodeTold(l []api.Bundle, m api.Table) ([]uint64, api.Errno) {
	switch {
	case !isTable(m):
		return nil, api.ErrTable
	case len(l) > 65536:
		return nil, api.ErrLong
	}
	var w []uint64
	for _, b := range l {
		if checkTold(b, m) != api.OK {
			return nil, api.ErrBadBundle
		}
		for class := range 4 {
			for unit := range m.Units[class] {
				if unit < len(b.Ops[class]) {
					w = append(w, told(b.Ops[class][unit]))
				} else {
					w = append(w, 0)
				}
			}
		}
	}
	return w, api.OK
}

// opTold takes a word apart by division.
func opTold(word uint64) api.Op {
	o := api.Op{Do: int8(word % 64), D: uint8(word / 64 % 32), A: uint8(word / 2048 % 32), B: uint8(word / 65536 % 32), Imm: int64(word / 2097152)}
	if o.Imm >= 1<<31 {
		o.Imm -= 1 << 32
	}
	return o
}

// decodeTold gathers what stands in the words, and asks whether these are its words.
func decodeTold(w []uint64, m api.Table) ([]api.Bundle, api.Errno) {
	if !isTable(m) {
		return nil, api.ErrTable
	}
	width := m.Units[0] + m.Units[1] + m.Units[2] + m.Units[3]
	if width == 0 && len(w) > 0 || width > 0 && len(w)%width != 0 {
		return nil, api.ErrBadBundle
	}
	if width > 0 && len(w)/width > 65536 {
		return nil, api.ErrLong
	}
	var l []api.Bundle
	for at := 0; at < len(w); {
		var b api.Bundle
		for class := range 4 {
			for range m.Units[class] {
				if w[at] != 0 {
					b.Ops[class] = append(b.Ops[class], opTold(w[at]))
				}
				at++
			}
		}
		l = append(l, b)
	}
	if back, e := encodeTold(l, m); e != api.OK || !slices.Equal(back, w) {
		return nil, api.ErrBadBundle
	}
	return l, api.OK
}

// wantTold says that Check and Encode answer what is told a second time, and that there and back it is the same (P19.4).
func wantTold(t testing.TB, l []api.Bundle, m api.Table) api.Errno {
	t.Helper()
	for _, b := range l {
		if got, want := Check(b, m), checkTold(b, m); got != want {
			t.Fatalf("Check(%v, %v) is %v, want %v", b, m, got, want)
		}
	}
	want, e := encodeTold(l, m)
	got, f := Encode(l, m)
	if f != e || !slices.Equal(got, want) {
		t.Fatalf("Encode(%v, %v) is %v, %v, want %v, %v", l, m, got, f, want, e)
	}
	if e == api.OK && m.Units != [api.Classes]int{} {
		if back, e := Decode(got, m); e != api.OK || !sameAll(back, l) {
			t.Fatalf("%v: Decode of %v's words is %v, %v", m, l, back, e)
		}
	}
	return e
}

// wantReadTold says that Decode answers what is told a second time, and that back and there it is the same (P19.4).
func wantReadTold(t testing.TB, w []uint64, m api.Table) api.Errno {
	t.Helper()
	want, e := decodeTold(w, m)
	got, f := Decode(w, m)
	if f != e || !sameAll(got, want) {
		t.Fatalf("Decode(%v, %v) is %v, %v, want %v, %v", w, m, got, f, want, e)
	}
	if e == api.OK {
		for _, b := range got {
			if f := Check(b, m); f != api.OK {
				t.Fatalf("Check(%v, %v) is %v of what was read", b, m, f)
			}
		}
		if back, e := Encode(got, m); e != api.OK || !slices.Equal(back, w) {
			t.Fatalf("%v: Encode of what %v is read as is %v, %v", m, w, back, e)
		}
	}
	return e
}

// chanceImm answers numbers of 32 bits, of all sizes.
func chanceImm(r *rand.Rand) int64 { return int64(int32(r.Uint32()) >> r.Intn(32)) }

// chanceOp answers an operation of a class.
func chanceOp(r *rand.Rand, class int) api.Op {
	for {
		if k := chapter[r.Intn(len(chapter))]; k.class == class {
			return k.with(uint8(r.Intn(32)), uint8(r.Intn(32)), uint8(r.Intn(32)), chanceImm(r))
		}
	}
}

// anyOp answers what is mostly no operation.
func anyOp(r *rand.Rand) api.Op {
	return api.Op{Do: int8(r.Intn(30) - 3), D: uint8(r.Intn(34)), A: uint8(r.Intn(34)), B: uint8(r.Intn(34)), Imm: r.Int63() >> r.Intn(64)}
}

func chanceTable(r *rand.Rand, most int) api.Table {
	m := api.Table{Delay: r.Intn(5)}
	for class := range api.Classes {
		m.Units[class], m.Lat[class], m.Busy[class] = r.Intn(most+1), 1+r.Intn(8), 1+r.Intn(4)
	}
	return m
}

// chanceBundle answers one that is well formed.
func chanceBundle(r *rand.Rand, m api.Table) api.Bundle {
	var b api.Bundle
	for class, units := range m.Units {
		for range r.Intn(units + 1) {
			b.Ops[class] = append(b.Ops[class], chanceOp(r, class))
		}
	}
	return b
}

func chanceBundles(r *rand.Rand, m api.Table, most int) []api.Bundle {
	l := make([]api.Bundle, r.Intn(most+1))
	for n := range l {
		l[n] = chanceBundle(r, m)
	}
	return l
}

// spoil makes one bundle of several mostly such as is not well formed.
func spoil(r *rand.Rand, l []api.Bundle) {
	if len(l) == 0 {
		return
	}
	b := &l[r.Intn(len(l))]
	class := r.Intn(api.Classes)
	switch r.Intn(3) {
	case 0:
		b.Ops[class] = append(b.Ops[class], chanceOp(r, class))
	case 1:
		b.Ops[class] = append(b.Ops[class], chanceOp(r, r.Intn(api.Classes)))
	case 2:
		b.Ops[class] = append(b.Ops[class], anyOp(r))
	}
}

// spoilWords makes words mostly such as are none.
func spoilWords(r *rand.Rand, w []uint64) []uint64 {
	if len(w) == 0 {
		return append(w, 0)
	}
	at, other := r.Intn(len(w)), r.Intn(len(w))
	switch r.Intn(6) {
	case 0:
		w[at] ^= 1 << r.Intn(64)
	case 1:
		w[at] = 0
	case 2:
		w[at], w[other] = w[other], w[at]
	case 3:
		w[at] = r.Uint64() >> r.Intn(64)
	case 4:
		w[at] = told(chanceOp(r, r.Intn(api.Classes)))
	case 5:
		w = w[:at]
	}
	return w
}

func TestManyBundles(t *testing.T) {
	r := rand.New(rand.NewSource(19))
	operations := 0
	for range 4000 {
		m := chanceTable(r, 1+r.Intn(api.MaxUnits))
		l := chanceBundles(r, m, 6)
		if e := wantTold(t, l, m); e != api.OK {
			t.Fatalf("%v, %v: %v", l, m, e)
		}
		for _, b := range l {
			operations += len(slices.Concat(b.Ops[:]...))
		}
	}
	if operations < 20000 {
		t.Errorf("%d operations", operations)
	}
}

func TestManyThatAreNotWellFormed(t *testing.T) {
	r := rand.New(rand.NewSource(191))
	errors := map[api.Errno]int{}
	for range 6000 {
		m := chanceTable(r, 3)
		l := chanceBundles(r, m, 4)
		spoil(r, l)
		if r.Intn(8) == 0 {
			m.Delay = 5
		}
		errors[wantTold(t, l, m)]++
	}
	if len(errors) != 3 || errors[api.OK] < 500 || errors[api.ErrTable] < 300 || errors[api.ErrBadBundle] < 1000 {
		t.Errorf("by errors %v", errors)
	}
}

func TestManyWords(t *testing.T) {
	r := rand.New(rand.NewSource(192))
	errors := map[api.Errno]int{}
	for range 8000 {
		m := chanceTable(r, 3)
		w, _ := encodeTold(chanceBundles(r, m, 4), m)
		for range r.Intn(3) {
			w = spoilWords(r, w)
		}
		if r.Intn(8) == 0 {
			m.Lat[r.Intn(api.Classes)] = 0
		}
		errors[wantReadTold(t, w, m)]++
	}
	if len(errors) != 3 || errors[api.OK] < 1500 || errors[api.ErrTable] < 500 || errors[api.ErrBadBundle] < 1500 {
		t.Errorf("by errors %v", errors)
	}
}

// Words of any bits, of which few are some: those of a unit of each class, and with the fields that its kind counts alone.
func TestManyWordsOfAnyBits(t *testing.T) {
	r := rand.New(rand.NewSource(193))
	some := 0
	for range 60000 {
		m := machine(0, 0, 0, 0)
		m.Units[r.Intn(api.Classes)] = 1
		word := r.Uint64() >> r.Intn(64)
		if r.Intn(2) == 0 {
			word = word&^63 | uint64(r.Intn(api.Kinds))
		}
		if wantReadTold(t, []uint64{word}, m) == api.OK {
			some++
		}
	}
	if some < 1000 {
		t.Errorf("%d words of one operation", some)
	}
}

// All words of 13 bits, and all with one bit or two behind their Do, in all classes.
func TestAllShortWords(t *testing.T) {
	for class := range api.Classes {
		m := machine(0, 0, 0, 0)
		m.Units[class] = 1
		for word := range uint64(1 << 13) {
			wantReadTold(t, []uint64{word}, m)
		}
		for do := range uint64(64) {
			for bit := 6; bit < 64; bit++ {
				for other := bit; other < 64; other++ {
					wantReadTold(t, []uint64{do | 1<<bit | 1<<other}, m)
				}
			}
		}
	}
}

// wantTurned says P19.5 of words that are read: each bit turned, they are refused, or read as other bundles.
func wantTurned(t *testing.T, w []uint64, m api.Table) (refused, others int) {
	t.Helper()
	before, e := Decode(w, m)
	if e != api.OK {
		t.Fatalf("Decode(%v, %v): %v", w, m, e)
	}
	for at := range w {
		for bit := range 64 {
			turned := slices.Clone(w)
			turned[at] ^= 1 << bit
			l, e := Decode(turned, m)
			switch {
			case e == api.ErrBadBundle && l == nil:
				refused++
			case e == api.OK && len(l) == len(before) && !sameAll(l, before):
				others++
			default:
				t.Fatalf("%v: bit %d of word %d of %v turned: %v, %v", m, bit, at, w, l, e)
			}
			if bit >= 53 && e == api.OK {
				t.Fatalf("%v: bit %d of word %d of %v is above the fields, and read: %v", m, bit, at, w, l)
			}
		}
	}
	return refused, others
}

func TestEveryBitTurned(t *testing.T) {
	r := rand.New(rand.NewSource(195))
	refused, others := 0, 0
	for range 400 {
		m := chanceTable(r, 3)
		w, _ := encodeTold(chanceBundles(r, m, 3), m)
		a, b := wantTurned(t, w, m)
		refused, others = refused+a, others+b
	}
	if refused < 10000 || others < 10000 {
		t.Errorf("%d are refused, %d are others", refused, others)
	}
	// Every kind, at both ends of its fields.
	for _, k := range chapter[1:] {
		m := machine(0, 0, 0, 0)
		m.Units[k.class] = 2
		for _, o := range []api.Op{k.with(0, 0, 0, 0), k.with(31, 31, 31, -1), k.with(1, 2, 3, math.MinInt32), k.with(3, 2, 1, math.MaxInt32)} {
			wantTurned(t, []uint64{told(o), 0}, m)
			wantTurned(t, []uint64{told(o), told(o)}, m)
		}
	}
}

// Bundles that are unlike each other have words that are, and words that are read as bundles that are.
func TestNoTwoAreTheSame(t *testing.T) {
	r := rand.New(rand.NewSource(196))
	for range 4000 {
		m := chanceTable(r, 2)
		a, b := chanceBundle(r, m), chanceBundle(r, m)
		// Often such as differ by one field.
		if r.Intn(2) == 0 {
			b = copied([]api.Bundle{a})[0]
			class := r.Intn(api.Classes)
			if l := b.Ops[class]; len(l) > 0 {
				l[r.Intn(len(l))] = chanceOp(r, class)
			}
		}
		v, _ := Encode([]api.Bundle{a}, m)
		w, _ := Encode([]api.Bundle{b}, m)
		if same(a, b) != slices.Equal(v, w) {
			t.Fatalf("%v: %v and %v are the words of %v and %v", m, v, w, a, b)
		}
	}
}

// Many bundles' words are each one's words, one behind the other, and read so.
func TestOneBehindTheOther(t *testing.T) {
	r := rand.New(rand.NewSource(197))
	for range 1500 {
		m := chanceTable(r, 3)
		l := chanceBundles(r, m, 6)
		cut := r.Intn(len(l) + 1)
		all, _ := Encode(l, m)
		ahead, _ := Encode(l[:cut], m)
		behind, _ := Encode(l[cut:], m)
		if !slices.Equal(all, slices.Concat(ahead, behind)) {
			t.Fatalf("%v: %v of %v, %v and %v of its parts", m, all, l, ahead, behind)
		}
		whole, e := Decode(all, m)
		first, f := Decode(ahead, m)
		rest, g := Decode(behind, m)
		if e != api.OK || f != api.OK || g != api.OK || !sameAll(whole, slices.Concat(first, rest)) {
			t.Fatalf("%v: %v of %v, %v and %v of its parts", m, whole, all, first, rest)
		}
	}
}

// copied answers bundles in memory of their own.
func copied(l []api.Bundle) []api.Bundle {
	l = slices.Clone(l)
	for n := range l {
		for class := range l[n].Ops {
			l[n].Ops[class] = slices.Clone(l[n].Ops[class])
		}
	}
	return l
}

// roomy answers bundles whose lists, and they all, have room behind their ends, with something in it.
func roomy(l []api.Bundle) []api.Bundle {
	l = append(copied(l), of(api.Mul, api.Op{Do: 77}), of(api.Ctl, api.Op{Do: -7}))
	for n := range l {
		for class, list := range l[n].Ops {
			list = append(slices.Clone(list), api.Op{Do: 66, Imm: 5}, api.Op{Do: 55, D: 9})
			l[n].Ops[class] = list[:len(list)-2]
		}
	}
	return l[:len(l)-2]
}

// withRoom answers a copy of bundles with all that stands behind the ends.
func withRoom(l []api.Bundle) []api.Bundle {
	l = slices.Clone(l[:cap(l)])
	for n := range l {
		for class, list := range l[n].Ops {
			l[n].Ops[class] = slices.Clone(list[:cap(list)])
		}
	}
	return l
}

func TestNothingThatIsHandedInIsChanged(t *testing.T) {
	r := rand.New(rand.NewSource(39))
	for range 2000 {
		m := chanceTable(r, 3)
		l := chanceBundles(r, m, 4)
		if r.Intn(3) == 0 {
			spoil(r, l)
		}
		l = roomy(l)
		before := withRoom(l)
		for _, b := range l {
			Check(b, m)
		}
		w, _ := Encode(l, m)
		if !sameAll(withRoom(l), before) {
			t.Fatalf("%v became %v", before, withRoom(l))
		}
		if r.Intn(3) == 0 {
			w = spoilWords(r, w)
		}
		w = append(slices.Clone(w), 77, 1<<63)
		words := slices.Clone(w)
		Decode(w[:len(w)-2], m)
		if !slices.Equal(w, words) {
			t.Fatalf("%v became %v", words, w)
		}
	}
}

// scribble writes all over bundles, with the room behind the end of each list and of all of them.
func scribble(l []api.Bundle) {
	for _, b := range l {
		for _, list := range b.Ops {
			list = list[:cap(list)]
			for n := range list {
				list[n] = api.Op{Do: -7, D: 77, Imm: -77}
			}
		}
	}
	l = l[:cap(l)]
	for n := range l {
		l[n] = of(api.Mem, api.Op{Do: -8})
	}
}

// What a caller writes into an answer is seen in no other one, nor in what was handed in; and the other way round.
func TestAnswersAreTheCallersOwn(t *testing.T) {
	r := rand.New(rand.NewSource(93))
	for range 1000 {
		m := chanceTable(r, 3)
		m.Units[api.Alu]++
		l := chanceBundles(r, m, 4)
		want := copied(l)
		w, _ := Encode(l, m)
		words := slices.Clone(w)
		again, _ := Encode(l, m)
		read, _ := Decode(w, m)
		second, _ := Decode(w, m)
		scribble(l)
		if !slices.Equal(w, words) {
			t.Fatalf("%v: what is written into the bundles is seen in their words: %v, want %v", m, w, words)
		}
		scribble(read)
		if !slices.Equal(w, words) || !slices.Equal(again, words) || !sameAll(second, want) {
			t.Fatalf("%v: what is written into an answer is seen in %v, %v, %v", m, w, again, second)
		}
		w = w[:cap(w)]
		for n := range w {
			w[n] = math.MaxUint64
		}
		third, e := Decode(words, m)
		if !slices.Equal(again, words) || !sameAll(second, want) || e != api.OK || !sameAll(third, want) {
			t.Fatalf("%v: what is written into words is seen in %v, %v, %v", m, again, second, third)
		}
	}
}

// Who writes into a list of an answer, or appends to it, changes no other one, of its bundle or of another.
func TestListsShareNoMemory(t *testing.T) {
	r := rand.New(rand.NewSource(94))
	for range 300 {
		m := chanceTable(r, 3)
		w, _ := encodeTold(chanceBundles(r, m, 4), m)
		l, _ := Decode(w, m)
		for at := range l {
			for class := range api.Classes {
				before := copied(l)
				changed := append(l[at].Ops[class], api.Op{Do: -5}, api.Op{Do: -5})
				for n := range changed[:cap(changed)] {
					changed[:cap(changed)][n] = api.Op{Do: -6}
				}
				before[at].Ops[class], l[at].Ops[class] = nil, nil
				if !sameAll(l, before) {
					t.Fatalf("Decode(%v, %v): what is written into class %d of bundle %d is seen in %v, want %v", w, m, class, at, l, before)
				}
			}
		}
	}
}

// Nothing is kept: what the caller changes is seen by the next call.
func TestLaterChangesAreSeen(t *testing.T) {
	m := example()
	l := []api.Bundle{of(api.Mem, sample(api.Mem, 0), sample(api.Mem, 1))}
	wantEncode(t, l, m, 0, 0, told(sample(api.Mem, 0)), told(sample(api.Mem, 1)), 0)
	l[0].Ops[api.Mem][1] = sample(api.Mem, 5)
	wantEncode(t, l, m, 0, 0, told(sample(api.Mem, 0)), told(sample(api.Mem, 5)), 0)
	l[0].Ops[api.Mem][0].Do = api.Add
	wantUnformed(t, l[0], m)
	m.Units[api.Mem] = 1
	l[0].Ops[api.Mem] = l[0].Ops[api.Mem][1:]
	wantEncode(t, l, m, 0, 0, told(sample(api.Mem, 5)), 0)
	w := []uint64{0, 0, told(sample(api.Mem, 5)), 0}
	wantDecode(t, w, m, l...)
	w[3] = told(sample(api.Ctl, 0))
	wantDecode(t, w, m, api.Bundle{Ops: [api.Classes][]api.Op{nil, nil, {sample(api.Mem, 5)}, {sample(api.Ctl, 0)}}})
	w[3] |= 1 << 60
	wantDecodeRefused(t, w, m, api.ErrBadBundle)
}

// Who asks at the same time, of the same bundles and words, gets the same answers.
func TestAskedAtTheSameTime(t *testing.T) {
	m := machine(8, 8, 8, 8)
	l, w := many(m, 100)
	done := make(chan bool)
	for range 8 {
		go func() {
			well := true
			for range 20 {
				words, e := Encode(l, m)
				bundles, f := Decode(w, m)
				well = well && e == api.OK && f == api.OK && slices.Equal(words, w) && sameAll(bundles, l) && Check(l[99], m) == api.OK
			}
			done <- well
		}()
	}
	for range 8 {
		if !<-done {
			t.Error("another answer")
		}
	}
}

// tableOf makes a table of bytes, mostly one.
func tableOf(units []byte, delay int) api.Table {
	m := machine(0, 0, 0, 0)
	for n, count := range units[:min(len(units), api.Classes)] {
		m.Units[n] = int(int8(count)) % 10
	}
	m.Delay = delay
	return m
}

// wordsOf makes words of bytes, eight each.
func wordsOf(text []byte) []uint64 {
	var w []uint64
	for ; len(text) >= 8; text = text[8:] {
		word := uint64(0)
		for n := range 8 {
			word |= uint64(text[n]) << (8 * n)
		}
		w = append(w, word)
	}
	return w
}

func FuzzDecode(f *testing.F) {
	f.Add([]byte{1, 1, 2, 1}, 0, []byte{0x42, 0x10, 3, 0, 0, 0, 0, 0})
	f.Add([]byte{1}, 4, []byte{0x42, 0x10, 3, 0, 0, 0, 0, 0})
	f.Add([]byte{0, 0, 0, 2}, 1, []byte{0x17, 0, 0xe0, 0xff, 0xff, 0xff, 0x1f, 0, 0, 0, 0, 0, 0, 0, 0, 0})
	f.Add([]byte{}, 5, []byte{})
	f.Fuzz(func(t *testing.T, units []byte, delay int, text []byte) {
		m := tableOf(units, delay)
		w := wordsOf(text)
		wantReadTold(t, w, m)
		// Of words that are whole bundles more are some.
		if width := m.Units[0] + m.Units[1] + m.Units[2] + m.Units[3]; width > 0 {
			wantReadTold(t, w[:len(w)-len(w)%width], m)
		}
	})
}

func FuzzEncode(f *testing.F) {
	f.Add([]byte{1, 1, 2, 1}, []byte{2, 1, 2, 3, 0, 0}, int64(0))
	f.Add([]byte{0, 0, 1, 0}, []byte{15, 4, 5, 0, 2, 1}, int64(-1))
	f.Add([]byte{0, 0, 0, 8}, []byte{22, 0, 4, 31, 3, 1, 23, 0, 0, 0, 3, 1}, int64(math.MinInt32))
	f.Add([]byte{3}, []byte{1, 0, 0, 0, 0, 1}, int64(1)<<31)
	f.Fuzz(func(t *testing.T, units, text []byte, imm int64) {
		l := make([]api.Bundle, 1)
		// Six bytes an operation: its kind and registers, its class, and whether imm stands in it, or behind it a bundle begins.
		for ; len(text) >= 6; text = text[6:] {
			o := api.Op{Do: int8(text[0]), D: text[1], A: text[2], B: text[3]}
			if text[5]&1 != 0 {
				o.Imm = imm
			}
			class := text[4] % api.Classes
			last := &l[len(l)-1]
			last.Ops[class] = append(last.Ops[class], o)
			if text[5]&2 != 0 {
				l = append(l, api.Bundle{})
			}
		}
		wantTold(t, l, tableOf(units, 0))
	})
}
