package table

import (
	"errors"
	"math/rand"
	"slices"
	"strings"
	"testing"

	"hayloft/api"
)

// wantFault holds what Parse answers against a fault, and its table against none.
func wantFault(t *testing.T, text string, code api.Errno, at int, word string) {
	t.Helper()
	x, err := Parse(text)
	fault, ok := err.(*api.Fault)
	if !ok {
		t.Errorf("%.80q: error %v, want a fault", text, err)
		return
	}
	if want := (api.Fault{Code: code, At: at, Word: word}); *fault != want {
		t.Errorf("%.80q: fault %+v, want %+v", text, *fault, want)
	}
	if !errors.Is(err, code) {
		t.Errorf("%.80q: errors.Is does not find %d", text, code)
	}
	if x != (api.Table{}) {
		t.Errorf("%.80q: table %v beside an error", text, x)
	}
}

func wantTable(t *testing.T, text string, want api.Table) {
	t.Helper()
	if x, err := Parse(text); err != nil || x != want {
		t.Errorf("%.300q: %v, %v, want %v", text, x, err, want)
	}
}

func TestChapterExamples(t *testing.T) {
	wantTable(t, leanText, lean)
	wantFault(t, "alu 9", api.ErrTable, 4, "9")
	wantFault(t, "alu 2 lat", api.ErrSyntax, 9, "")
	wantFault(t, "alu 2 lat 1 busy 1\nalu", api.ErrSyntax, 19, "alu")
	wantFault(t, "fpu 1", api.ErrSyntax, 0, "fpu")
	wantFault(t, "", api.ErrSyntax, 0, "")
}

func TestEveryNumberAtItsBounds(t *testing.T) {
	for _, p := range places() {
		for n := p.low; n <= p.high; n++ {
			x := lean
			*p.in(&x) = n
			s, e := Text(x)
			if e != api.OK {
				t.Fatalf("%s %d: Text answers %d", p.name, n, e)
			}
			wantTable(t, s, x)
		}
	}
}

func TestEveryNumberPastItsBounds(t *testing.T) {
	for _, c := range []struct {
		text string
		at   int
		low  []string
		high []string
	}{
		{"delay ", 6, nil, []string{"5", "6", "10"}},
		{"alu ", 4, nil, []string{"9", "10", "80"}},
		{"mul 1 lat ", 10, []string{"0"}, []string{"9", "10"}},
		{"mem 1 lat 1 busy ", 17, []string{"0"}, []string{"5", "10", "40"}},
		{"ctl 8 lat 8 busy ", 17, []string{"0"}, []string{"5"}},
	} {
		great := []string{
			"255", "256", "257", "4294967296", "4294967297", "9223372036854775807", "9223372036854775808",
			"18446744073709551616", "18446744073709551617", "1" + strings.Repeat("0", 500),
		}
		for _, n := range slices.Concat(c.low, c.high, great) {
			wantFault(t, c.text+n, api.ErrTable, c.at, n)
			wantFault(t, c.text+n+" lat 1\n", api.ErrTable, c.at, n)
		}
	}
}

func TestNumbersThatAreNone(t *testing.T) {
	for _, n := range []string{
		"00", "01", "000", "08", "-1", "-0", "+1", "+", "-", "1.", "1.0", "1e0", "0x1", "1_0", "1,", "one",
		"x", "1x", "x1", "\x00", "1\x00", "1\r", "\u0661", "\uff11", "\xff", "lat", "delay", "18446744073709551616x",
	} {
		wantFault(t, "alu "+n, api.ErrSyntax, 4, n)
		wantFault(t, "mul 1 lat "+n+" busy 9", api.ErrSyntax, 10, n)
		wantFault(t, "mem 1 lat 1 busy "+n, api.ErrSyntax, 17, n)
		wantFault(t, "delay "+n+" 7", api.ErrSyntax, 6, n)
	}
}

func TestFirstWordsThatAreNone(t *testing.T) {
	for _, w := range []string{
		"al", "alu:", "Alu", "ALU", "alua", "lat", "busy", "1", "0", "fpu", "delays", "dela", "a", "\x00", "alu\x00",
		"alu\r", "\u00e4lu", "\xff\xfe", "alu\u00a0", "alu\v1", "\f",
	} {
		wantFault(t, w, api.ErrSyntax, 0, w)
		wantFault(t, "\n \t"+w+" 99 lat#", api.ErrSyntax, 3, w)
	}
}

func TestWordsThatMustStandThere(t *testing.T) {
	wantFault(t, "alu 2 busy", api.ErrSyntax, 6, "busy")
	wantFault(t, "alu 2 Lat 1", api.ErrSyntax, 6, "Lat")
	wantFault(t, "alu 2 lat1 busy 1", api.ErrSyntax, 6, "lat1")
	wantFault(t, "alu 2 1", api.ErrSyntax, 6, "1")
	wantFault(t, "ctl 2 lat 1 lat 1", api.ErrSyntax, 12, "lat")
	wantFault(t, "ctl 2 lat 1 1", api.ErrSyntax, 12, "1")
	wantFault(t, "alu2 lat 1 busy 1", api.ErrSyntax, 0, "alu2")
	wantFault(t, "delay delay", api.ErrSyntax, 6, "delay")
	wantFault(t, "mem mem", api.ErrSyntax, 4, "mem")
}

func TestAWordTooMany(t *testing.T) {
	wantFault(t, "delay 1 2", api.ErrSyntax, 8, "2")
	wantFault(t, "delay 1 lat 1 busy 1", api.ErrSyntax, 8, "lat")
	wantFault(t, "alu 2 lat 1 busy 1 \t delay 1", api.ErrSyntax, 21, "delay")
	wantFault(t, leanText+"\n\n"+"delay", api.ErrSyntax, len(leanText)+2, "delay")
	wantFault(t, leanText[:len(leanText)-1]+" 0\n", api.ErrSyntax, len(leanText), "0")
	wantFault(t, "alu 2 lat 1 busy 1 x#", api.ErrSyntax, 19, "x")
}

func TestAWordTooFew(t *testing.T) {
	words := []string{"mul", "1", "lat", "3", "busy", "2"}
	for n := 1; n < len(words); n++ {
		said := strings.Join(words[:n], " ")
		for _, l := range []string{said, "delay", "\t " + said, said + " ", said + "\t \t"} {
			end := len(l)
			wantFault(t, l, api.ErrSyntax, end, "")
			wantFault(t, l+"\n", api.ErrSyntax, end, "")
			wantFault(t, l+"\nfpu", api.ErrSyntax, end, "")
			wantFault(t, l+"# 3", api.ErrSyntax, end, "")
			wantFault(t, l+"#\n3", api.ErrSyntax, end, "")
			wantFault(t, l+" #lat#", api.ErrSyntax, end+1, "")
			wantFault(t, "\n# mul\n"+l+"\n"+leanText, api.ErrSyntax, end+7, "")
		}
	}
	wantFault(t, "alu 2 # lat", api.ErrSyntax, 6, "")
}

func TestALineThatIsThereTwice(t *testing.T) {
	for _, l := range strings.SplitAfter(leanText, "\n")[:5] {
		first, _, _ := strings.Cut(l, " ")
		wantFault(t, leanText+l, api.ErrSyntax, len(leanText), first)
		wantFault(t, leanText+"#\n "+first, api.ErrSyntax, len(leanText)+3, first)
		wantFault(t, l+first+" 9", api.ErrSyntax, len(l), first)
	}
}

func TestALineThatIsMissing(t *testing.T) {
	all := strings.SplitAfter(leanText, "\n")[:5]
	for without := range 1<<5 - 1 {
		var text strings.Builder
		for i, l := range all {
			if without>>i&1 == 1 {
				text.WriteString(l)
			}
		}
		for _, tail := range []string{"", "\n", " ", "# alu", "\n#\n\t"} {
			s := text.String() + tail
			wantFault(t, s, api.ErrSyntax, len(s), "")
		}
		if s := strings.TrimSuffix(text.String(), "\n"); s != "" {
			wantFault(t, s, api.ErrSyntax, len(s), "")
		}
	}
	for i := range all { // a remark is no line of the five
		s := strings.Join(all[:i], "") + "#" + strings.Join(all[i:], "")
		wantFault(t, s, api.ErrSyntax, len(s), "")
	}
}

func TestTheFirstFaultFromTheLeft(t *testing.T) {
	wantFault(t, "alu x lat 0", api.ErrSyntax, 4, "x")
	wantFault(t, "alu 9 x", api.ErrTable, 4, "9")
	wantFault(t, "alu 9\nfpu", api.ErrTable, 4, "9")
	wantFault(t, "fpu\nalu 9", api.ErrSyntax, 0, "fpu")
	wantFault(t, "alu 1 lat\nalu 9", api.ErrSyntax, 9, "")
	wantFault(t, "delay 1 1\ndelay 9", api.ErrSyntax, 8, "1")
	wantFault(t, "delay 1\ndelay 9", api.ErrSyntax, 8, "delay")
	wantFault(t, "delay 9\ndelay 1", api.ErrTable, 6, "9")
	wantFault(t, "alu 8 lat 0 busy 5", api.ErrTable, 10, "0")
	wantFault(t, "alu 8 lat 1 busy 5 x", api.ErrTable, 17, "5")
	wantFault(t, "mul 1 lat 1 busy 1\nmem\nalu 1 lat 9", api.ErrSyntax, 22, "")
}

func TestLongTexts(t *testing.T) {
	for _, fill := range []string{"\n", " ", "#", "\t"} {
		wantTable(t, leanText+strings.Repeat(fill, 65536-len(leanText)), lean)
		wantFault(t, leanText+strings.Repeat(fill, 65537-len(leanText)), api.ErrLong, 0, "")
	}
	wantTable(t, strings.Repeat("\n", 65536-len(leanText))+leanText, lean)
	wantFault(t, strings.Repeat("a", 65536), api.ErrSyntax, 0, strings.Repeat("a", 65536))
	wantFault(t, strings.Repeat("a", 65537), api.ErrLong, 0, "")
	wantFault(t, strings.Repeat(" ", 65535)+"x", api.ErrSyntax, 65535, "x")
	wantFault(t, strings.Repeat("\n", 65536), api.ErrSyntax, 65536, "")
	wantFault(t, "alu 9"+strings.Repeat("\n", 65532), api.ErrLong, 0, "")
	wantFault(t, strings.Repeat(leanText, 20000), api.ErrLong, 0, "")
}

// orders answers the numbers below n in every order.
func orders(n int) [][]int {
	if n == 0 {
		return [][]int{nil}
	}
	var out [][]int
	for _, o := range orders(n - 1) {
		for i := range n {
			out = append(out, slices.Insert(slices.Clone(o), i, n-1))
		}
	}
	return out
}

func TestEveryOrderAndEveryDress(t *testing.T) {
	all := strings.Split(strings.TrimSuffix(leanText, "\n"), "\n")
	dresses := []func(string) string{
		func(l string) string { return l },
		func(l string) string { return "  " + strings.ReplaceAll(l, " ", "\t \t") + " " },
		func(l string) string { return "\t" + l + "# " + l },
		func(l string) string { return l + " #\xff\x00 #" },
		func(l string) string { return "\n#" + l + "\n \t\n" + l + "\n# alu 9" },
	}
	count := 0
	for _, o := range orders(5) {
		for shift := range dresses {
			var dressed []string
			for i, n := range o {
				dressed = append(dressed, dresses[(i+shift)%len(dresses)](all[n]))
			}
			text := strings.Join(dressed, "\n")
			wantTable(t, text, lean)
			wantTable(t, text+"\n", lean)
			count++
		}
	}
	if count != 120*len(dresses) {
		t.Errorf("%d texts", count)
	}
}

func TestOnlyTwoBytesAreBlanks(t *testing.T) {
	for b := range 256 {
		text := strings.Replace(leanText, "alu 2", "alu"+string([]byte{byte(b)})+"2", 1)
		switch b {
		case ' ', '\t':
			wantTable(t, text, lean)
		case '\n', '#':
			wantFault(t, text, api.ErrSyntax, 3, "")
		default:
			wantFault(t, text, api.ErrSyntax, 0, text[:5])
		}
	}
}

func TestTextsMadeByChanceThereAndBack(t *testing.T) {
	chance := rand.New(rand.NewSource(2))
	for range 20000 {
		var x api.Table
		for _, p := range places() {
			*p.in(&x) = p.low + chance.Intn(p.high-p.low+1)
		}
		s, e := Text(x)
		if e != api.OK {
			t.Fatalf("Text of %v answers %d", x, e)
		}
		if back, err := Parse(s); err != nil || back != x {
			t.Fatalf("%q: %v, %v, want %v", s, back, err, x)
		}
	}
}

// token is a word or an end, as the slow reader below sees it.
type token struct {
	at   int
	word string
	kind byte // 'w' a word, 'l' a line's end, 't' the text's end
}

// tokens goes over the text byte by byte; nothing of the program is used.
func tokens(text string) []token {
	var out []token
	word, begin, remark := "", 0, -1
	flush := func() {
		if word != "" {
			out = append(out, token{begin, word, 'w'})
		}
		word = ""
	}
	endLine := func(at int) {
		flush()
		if remark >= 0 {
			at = remark
		}
		out = append(out, token{at, "", 'l'})
		remark = -1
	}
	for i := 0; i < len(text); i++ {
		switch c := text[i]; {
		case c == 0x0a:
			endLine(i)
		case remark >= 0:
		case c == '#':
			flush()
			remark = i
		case c == 0x20 || c == 0x09:
			flush()
		default:
			if word == "" {
				begin = i
			}
			word += text[i : i+1]
		}
	}
	endLine(len(text))
	return append(out, token{len(text), "", 't'})
}

// slowRead reads a table by a pattern for each line, spelt out.
func slowRead(text string) (api.Table, *api.Fault) {
	var x api.Table
	if len(text) > 65536 {
		return x, &api.Fault{Code: api.ErrLong}
	}
	seen := map[string]int{}
	class := map[string]int{"alu": 0, "mul": 1, "mem": 2, "ctl": 3}
	pattern, line := "", ""
	at := 0 // which letter of the pattern is next
	for _, k := range tokens(text) {
		syntax := &api.Fault{Code: api.ErrSyntax, At: k.at, Word: k.word}
		switch {
		case k.kind == 't':
			if len(seen) < 5 {
				return api.Table{}, syntax
			}
		case k.kind == 'l':
			if at < len(pattern) {
				return api.Table{}, syntax
			}
			pattern, line, at = "", "", 0
		case line == "":
			_, isClass := class[k.word]
			if !isClass && k.word != "delay" || seen[k.word] > 0 {
				return api.Table{}, syntax
			}
			seen[k.word]++
			line, pattern = k.word, "UlLbB"
			if !isClass {
				pattern = "D"
			}
		case at == len(pattern):
			return api.Table{}, syntax
		default:
			letter := pattern[at]
			at++
			fixed := map[byte]string{'l': "lat", 'b': "busy"}[letter]
			if fixed != "" {
				if k.word != fixed {
					return api.Table{}, syntax
				}
				continue
			}
			if strings.Trim(k.word, "0123456789") != "" || len(k.word) > 1 && k.word[0] == '0' {
				return api.Table{}, syntax
			}
			b := map[byte][2]int{'U': {0, 8}, 'L': {1, 8}, 'B': {1, 4}, 'D': {0, 4}}[letter]
			n := int(k.word[0] - '0')
			if len(k.word) > 1 || n < b[0] || n > b[1] {
				return api.Table{}, &api.Fault{Code: api.ErrTable, At: k.at, Word: k.word}
			}
			c := class[line]
			*map[byte]*int{'U': &x.Units[c], 'L': &x.Lat[c], 'B': &x.Busy[c], 'D': &x.Delay}[letter] = n
		}
	}
	return x, nil
}

// sameAsSlow holds Parse against the slow reader, and what it tells against its text.
func sameAsSlow(t *testing.T, text string) bool {
	t.Helper()
	x, err := Parse(text)
	want, fault := slowRead(text)
	if fault != nil {
		wantFault(t, text, fault.Code, fault.At, fault.Word)
		return false
	}
	if err != nil || x != want {
		t.Errorf("%q: %v, %v, want %v", text, x, err, want)
		return false
	}
	s, e := Text(x)
	if e != api.OK || Check(x) != api.OK {
		t.Errorf("%q: Text of what was read answers %d", text, e)
	}
	wantTable(t, s, x)
	return true
}

func TestTextsMadeByChanceAgainstTheSlowReader(t *testing.T) {
	chance := rand.New(rand.NewSource(22))
	pieces := []string{
		"alu", "mul", "mem", "ctl", "delay", "lat", "busy", "0", "1", "4", "5", "8", "9", "01", "-1", "10", "99999999999999999999",
		" ", "\t", "\n", "#", "\n\n", " ", "\t", " \n", " # x\n", "x", "\x00", "\xff", "\r",
		"alu 1 lat 1 busy 1", "mul 1 lat 1 busy 1\n", "mem 8 lat 8 busy 4\n", "ctl 0 lat 2 busy 3\n", "delay 4\n",
	}
	read := 0
	for range 60000 {
		text := leanText
		for range 1 + chance.Intn(3) {
			i := chance.Intn(len(text) + 1)
			j := min(len(text), i+chance.Intn(4)*chance.Intn(2))
			text = text[:i] + pieces[chance.Intn(len(pieces))] + text[j:]
		}
		if chance.Intn(4) == 0 {
			text = ""
			for range chance.Intn(30) {
				text += pieces[chance.Intn(len(pieces))]
				if chance.Intn(2) == 0 {
					text += " "
				}
			}
		}
		if sameAsSlow(t, text) {
			read++
		}
		if t.Failed() {
			return
		}
	}
	if read < 1000 {
		t.Errorf("only %d texts were tables", read)
	}
}

func FuzzParse(f *testing.F) {
	f.Add(leanText)
	f.Add("alu 2 # lat")
	f.Add("delay 1\ndelay 9")
	f.Fuzz(func(t *testing.T, text string) { sameAsSlow(t, text) })
}

func TestAnswersHangOnTheTextAlone(t *testing.T) {
	for range 3 {
		wantTable(t, leanText, lean)
		wantFault(t, leanText+"alu", api.ErrSyntax, len(leanText), "alu")
		wantFault(t, "delay 3", api.ErrSyntax, 7, "")
	}
	_, first := Parse("fpu")
	_, second := Parse("fpu")
	first.(*api.Fault).Word = "changed"
	if second.(*api.Fault).Word != "fpu" {
		t.Error("two answers share a fault")
	}
}
