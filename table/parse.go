package table

import (
	"slices"
	"strconv"
	"strings"

	"hayloft/api"
)

// line is a line's words, and the place where one more would be missed.
type line struct {
	words []word
	end   int
}

// word is a word of a text, and the place of its first byte.
type word struct {
	at   int
	text string
}

// want says of a word whether it can stand in the place that the want is for,
// and keeps what the word tells.
type want func(text string) api.Errno

// Parse reads a table from its lines (P2.3).
func Parse(text string) (api.Table, error) {
	if len(text) > api.MaxText {
		return api.Table{}, &api.Fault{Code: api.ErrLong}
	}
	var t api.Table
	if fault := readLines(&t, text); fault != nil {
		return api.Table{}, fault
	}
	return t, nil
}

// readLines fills the table, and answers the fault that comes first from the left.
func readLines(t *api.Table, text string) *api.Fault {
	var had [lines]bool
nextLine:
	for _, l := range linesOf(text) {
		wants := wantsOf(l, t, &had)
		for i := 0; ; i++ {
			switch {
			case i == len(l.words) && i == len(wants):
				continue nextLine
			case i == len(l.words):
				return &api.Fault{Code: api.ErrSyntax, At: l.end}
			case i == len(wants):
				return faultAt(l.words[i], api.ErrSyntax)
			}
			if e := wants[i](l.words[i].text); e != api.OK {
				return faultAt(l.words[i], e)
			}
		}
	}
	if slices.Contains(had[:], false) {
		return &api.Fault{Code: api.ErrSyntax, At: len(text)}
	}
	return nil
}

// faultAt copies the word, for a piece of the text would keep all of it.
func faultAt(w word, e api.Errno) *api.Fault {
	return &api.Fault{Code: e, At: w.at, Word: strings.Clone(w.text)}
}

func linesOf(text string) []line {
	var out []line
	at := 0
	for _, whole := range strings.Split(text, "\n") {
		said, _, _ := strings.Cut(whole, "#")
		out = append(out, line{wordsOf(said, at), at + len(said)})
		at += len(whole) + 1
	}
	return out
}

// wordsOf answers the words of a piece of text that begins at a place.
func wordsOf(text string, at int) []word {
	var out []word
	for begin := 0; begin < len(text); {
		end := begin
		for end < len(text) && !isBlank(text[end]) {
			end++
		}
		if end > begin {
			out = append(out, word{at + begin, text[begin:end]})
		}
		begin = end + 1
	}
	return out
}

func isBlank(b byte) bool { return b == ' ' || b == '\t' }

// wantsOf answers what a line must say that begins with the first word of l, a
// want for each of its words; a line without words need not say anything.
func wantsOf(l line, t *api.Table, had *[lines]bool) []want {
	if len(l.words) == 0 {
		return nil
	}
	switch kind := kindOf(l.words[0].text); kind {
	case lines:
		return []want{nothing()}
	case delay:
		return []want{once(&had[kind]), number(&t.Delay, delayBounds)}
	default:
		return []want{
			once(&had[kind]), number(&t.Units[kind], unitsBounds),
			exactly("lat"), number(&t.Lat[kind], latBounds),
			exactly("busy"), number(&t.Busy[kind], busyBounds),
		}
	}
}

// kindOf answers which of the five lines begins with a word, or lines if none does.
func kindOf(first string) int {
	for kind, name := range names {
		if name == first {
			return kind
		}
	}
	return lines
}

// nothing is wanted where no word can stand.
func nothing() want {
	return func(string) api.Errno { return api.ErrSyntax }
}

// once wants the first word of a line that was not there yet.
func once(had *bool) want {
	return func(string) api.Errno {
		if *had {
			return api.ErrSyntax
		}
		*had = true
		return api.OK
	}
}

// exactly wants one word and no other.
func exactly(wanted string) want {
	return func(text string) api.Errno {
		if text != wanted {
			return api.ErrSyntax
		}
		return api.OK
	}
}

// number wants a number within its bounds, and puts it where to points.
func number(to *int, within bounds) want {
	return func(text string) api.Errno {
		if !isNumber(text) {
			return api.ErrSyntax
		}
		n, tooGreat := strconv.Atoi(text)
		if tooGreat != nil || !within.hold(n) {
			return api.ErrTable
		}
		*to = n
		return api.OK
	}
}

// isNumber is asked ahead of strconv, which lets in signs and needless zeros.
func isNumber(text string) bool {
	for i := range len(text) {
		if text[i] < '0' || text[i] > '9' {
			return false
		}
	}
	return text == "0" || !strings.HasPrefix(text, "0")
}
