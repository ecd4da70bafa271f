package parse

import (
	"strconv"
	"strings"

	"hayloft/api"
)

// immBits is how many bits a number of a text has, in two's complement.
const immBits = 32

// line is the words of a line that are not taken yet, and the place where one
// more would be missed.
type line struct {
	words []word
	end   int
}

// word is a word of a text, and the place of its first byte.
type word struct {
	at   int
	text string
}

// linesOf answers a closure that hands out the next line that says something.
// At the text's end it hands out an empty line, as often as it is asked: who
// wants a word of it misses one there, just as at any other line's end.
func linesOf(text string) func() *line {
	at := 0
	return func() *line {
		for at < len(text) {
			whole, _, _ := strings.Cut(text[at:], "\n")
			words, end := wordsOf(whole, at), at+len(whole)
			at = end + 1
			if len(words) > 0 {
				return &line{words, end}
			}
		}
		return &line{end: len(text)}
	}
}

// wordsOf answers the words of a line that begins at a place, up to its remark.
// Each begin stands at the line's begin or right behind a blank, so that a #
// within a word begins no remark.
func wordsOf(whole string, at int) []word {
	var out []word
	for begin := 0; begin < len(whole) && whole[begin] != '#'; {
		end := begin
		for end < len(whole) && !isBlank(whole[end]) {
			end++
		}
		if end > begin {
			out = append(out, word{at + begin, whole[begin:end]})
		}
		begin = end + 1
	}
	return out
}

func isBlank(b byte) bool { return b == ' ' || b == '\t' }

// refuse leaves by panic, with the fault of a word that can't stand where it
// stands. The word is copied, for a piece of the text would keep all of it.
func refuse(w word) {
	panic(&api.Fault{Code: api.ErrSyntax, At: w.at, Word: strings.Clone(w.text)})
}

func (l *line) isEmpty() bool { return len(l.words) == 0 }

// first answers the next word's text and does not take it; none is empty.
func (l *line) first() string {
	if l.isEmpty() {
		return ""
	}
	return l.words[0].text
}

// take takes the next word, which must be there.
func (l *line) take() word {
	if l.isEmpty() {
		panic(&api.Fault{Code: api.ErrSyntax, At: l.end})
	}
	w := l.words[0]
	l.words = l.words[1:]
	return w
}

// close wants no word more.
func (l *line) close() {
	if !l.isEmpty() {
		refuse(l.take())
	}
}

// exactly takes one word and no other.
func (l *line) exactly(text string) {
	if w := l.take(); w.text != text {
		refuse(w)
	}
}

// blockLine reads all of the line with which the block of a number begins.
func (l *line) blockLine(number int) {
	l.exactly("block")
	l.exactly(strconv.Itoa(number) + ":")
	l.close()
}

// register takes a register. What is read is held against how it is written,
// for strconv lets in needless 0s.
func (l *line) register() uint8 {
	w := l.take()
	digits, _ := strings.CutPrefix(w.text, "r")
	n, err := strconv.ParseUint(digits, 10, 8)
	if err != nil || n >= api.Registers || "r"+strconv.FormatUint(n, 10) != w.text {
		refuse(w)
	}
	return uint8(n)
}

// number takes a number. What is read is held against how it is written, for
// strconv lets in a + and needless 0s.
func (l *line) number() int64 {
	w := l.take()
	n, err := strconv.ParseInt(w.text, 10, immBits)
	if err != nil || strconv.FormatInt(n, 10) != w.text {
		refuse(w)
	}
	return n
}

// target takes a number that stands for a block. Whether there is such a block
// is not asked here: only all blocks tell.
func (l *line) target() int { return int(l.number()) }
