package modulo

import (
	"math"
	"slices"

	"hayloft/api"
)

// How long is searched for one Every. A dive that has taken so many steps for each operation,
// and some besides, has mostly gone astray at its beginning, and a new one is of more use.
const (
	mostDives   = 4
	stepsOfEach = 4
	moreSteps   = 50
)

// noWay stands where nothing keeps an operation behind another one. It is never added to.
const noWay = math.MinInt

// Numbers that stand where no operation is left, and where one has no cycle yet.
const (
	nobody    = -1
	notPlaced = -1
)

// search looks for cycles that keep the rounds of one Every. It counts units by itself, for
// those of reserve are not given back.
type search struct {
	*body
	every  int
	behind [][]int         // how many cycles at least the second one is issued behind the first
	placed []int           // the cycle of each operation, or notPlaced
	held   map[place][]int // the operations of a round that keep a unit busy there
	fails  []int           // how often each operation found no unit
	steps  int             // how many this dive may still take
}

// place is a class in a cycle of the ring.
type place struct{ class, cycle int }

// window is the cycles into which the edges to those that are placed let an operation.
type window struct{ early, late int }

// windows are those of all operations. They are handed on as a value, so that who goes
// back still has those that he had.
type windows [api.MaxBody]window

func newSearch(b *body, every int) *search {
	return &search{body: b, every: every, behind: longestWays(len(b.l), b.edges, every), fails: make([]int, len(b.l))}
}

// longestWays answers for each two operations how long the longest way along the edges
// is from the first to the second, less what the rounds that it goes on give back.
func longestWays(count int, edges []api.Edge, every int) [][]int {
	ways := make([][]int, count)
	for n := range ways {
		ways[n] = slices.Repeat([]int{noWay}, count)
		ways[n][n] = 0
	}
	for _, d := range edges {
		ways[d.From][d.To] = max(ways[d.From][d.To], d.Lat-every*d.Dist)
	}
	for over, on := range ways {
		for _, row := range ways {
			if row[over] == noWay {
				continue
			}
			for to, length := range on {
				if length != noWay {
					row[to] = max(row[to], row[over]+length)
				}
			}
		}
	}
	return ways
}

// run answers cycles that keep the rounds, and whether it found some.
func (s *search) run() ([]int, bool) {
	open := s.openWindows()
	for range mostDives {
		s.placed = slices.Repeat([]int{notPlaced}, len(s.l))
		s.held = map[place][]int{}
		s.steps = stepsOfEach*len(s.l) + moreSteps
		if s.placeAll(open) {
			return s.placed, true
		}
		if s.steps > 0 {
			break // all that it would go over it has gone over
		}
	}
	return nil, false
}

// openWindows answers the windows as long as nothing is placed, so that no plan becomes
// longer than P16.2 lets it. Where the edges alone ask for more, one of them is empty.
func (s *search) openWindows() windows {
	var open windows
	last := min(mostStages, 2*s.drained/s.every)*s.every - 1
	for n := range s.l {
		open[n].late = last
	}
	for from, row := range s.behind {
		for to, length := range row {
			if length != noWay {
				open[to].early = max(open[to].early, length)
				open[from].late = min(open[from].late, last-length)
			}
		}
	}
	return open
}

// placeAll places what is left, and answers whether it could; if not, it has placed nothing.
func (s *search) placeAll(w windows) bool {
	n := s.next(&w)
	if n == nobody {
		return true
	}
	s.steps--
	free := s.freeCycles(classOf(s.l[n]), w[n])
	if len(free) == 0 {
		s.fails[n]++
	}
	for _, cycle := range free {
		s.take(n, cycle)
		if s.placeAll(s.narrowed(w, n)) {
			return true
		}
		s.giveBack(n)
		if s.steps <= 0 {
			return false
		}
	}
	return false
}

// next answers who is placed next: the one of the narrowest window, and a window counts
// for the narrower the oftener its operation found no unit.
func (s *search) next(w *windows) int {
	best := nobody
	for n, cycle := range s.placed {
		if cycle == notPlaced && (best == nobody || s.isAhead(w, n, best)) {
			best = n
		}
	}
	return best
}

// isAhead answers whether n is to be placed ahead of m; of two that are alike the earlier one is.
func (s *search) isAhead(w *windows, n, m int) bool {
	own := (w[n].late - w[n].early + 1) * (1 + s.fails[m])
	other := (w[m].late - w[m].early + 1) * (1 + s.fails[n])
	return own < other || own == other && w[n].early < w[m].early
}

// narrowed answers the windows behind the placing of n.
func (s *search) narrowed(w windows, n int) windows {
	cycle := s.placed[n]
	for m := range s.placed {
		if length := s.behind[n][m]; length != noWay {
			w[m].early = max(w[m].early, cycle+length)
		}
		if length := s.behind[m][n]; length != noWay {
			w[m].late = min(w[m].late, cycle-length)
		}
	}
	return w
}

// freeCycles answers the cycles of a window in which a unit is free, those first in which
// the operation joins most others. Every cycles on the units are the same ones again.
func (s *search) freeCycles(class int, w window) []int {
	width, long := max(0, min(w.late-w.early+1, s.every)), s.t.Busy[class]
	used := s.used(class, w.early-1, width+long+1)
	var byJoins [3][]int
cycles:
	for k := range width {
		about := used[k:] // from the cycle ahead of this one on
		for more := range min(s.every, long) {
			// It counts once more for each time that the ring comes round while it is busy.
			times := (long-1-more)/s.every + 1
			if about[1+more]+times > s.t.Units[class] {
				continue cycles
			}
		}
		joins := joined(about, long)
		byJoins[joins] = append(byJoins[joins], w.early+k)
	}
	return slices.Concat(byJoins[2], byJoins[1], byJoins[0])
}

// joined answers on how many sides an operation joins others: it begins where one has
// ended, or ends where one begins. So no gaps are left that are too short for anybody;
// who is busy for one cycle alone finds none too short.
func joined(about []int, long int) int {
	joins := 0
	if long > 1 && about[0] > about[1] {
		joins++
	}
	if long > 1 && about[long] < about[long+1] {
		joins++
	}
	return joins
}

// used answers how many units of a class are busy in so many cycles from one on, which may be -1.
func (s *search) used(class, from, count int) []int {
	counts := make([]int, count)
	for k := range counts {
		counts[k] = len(s.held[s.placeOf(class, from+s.every+k)])
	}
	return counts
}

func (s *search) placeOf(class, cycle int) place { return place{class, cycle % s.every} }

func (s *search) take(n, cycle int) {
	s.placed[n] = cycle
	class := classOf(s.l[n])
	for k := range s.t.Busy[class] {
		at := s.placeOf(class, cycle+k)
		s.held[at] = append(s.held[at], n)
	}
}

// giveBack undoes the last take, which was of n: wherever it is held, it stands last.
func (s *search) giveBack(n int) {
	class := classOf(s.l[n])
	for k := range s.t.Busy[class] {
		at := s.placeOf(class, s.placed[n]+k)
		s.held[at] = s.held[at][:len(s.held[at])-1]
	}
	s.placed[n] = notPlaced
}
