package bounds

import (
	"math"

	"hayloft/api"
)

// mostRounds is enough for every body: a way that comes back need not go over an
// operation twice, each step of it takes a latency at most, and it goes on by a round.
const mostRounds = api.MaxBody * api.MaxLatency

// byRounds answers the least number of cycles that lets every way back be in time.
func byRounds(count int, edges []api.Edge) int {
	return leastOf(1, mostRounds, func(every int) bool { return inTime(count, edges, every) })
}

// leastOf answers the least number from low to high for which it holds. It must hold for
// high, and behind one for which it holds for all.
func leastOf[N ~int | ~int64](low, high N, holds func(N) bool) N {
	for low < high {
		middle := low + (high-low)/2
		if holds(middle) {
			high = middle
		} else {
			low = middle + 1
		}
	}
	return high
}

// noWay stands where there is no way from an operation to another one. It is never added to.
const noWay = math.MinInt

// ways holds for each two operations of a body how long the longest way is from the one to
// the other, less what the rounds that it goes on give back.
type ways [api.MaxBody][api.MaxBody]int

// inTime answers whether no way that comes back takes longer than its rounds, each of which
// begins that many cycles behind the one ahead.
func inTime(count int, edges []api.Edge, every int) bool {
	var w ways
	w.steps(count, edges, every)
	for over := range count {
		// Of the operations of a way that comes back one is the last in the body: the way is
		// found there ahead of any that goes over it, and none is ever made longer by it.
		if w[over][over] > 0 {
			return false
		}
		w.goOver(count, over)
	}
	return true
}

// row cuts from an operation's row the part that the body fills.
func (w *ways) row(from, count int) []int { return w[from][:count:count] }

// steps puts down the ways of one dependence.
func (w *ways) steps(count int, edges []api.Edge, every int) {
	for from := range count {
		row := w.row(from, count)
		for to := range row {
			row[to] = noWay
		}
	}
	for _, d := range edges {
		row := w.row(d.From, count)
		row[d.To] = max(row[d.To], d.Lat-every*d.Dist)
	}
}

// goOver lets every way go over one operation more.
func (w *ways) goOver(count, over int) {
	behind := w.row(over, count)
	for from := range count {
		row := w.row(from, count)
		if row[over] == noWay {
			continue
		}
		ahead := row[over]
		for to, length := range behind {
			if length != noWay {
				row[to] = max(row[to], ahead+length)
			}
		}
	}
}
