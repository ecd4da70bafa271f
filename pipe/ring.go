package pipe

import "hayloft/api"

// Where something goes that is in flight.
const (
	register = uint8(iota)
	cell
	place
)

// flight is a result, a store or a turn that was issued and has not landed.
type flight struct {
	where  uint8
	number uint8 // of the register or of the cell
	value  int64 // a turn's is the place
}

// farthest is how many cycles ahead anything lands at most.
const farthest = max(api.MaxLatency, 1+api.MaxDelay)

// ring is what is in flight: for each cycle, modulo farthest, what lands in it, in the order
// in which it was issued. What is put farthest ahead comes to the row of the present cycle,
// which has been taken by then.
type ring [farthest][]flight

// put adds something that lands in a cycle.
func (r *ring) put(cycle int, f flight) {
	row := &r[cycle%farthest]
	*row = append(*row, f)
}

// take answers what lands in a cycle, and holds it no more. It is to be read ahead of the
// next put, as that may write into the same room.
func (r *ring) take(cycle int) []flight {
	row := &r[cycle%farthest]
	landing := *row
	*row = landing[:0]
	return landing
}

// registers answers those to which something goes, rising, each once.
func (r *ring) registers() []uint8 {
	var goes [api.Registers]bool
	for _, row := range r {
		for _, f := range row {
			if f.where == register {
				goes[f.number] = true
			}
		}
	}
	var list []uint8
	for number, is := range goes {
		if is {
			list = append(list, uint8(number))
		}
	}
	return list
}
