package layout

import (
	"cmp"
	"slices"

	"hayloft/api"
	"hayloft/bundle"
)

// byPacker is the number of an operation that stands for none of the program's own.
const byPacker = -1

// growth is a list of bundles that grows, with what their operations stand for.
type growth struct {
	block   int
	table   api.Table
	gap     int // how many bundles an operation of Ctl stands at least behind the one ahead: the chapter's G
	bundles []api.Bundle
	tags    [][api.Classes][]api.Tag // by bundles and classes, as the operations stand
}

func newGrowth(block int, t api.Table) *growth {
	return &growth{block: block, table: t, gap: max(1+t.Delay, t.Busy[api.Ctl])}
}

// fill adds empty bundles until there are n.
func (g *growth) fill(n int) {
	for len(g.bundles) < n {
		g.bundles = append(g.bundles, api.Bundle{})
		g.tags = append(g.tags, [api.Classes][]api.Tag{})
	}
}

// put adds an operation to a bundle that is there.
func (g *growth) put(at int, o api.Op, tag api.Tag) {
	class := g.classOf(o)
	g.bundles[at].Ops[class] = append(g.bundles[at].Ops[class], o)
	g.tags[at][class] = append(g.tags[at][class], tag)
}

// putOwn adds an operation that stands for none of the program's own.
func (g *growth) putOwn(at int, o api.Op) {
	g.put(at, o, api.Tag{Block: g.block, Op: byPacker})
}

// issue adds a bundle with such an operation, and as many empty ones as it takes until the next
// operation of Ctl may come.
func (g *growth) issue(o api.Op) {
	at := len(g.bundles)
	g.fill(at + g.gap)
	g.putOwn(at, o)
}

// leave adds a jump to a block, and the bundles that are run behind it.
func (g *growth) leave(then int) {
	at := len(g.bundles)
	g.fill(at + 1 + g.table.Delay)
	g.putOwn(at, jump(then))
}

// laying answers a function that lays rows of a list's operations behind what is there, a bundle
// for each row, and answers the number of the first one.
func (g *growth) laying(l []api.Op, loop bool) func(rows [][]api.Slot) int {
	return func(rows [][]api.Slot) int {
		from := len(g.bundles)
		g.fill(from + len(rows))
		for cycle, row := range rows {
			// Rounds that overlap stand in a row by their rounds.
			for _, s := range slices.SortedFunc(slices.Values(row), byNumber) {
				g.put(from+cycle, l[s.Op], api.Tag{Block: g.block, Loop: loop, Op: s.Op})
			}
		}
		return from
	}
}

func byNumber(a, b api.Slot) int {
	return cmp.Compare(a.Op, b.Op)
}

// classOf answers the class of an operation: in its list of a bundle, and in no other one, it is
// well formed. (The map of the layers does not let this one ask ops.)
func (g *growth) classOf(o api.Op) int {
	for class := range api.Ctl {
		var alone api.Bundle
		alone.Ops[class] = []api.Op{o}
		if bundle.Check(alone, g.table) == api.OK {
			return class
		}
	}
	return api.Ctl
}

// told answers the bundles, and for each the tags of its operations, class by class.
func (g *growth) told() ([]api.Bundle, [][]api.Tag) {
	tags := make([][]api.Tag, len(g.tags))
	for n, classes := range g.tags {
		tags[n] = slices.Concat(classes[:]...)
	}
	return g.bundles, tags
}
