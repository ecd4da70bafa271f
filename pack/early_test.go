package pack

import (
	"testing"

	"hayloft/api"
)

// earlyIn answers the tags of what is done early, in the order in which they stand.
func earlyIn(k api.Packed) []api.Tag {
	var early []api.Tag
	for _, row := range k.Tags {
		for _, tag := range row {
			if tag.Spec {
				early = append(early, tag)
			}
		}
	}
	return early
}

// wantNoneEarly says that every operation stands in its own block.
func wantNoneEarly(t *testing.T, p api.Program, m api.Table) {
	t.Helper()
	k := wantTold(t, p, m)
	if early := earlyIn(k); early != nil {
		t.Errorf("%v, %v: %v are done early", p, m, early)
	}
}

// The first operations of Then stand in the bundles of the block ahead, and no more in their own.
func TestDoneEarly(t *testing.T) {
	m := example()
	wantPacked(t, blocks(branches(1, 1, 2), with(halts(2), consts(2, 5)), halts(3)), m,
		[]string{"const r2 5 !1.0, branch r1 4", "", "jump 5", ""},
		[]string{"halt r2"}, []string{"halt r3"})
	wantPacked(t, blocks(branches(1, 2, 1), halts(3), with(halts(2), consts(2, 5), adds(2, 2, 2))), m,
		[]string{"const r2 5 !2.0, branch r1 5", "add r2 r2 r2 !2.1", "jump 4", ""},
		[]string{"halt r3"}, []string{"halt r2"})
	// What is left keeps its number.
	wantPacked(t, blocks(branches(1, 1, 2), with(halts(2), consts(2, 5), adds(4, 2, 2), prints(4), prints(2)), halts(3)), m,
		[]string{"const r2 5 !1.0, branch r1 4", "add r4 r2 r2 !1.1", "jump 8", ""},
		[]string{"print r4 #1.2", "print r2 #1.3", "", "halt r2"}, []string{"halt r3"})
	// They are the last ones of the block's own: they come behind what the branch waits for, and may stand behind it.
	wantPacked(t, blocks(with(branches(1, 1, 2), adds(1, 8, 8), prints(9)), with(halts(2), consts(2, 5), prints(2)), halts(3)), m,
		[]string{"add r1 r8 r8 #0.0, print r9 #0.1", "const r2 5 !1.0, branch r1 5", "", "jump 8", ""},
		[]string{"print r2 #1.1", "", "halt r2"}, []string{"halt r3"})
	// In a bundle they stand behind the block's own.
	wantPacked(t, blocks(with(branches(1, 1, 2), adds(6, 8, 8)), with(halts(2), consts(2, 5)), halts(3)), units(m, 2, 1, 1, 1),
		[]string{"add r6 r8 r8 #0.0, const r2 5 !1.0, branch r1 4", "", "jump 5", ""},
		[]string{"halt r2"}, []string{"halt r3"})
}

// A loop's own operations ahead of its rounds may be done early too; its body's never.
func TestDoneEarlyOfALoop(t *testing.T) {
	wantPacked(t, blocks(branches(1, 1, 2), with(loops(4, 2, adds(5, 5, 4)), consts(4, 5)), halts(3)), example(),
		[]string{"const r4 5 !1.0, branch r1 4", "", "jump 12", ""},
		[]string{"short r4 1 12", "", "count r4 0", "", "add r5 r5 r4 *1.0, again 8", "", "jump 12", ""},
		[]string{"halt r3"})
	wantPacked(t, blocks(branches(1, 1, 2), with(loops(4, 2, adds(5, 5, 4), adds(5, 5, 4)), consts(4, 5), prints(4)), halts(3)), example(),
		[]string{"const r4 5 !1.0, branch r1 4", "", "jump 14", ""},
		[]string{"print r4 #1.1", "", "short r4 1 14", "", "count r4 0", "", "add r5 r5 r4 *1.0, again 10", "add r5 r5 r4 *1.1", "jump 14", ""},
		[]string{"halt r3"})
}

// A block may lend its first operations, and do another one's.
func TestDoneEarlyOneBehindAnother(t *testing.T) {
	m := example()
	p := blocks(branches(1, 1, 2), with(branches(3, 3, 2), consts(2, 5), adds(4, 2, 2), prints(4)), halts(9), with(halts(6), consts(6, 7), prints(6), prints(4)))
	wantPacked(t, p, m,
		[]string{"const r2 5 !1.0, branch r1 4", "add r4 r2 r2 !1.1", "jump 8", ""},
		[]string{"const r6 7 !3.0, print r4 #1.2, branch r3 9", "", "jump 8", ""},
		[]string{"halt r9"},
		[]string{"print r6 #3.1", "print r4 #3.2", "", "halt r6"})
	// All that a block has is lent, and all that it does is another one's.
	p = blocks(branches(1, 1, 2), with(branches(3, 3, 2), consts(2, 5), consts(4, 6)), halts(9), with(halts(6), consts(6, 7), consts(7, 7)))
	wantPacked(t, p, m,
		[]string{"const r2 5 !1.0, branch r1 4", "const r4 6 !1.1", "jump 8", ""},
		[]string{"const r6 7 !3.0, branch r3 9", "const r7 7 !3.1", "jump 8", ""},
		[]string{"halt r9"},
		[]string{"halt r6"})
	// The same with numbers the other way round.
	p = blocks(branches(1, 3, 2), with(halts(6), consts(6, 7), consts(7, 7)), halts(9), with(branches(3, 1, 2), consts(2, 5), consts(4, 6)))
	wantPacked(t, p, m,
		[]string{"const r2 5 !3.0, branch r1 6", "const r4 6 !3.1", "jump 5", ""},
		[]string{"halt r6"},
		[]string{"halt r9"},
		[]string{"const r6 7 !1.0, branch r3 4", "const r7 7 !1.1", "jump 5", ""})
}

// A ring of blocks: what is done early is done once more each time round.
func TestDoneEarlyInARing(t *testing.T) {
	wantPacked(t, blocks(jumps(1), branches(1, 2, 3), with(jumps(1), consts(2, 5), adds(1, 1, 2)), halts(3)), delayed(example(), 0),
		[]string{"jump 1"},
		[]string{"const r2 5 !2.0, branch r1 3", "jump 4"},
		[]string{"add r1 r1 r2 #2.1, jump 1"},
		[]string{"halt r3"})
}

// What delay.Early does not name stays where it is.
func TestNotDoneEarly(t *testing.T) {
	m := delayed(example(), 4) // with room enough
	five := with(halts(9), consts(2, 5))
	for _, p := range []api.Program{
		blocks(branches(1, 1, 2), five, halts(2)),                                    // read behind Else
		blocks(branches(1, 1, 2), five, with(halts(3), prints(2))),                   // read in Else
		blocks(branches(1, 1, 2), with(halts(1), consts(1, 5)), halts(3)),            // by which it branches
		blocks(branches(1, 1, 1), five),                                              // both ways
		blocks(jumps(1), five),                                                       // no branch
		blocks(loops(1, 1), five),                                                    // no branch
		blocks(branches(1, 2, 1), halts(3), with(jumps(2), consts(2, 5))),            // Then is behind itself
		blocks(with(branches(1, 0, 1), consts(2, 5)), halts(3)),                      // Then is the first block, and the block itself
		blocks(with(jumps(1), consts(2, 5)), branches(1, 0, 2), halts(3)),            // Then is the first block
		blocks(jumps(1), with(branches(1, 1, 2), consts(2, 5)), halts(3)),            // Then is the block itself
		blocks(branches(1, 2, 1), branches(3, 2, 3), five, halts(3)),                 // Then is behind another one too
		blocks(branches(1, 1, 2), five, halts(3), jumps(1)),                          // behind one that is not reached
		blocks(branches(1, 2, 1), with(halts(9), consts(2, 5)), halts(3)),            // of Else
		blocks(branches(1, 1, 2), with(halts(9), prints(2), consts(2, 5)), halts(3)), // behind one that may not
	} {
		wantNoneEarly(t, p, m)
	}
	for _, o := range []api.Op{divides(2, 3, 4), {Do: api.Rest, D: 2, A: 3, B: 4}, loads(2, 3, 4), stores(2, 3, 4), prints(2)} {
		wantNoneEarly(t, blocks(branches(1, 1, 2), with(halts(2), o, consts(5, 6)), halts(3)), m)
	}
}

// Of those that delay.Early names those are done early that make neither their block nor the one ahead longer.
func TestDoneEarlyWhereThereIsRoom(t *testing.T) {
	m := example()
	long := multiplies(2, 3, 3)
	wantNoneEarly(t, blocks(branches(1, 1, 2), with(halts(2), long), halts(3)), m)
	wantPacked(t, blocks(branches(1, 1, 2), with(halts(2), long), halts(3)), delayed(m, 2),
		[]string{"times r2 r3 r3 !1.0, branch r1 6", "", "", "jump 7", "", ""},
		[]string{"halt r2"}, []string{"halt r3"})
	// The first alone, as the second would make it longer.
	wantPacked(t, blocks(branches(1, 1, 2), with(halts(2), consts(4, 5), multiplies(2, 4, 4)), halts(3)), m,
		[]string{"const r4 5 !1.0, branch r1 4", "", "jump 8", ""},
		[]string{"times r2 r4 r4 #1.1", "", "", "halt r2"}, []string{"halt r3"})
	// Where the block is as long without it, too.
	wantPacked(t, blocks(branches(1, 1, 2), with(halts(2), consts(4, 5), long), halts(3)), m,
		[]string{"const r4 5 !1.0, branch r1 4", "", "jump 8", ""},
		[]string{"times r2 r3 r3 #1.1", "", "", "halt r2"}, []string{"halt r3"})
	wantPacked(t, blocks(branches(1, 1, 2), with(halts(2), consts(4, 5), consts(2, 5)), halts(3)), units(m, 2, 1, 1, 1),
		[]string{"const r4 5 !1.0, const r2 5 !1.1, branch r1 4", "", "jump 5", ""},
		[]string{"halt r2"}, []string{"halt r3"})
	// Not where the units are taken up to the end.
	wantNoneEarly(t, blocks(with(branches(1, 1, 2), consts(5, 1), consts(6, 1)), with(halts(2), consts(2, 5)), halts(3)), m)
	wantPacked(t, blocks(with(branches(1, 1, 2), consts(5, 1)), with(halts(2), consts(2, 5), consts(4, 5)), halts(3)), m,
		[]string{"const r5 1 #0.0, branch r1 4", "const r2 5 !1.0", "jump 6", ""},
		[]string{"const r4 5 #1.1", "halt r2"}, []string{"halt r3"})
	// Not where the block itself would take longer without it: another one comes first then, and keeps a unit busy.
	m = delayed(busy(lats(units(ones(), 2, 2, 2, 2), 2, 3, 6, 5), 4, 1, 3, 1), 4)
	then := with(halts(0), multiplies(3, 5, 2), consts(2, 5), api.Op{Do: api.Or, D: 3, A: 6, B: 6}, api.Op{Do: api.Less, D: 2, A: 2, B: 1}, stores(2, 4, 0))
	wantNoneEarly(t, blocks(branches(1, 1, 2), then, halts(2)), m)
	if k := wantTold(t, blocks(branches(1, 1, 2), then, halts(9)), m); len(earlyIn(k)) != 2 {
		t.Errorf("done early: %v", earlyIn(k))
	}
}
