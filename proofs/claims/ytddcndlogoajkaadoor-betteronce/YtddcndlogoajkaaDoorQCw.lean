/- A program in memory of its own (CopiedProgram): read off the program by the walk. Conditions: the program lies in memory, and has at most 8192 operations and blocks. -/
import Derived.Test.YtddcndlogoajkaaDoorQCm
namespace Go.Proofs.YtddcndlogoajkaaDoor.L8.Op
open Go.ChangeShapes Go.WideShapes Go.ChangeAt Go.RowKit
set_option maxRecDepth 20000

/-- One round: the block's box, its lists' copies. -/
structure Cx (w wr V : World) (x : Bk) (u0 u3 : Value) : Prop where
  b : Below wr.heap.size wr V
  lt : wr.heap.size < V.heap.size
  c : At V wr.heap.size #[u0, .int .i8 x.fin, .int .u8 x.a, u3, .int .i64 x.thn, .int .i64 x.els]
theorem Cx.start {w wr V : World} {x : Bk} {u0 u3 : Value} {t : TypeId} (hb : Below (wr.alloc (.cells #[u0, .int .i8 x.fin, .int .u8 x.a, u3, .int .i64 x.thn, .int .i64 x.els] t)).heap.size (wr.alloc (.cells #[u0, .int .i8 x.fin, .int .u8 x.a, u3, .int .i64 x.thn, .int .i64 x.els] t)) V) : Cx w wr V x u0 u3 := by
  obtain ⟨a1, b1, z1⟩ := one_new wr _ _ hb
  exact ⟨b1, z1, a1⟩
theorem Cx.go {w wr V V' : World} {x : Bk} {u0 u3 : Value} (h : Cx w wr V x u0 u3) (hb : Below V.heap.size V V') : Cx w wr V' x u0 u3 :=
  ⟨h.b.trans (hb.mono h.b.size), Nat.lt_of_lt_of_le h.lt hb.size, h.c.below hb h.lt⟩

theorem Cq.box {w V V' : World} {ao : Option Addr} {cap : Nat} {ps : List Bk} {k : Nat} {v : Value} {ls : List Pl} (h : Cq w V ao cap ps k v ls) (hg : V.grownBy V' v.ownBlock) : At V' (w.heap.size + 1 + 1) #[v] :=
  h.o.below ((Below.refl _ _).grown hg h.z fun b hb => (h.row.lt b hb).1) (by omega)

end Go.Proofs.YtddcndlogoajkaaDoor.L8.Op
