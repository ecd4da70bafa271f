/- What show's putEnd puts, whatever the end: out of the four ends. Conditions: the block's lists lie in memory; the table of powers lies there as the library lays it. -/
import Derived.Test.YthjpddjfckdefaaGreatDoorSl
import Derived.Test.YthjpddjfckdefaaGreatDoorSf
import Derived.Test.YthjpddjfckdefaaGreatDoorSv
namespace Go.Proofs.YthjpddjfckdefaaGreatDoor.Op
open Go.ChangeShapes Go.WideShapes Go.ChangeAt Go.RowKit
set_option maxRecDepth 20000

/-- A block's end. -/
theorem putEnd_any (w0 : World) (B : Nat) (l : List UInt8) (x : Bk) (p : Pl) (w : World) (hW : Below w0.heap.size w0 w) (hB0 : w0.heap.size ≤ B) (hx : x.Ok) (hP : Pow w0) (hB : Bd B l w) (hl : (l ++ endL x).length ≤ 1000000) (hO : OpsAt w0 p.ba x.body) (hk : BOk x) :
    Calls Tryz.prog 22 #[.func (.func 16) #[] #[.pointer (some ⟨B, 0, none⟩)], .agg #[.slice p.oa x.ops.length p.oc, .int .i8 x.fin, .int .u8 x.a, .slice p.ba x.body.length p.bc, .int .i64 x.thn, .int .i64 x.els]] w fun e w' => e = .returned (.tuple #[]) ∧ Bd B (l ++ endL x) w' ∧ Kp B w w' := by
  have f0 := hk.f0
  have f3 := hk.f3
  have hf : x.fin = 0 ∨ x.fin = 1 ∨ x.fin = 2 ∨ x.fin = 3 := by omega
  rcases hf with hf | hf | hf | hf
  · exact putEnd_jump w0 B l x p w hW hB0 hx hP hB hl hf
  · exact putEnd_branch w0 B l x p w hW hB0 hx hP hB hl hf
  · exact putEnd_halt w0 B l x p w hW hB0 hx hP hB hl hf
  · exact putEnd_loop w0 B l x p w hW hB0 hx hP hB hl hf hO hk.b
end Go.Proofs.YthjpddjfckdefaaGreatDoor.Op
