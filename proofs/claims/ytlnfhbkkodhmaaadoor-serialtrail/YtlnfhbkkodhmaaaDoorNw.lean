/- The statement SerialKeeps where New refuses: out of what the callees answer. Conditions: the program and the state lie in memory, and the variable as the program lays it. -/
import Derived.Test.YtlnfhbkkodhmaaaDoorNt
import Derived.Test.YtlnfhbkkodhmaaaDoorNs
import Derived.Test.YtlnfhbkkodhmaaaDoorNv
namespace Go.Proofs.YtlnfhbkkodhmaaaDoor.Sm
open Go.ChangeShapes Go.WideShapes Go.ChangeAt Go.RowKit
open _root_.Go.Proofs.YtlnfhbkkodhmaaaDoor.Op _root_.Go.Proofs.YtlnfhbkkodhmaaaDoor.So
set_option maxRecDepth 20000

/-- New refuses. -/
theorem new_no (ao ra ma : Option Addr) (cap rl rc ml mc : Nat) (ps : List Bk) (w : World) (h : PAt w ao ps) (he : Env w) (hn : ¬ ckP ps = 0 ∨ 32 < rl ∨ 256 < ml) : ∃ er : Int, (er == 0) = false ∧ ∀ W, Below w.heap.size w W → Calls Tryd.prog 8 #[.agg #[.slice ao ps.length cap], .agg #[.slice ra rl rc, .slice ma ml mc]] W fun e w' => e = .returned (.tuple #[.pointer none, .int .i64 er]) ∧ Below W.heap.size W w' := by
  by_cases hc : ckP ps = 0
  · have hg : 32 < rl ∨ 256 < ml := hn.elim (fun h => absurd hc h) id
    exact ⟨2, rfl, fun W hb => new_great ao ra ma cap rl rc ml mc ps W (h.below hb) (he.up hb) hc hg⟩
  · exact ⟨ckP ps, by simpa using hc, fun W hb => new_bad ao ra ma cap rl rc ml mc ps W (h.below hb) (he.up hb) hc⟩
set_option maxHeartbeats 2000000 in
theorem keeps_no (ao ra ma : Option Addr) (cap rl rc ml mc : Nat) (ps : List Bk) (n : Int) (w : World) (h : PAt w ao ps) (he : Env w) (hn : ¬ ckP ps = 0 ∨ 32 < rl ∨ 256 < ml) :
    Calls Tryd.prog 7 #[.agg #[.slice ao ps.length cap], .agg #[.slice ra rl rc, .slice ma ml mc], .int .i64 n] w fun e w' => e = .returned (.bool true) ∧ Below w.heap.size w w' := by
  obtain ⟨er, her, hN⟩ := new_no ao ra ma cap rl rc ml mc ps w h he hn
  have HN : Hid _ := hN
  have HW : Hid (∀ W, Below w.heap.size w W → Calls Tryd.prog 10 #[] W fun e w' => e = .returned (.bool true) ∧ Below W.heap.size W w') := fun W hb => wakes_any W (he.up hb)
  clear h he hn hN
  go_enter Tryd.func7, Tryd.ntmps7
  go_wp2_with (first
    | (go_at_call 8; refine Calls.mono (HN.out _ (by go_grown)) ?_; rintro e w1 ⟨rfl, hb⟩; obtain ⟨-, -, hb0, -, -⟩ := two_new w _ _ _ _ hb; have HB : Hid (Below w.heap.size w w1) := hb0; clear hb hb0 HN)
    | (go_at_call 10; refine Calls.mono (HW.out _ HB.out) ?_; rintro e w2 ⟨rfl, hb⟩; have HB2 : Hid (Below w.heap.size w w2) := HB.out.trans (hb.mono HB.out.size); clear hb HW))
  go_ret
  exact ⟨rfl, HB2.out⟩
end Go.Proofs.YtlnfhbkkodhmaaaDoor.Sm
