/- The statement ReserveCounts over the program, whole. Conditions: the asks lie in memory, the variables as the program lays them. -/
import Derived.Test.YthjnegdgpnbkkaaDoorRk
namespace Go.Proofs.YthjnegdgpnbkkaaDoor.Rv
open Go.ChangeShapes Go.WideShapes Go.ChangeAt Go.RowKit Go.Maps
open _root_.Go.Proofs.YthjnegdgpnbkkaaDoor.Op _root_.Go.Proofs.YthjnegdgpnbkkaaDoor.So
open _root_.Go.Proofs.YthjnegdgpnbkkaaDoor.Tb (Tab TabAt Bnds)
set_option maxRecDepth 20000

theorem rg_parts {t : Tab} {ev : Int} (h : rgE t ev = 0) : Tb.ckR t = 0 ∧ 1 ≤ ev ∧ ev ≤ 65536 := by
  unfold rgE at h
  by_cases h1 : Tb.ckR t = 0
  · rw [if_pos h1] at h
    by_cases h2 : 1 ≤ ev ∧ ev ≤ 65536
    · exact ⟨h1, h2⟩
    · rw [if_neg h2] at h; omega
  · rw [if_neg h1] at h; exact absurd h h1
set_option maxHeartbeats 4000000 in
theorem law_counts (t : Tab) (ev : Int) (ao : Option Addr) (cap : Nat) (xs : List Ak) (w : World) (hp : AksAt w ao xs) (hG : Bnds w) :
    Calls Tryd.prog 5 #[t.val, .int .i64 ev, .slice ao xs.length cap] w fun e w' => e = .returned (.bool true) ∧ Below w.heap.size w w' := by
  by_cases hk : rgE t ev = 0
  · obtain ⟨h0, h1, h2⟩ := rg_parts hk
    exact counts_main t ev ao cap xs w hp hG h0 h1 h2
  · have HW : Hid (∀ W, Below w.heap.size w W → Calls Tryd.prog 11 #[] W fun e w' => e = .returned (.bool true) ∧ Below W.heap.size W w') := fun W hb => wakes_any W (hG.below hb hG.big)
    have HR : Hid (∀ W, Below w.heap.size w W → Calls Tryd.prog 9 #[t.val, .int .i64 ev] W fun e w' => e = .returned (.tuple #[.pointer none, .int .i64 (rgE t ev)]) ∧ Below W.heap.size W w') := fun W hb => ring_no t ev W (hG.below hb hG.big) hk
    have hkb : (rgE t ev != 0) = true := by simpa using hk
    have hee : (rgE t ev == rgE t ev) = true := by simp
    clear hp hG
    generalize rgE t ev = er at *
    unfold Tab.val at *
    go_enter Tryd.func5, Tryd.ntmps5
    go_wp2_with (first
      | (go_at_call 9; have hx1 := HS1.out; refine Calls.mono (HR.out _ HS1.out.2) ?_; rintro e w2 ⟨rfl, b2⟩; have HS2 : Hid (Below w.heap.size w w2) := HS1.out.2.trans (b2.mono HS1.out.2.size); clear b2 HR hx1 qu0 qu1 qu2 qu3 ql0 ql1 ql2 ql3 qb0 qb1 qb2 qb3 qd qz)
      | (go_at_call 9; refine Calls.mono (HR.out _ (by go_grown)) ?_; rintro e w1 ⟨rfl, b1⟩; have HS1 : Hid (TabAt w1 w.heap.size t ∧ Below w.heap.size w w1) := ⟨(Tb.tabAt_new w t 24).below b1 (by simp), Below.trans (by go_grown) (b1.mono (by simp))⟩; clear b1; have k2 := HS1.out.1; have qu0 := k2.cu 0 (by decide); have qu1 := k2.cu 1 (by decide); have qu2 := k2.cu 2 (by decide); have qu3 := k2.cu 3 (by decide); have ql0 := k2.cl 0 (by decide); have ql1 := k2.cl 1 (by decide); have ql2 := k2.cl 2 (by decide); have ql3 := k2.cl 3 (by decide); have qb0 := k2.cb 0 (by decide); have qb1 := k2.cb 1 (by decide); have qb2 := k2.cb 2 (by decide); have qb3 := k2.cb 3 (by decide); have qd := k2.cd; have qz := k2.lt; clear k2)
      | (go_at_call 11; refine Calls.mono (HW.out _ HS2.out) ?_; rintro e w9 ⟨rfl, b9⟩; have HB : Hid (Below w.heap.size w w9) := HS2.out.trans (b9.mono HS2.out.size); clear b9 HW))
    go_ret
    exact ⟨rfl, HB.out⟩
end Go.Proofs.YthjnegdgpnbkkaaDoor.Rv
