/- What show's Text answers: read off the program by the walk. Conditions: the program lies in memory; the variables lie there as the program lays them. -/
import Derived.Test.YthjpddjfckdefaaGreatDoorSx
namespace Go.Proofs.YthjpddjfckdefaaGreatDoor.Op
open Go.ChangeShapes Go.WideShapes Go.ChangeAt Go.RowKit
set_option maxRecDepth 20000

/-- A program's text, and the error. -/
def showT (ps : List Bk) : List UInt8 × Int := if ckP ps = 0 then (if 65536 < (progL ps).length then ([], 3) else (progL ps, 0)) else ([], ckP ps)
theorem within_long (l : List UInt8) (w : World) (h : 65536 < l.length) (h2 : l.length ≤ 1000000) : Calls Tryz.prog 10 #[.string ⟨l.toArray⟩] w fun e w' => e = .returned (.tuple #[.string ⟨#[]⟩, .int .i64 3]) ∧ w' = w := by
  have hs : (⟨l.toArray⟩ : ByteArray).size = l.length := ba_size l
  generalize (⟨l.toArray⟩ : ByteArray) = s at *
  have hi : (65536 : Int) < (s.size : Int) := by omega
  go_enter Tryz.func10, Tryz.ntmps10
  go_wp2
  go_returns
  exact ⟨rfl, rfl⟩
theorem within_short (l : List UInt8) (w : World) (h : l.length ≤ 65536) : Calls Tryz.prog 10 #[.string ⟨l.toArray⟩] w fun e w' => e = .returned (.tuple #[.string ⟨l.toArray⟩, .int .i64 0]) ∧ w' = w := by
  have hs : (⟨l.toArray⟩ : ByteArray).size = l.length := ba_size l
  generalize (⟨l.toArray⟩ : ByteArray) = s at *
  have hi : ¬ (65536 : Int) < (s.size : Int) := by omega
  go_enter Tryz.func10, Tryz.ntmps10
  go_wp2
  go_returns
  exact ⟨rfl, rfl⟩
theorem within_any (l : List UInt8) (w : World) (h2 : l.length ≤ 1000000) : Calls Tryz.prog 10 #[.string ⟨l.toArray⟩] w fun e w' => e = .returned (.tuple #[.string ⟨(if 65536 < l.length then ([], 3) else (l, (0 : Int))).1.toArray⟩, .int .i64 (if 65536 < l.length then (([] : List UInt8), 3) else (l, (0 : Int))).2]) ∧ w' = w := by
  by_cases h : 65536 < l.length
  · rw [if_pos h]; exact within_long l w h h2
  · rw [if_neg h]; exact within_short l w (by omega)
/-- The box of a program. -/
structure Tb (w V : World) (cs : Array Value) : Prop where
  a : At V w.heap.size cs
  b : Below w.heap.size w V
theorem Tb.up {w V V' : World} {cs : Array Value} (h : Tb w V cs) (hb : Below V.heap.size V V') : Tb w V' cs := ⟨h.a.below hb h.a.lt, h.b.trans (hb.mono h.b.size)⟩
set_option maxHeartbeats 1000000 in
theorem text_any (ao : Option Addr) (cap : Nat) (ps : List Bk) (w : World) (h : PAt w ao ps) (hE : Env w) (hP : Pow w) :
    Calls Tryz.prog 5 #[.agg #[.slice ao ps.length cap]] w fun e w' => e = .returned (.tuple #[.string ⟨(showT ps).1.toArray⟩, .int .i64 (showT ps).2]) ∧ Below w.heap.size w w' := by
  have HQ : Hid (Tb w (w.alloc (.cells #[.slice ao ps.length cap] 24)) #[.slice ao ps.length cap]) := ⟨At.new _ _ _, (Below.refl _ _).alloc (Nat.le_refl _) _⟩
  have HC : Hid (∀ W, Below w.heap.size w W → Calls Tryz.prog 6 #[.agg #[.slice ao ps.length cap]] W fun e w' => e = .returned (.int .i64 (ckP ps)) ∧ Below W.heap.size W w') := fun W hb => checkP_any ao cap ps W (h.below hb) (hE.up hb)
  by_cases hc : ckP ps = 0
  · have HW : Hid (∀ W, Below w.heap.size w W → Calls Tryz.prog 11 #[.agg #[.slice ao ps.length cap]] W fun e w' => e = .returned (.string ⟨(progL ps).toArray⟩) ∧ Below W.heap.size W w') := fun W hb => written_any ao cap ps W (h.below hb) (hP.bl hb) hc
    have HX : Hid (∀ W, Calls Tryz.prog 10 #[.string ⟨(progL ps).toArray⟩] W fun e w' => e = .returned (.tuple #[.string ⟨(showT ps).1.toArray⟩, .int .i64 (showT ps).2]) ∧ w' = W) := fun W => by
      have := within_any (progL ps) W (by have := progL_len h hc; omega)
      unfold showT
      rw [if_pos hc]
      exact this
    rw [hc] at HC
    clear h hE hP hc
    generalize (showT ps).1 = s1 at *
    generalize (showT ps).2 = s2 at *
    generalize progL ps = pl at *
    go_enter Tryz.func5, Tryz.ntmps5
    go_wp2_with (first
      | (go_at_call 6; refine Calls.mono (HC.out _ HQ.out.b) ?_; rintro e w1 ⟨rfl, hb⟩; have H1 : Hid _ := HQ.out.up hb; clear hb HQ HC; have c0 := H1.out.a.c 0 _ rfl)
      | (go_at_call 11; refine Calls.mono (HW.out _ H1.out.b) ?_; rintro e w2 ⟨rfl, hb⟩; have H2 : Hid _ := H1.out.up hb; clear hb H1 HW c0)
      | (go_at_call 10; refine Calls.mono (HX.out _) ?_; rintro e w3 ⟨rfl, hw⟩; subst w3))
    go_returns
    exact ⟨rfl, H2.out.b⟩
  · have hs : showT ps = ([], ckP ps) := by unfold showT; rw [if_neg hc]
    rw [hs]
    have hc1 : (ckP ps == 0) = false := by simpa using hc
    have hc2 : (ckP ps != 0) = true := by simpa using hc
    clear h hE hP hc hs
    generalize ckP ps = ec at *
    go_enter Tryz.func5, Tryz.ntmps5
    go_wp2_with (first
      | (go_at_call 6; refine Calls.mono (HC.out _ HQ.out.b) ?_; rintro e w1 ⟨rfl, hb⟩; have H1 : Hid _ := HQ.out.up hb; clear hb HQ HC))
    go_returns
    exact ⟨rfl, H1.out.b⟩
end Go.Proofs.YthjpddjfckdefaaGreatDoor.Op
