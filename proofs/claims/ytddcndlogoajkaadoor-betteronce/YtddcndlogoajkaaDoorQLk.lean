/- Two programs that are the same are said to be (LikeOps, LikeProgram): read off the program by the walk. Conditions: both lie in memory. -/
import Derived.Test.YtddcndlogoajkaaDoorQPk
import Derived.Deep.QuietTactic
import Derived.BigQuiet
namespace Go.Proofs.YtddcndlogoajkaaDoor.L8.Op
open Go.ChangeShapes Go.WideShapes Go.ChangeAt Go.RowKit
set_option maxRecDepth 20000

set_option maxHeartbeats 1000000 in
theorem likeOps_any (ao bo : Option Addr) (c d : Nat) (xs : List O) (w : World) (h : OpsAt w ao xs) (h' : OpsAt w bo xs) :
    Calls Tryd.prog 14 #[.slice ao xs.length c, .slice bo xs.length d] w fun e w' => e = .returned (.bool true) ∧ Below w.heap.size w w' := by
  have HA : Hid (OpsAt w ao xs) := h
  have HB : Hid (OpsAt w bo xs) := h'
  have hlen := h.len
  clear h h'
  go_enter Tryd.func14, Tryd.ntmps14
  go_wp2
  go_loopw [5] (fun i wr => ∃ k : Nat, k ≤ xs.length ∧ i = .int .i64 k ∧ Below w.heap.size w wr) (fun i _ => xs.length - (intOf i).toNat)
  case atStart => exact ⟨0, by omega, rfl, Below.refl _ _⟩
  case round =>
    rename World => wr
    obtain ⟨k, hk, rfl, hbw⟩ := hrel
    by_cases hlt : k < xs.length
    · obtain ⟨b, f, rfl, hz, hx⟩ := HA.out.is (by omega)
      obtain ⟨b', f', rfl, hz', hx'⟩ := HB.out.is (by omega)
      obtain ⟨c0, c1, c2, c3, c4⟩ := (hx k hlt).below hbw hz
      obtain ⟨d0, d1, d2, d3, d4⟩ := (hx' k hlt).below hbw hz'
      clear hx hx' HA HB
      generalize xs[k] = o at *
      go_wp2
      go_quiet (fail)
      go_wp2
      go_roundw
      case rel => exact ⟨k + 1, by omega, by go_num, drewN_below hbw nq⟩
      case measure => simp [intOf]; omega
    · obtain rfl : k = xs.length := by omega
      go_wp2
      go_ret
      exact ⟨rfl, hbw⟩
/-- Two programs' boxes. -/
structure Lw (w V : World) (u v : Value) : Prop where
  b : Below w.heap.size w V
  p : At V w.heap.size #[u]
  q : At V (w.heap.size + 1) #[v]
theorem Lw.go {w V V' : World} {u v : Value} (h : Lw w V u v) (hb : Below V.heap.size V V') : Lw w V' u v :=
  ⟨h.b.trans (hb.mono h.b.size), h.p.below hb h.p.lt, h.q.below hb h.q.lt⟩
theorem Lw.start (w : World) (u v : Value) (t t' : TypeId) : Lw w ((w.alloc (.cells #[u] t)).alloc (.cells #[v] t')) u v := by
  obtain ⟨a1, a2, b, _, _⟩ := two_new w #[u] #[v] t t' (Below.refl _ _)
  exact ⟨b, a1, a2⟩
set_option maxHeartbeats 4000000 in
theorem likeProgram_any (ao bo : Option Addr) (c d : Nat) (ps : List Bk) (w : World) (h : PAt w ao ps) (h' : PAt w bo ps) :
    Calls Tryd.prog 9 #[.agg #[.slice ao ps.length c], .agg #[.slice bo ps.length d]] w fun e w' => e = .returned (.bool true) ∧ Below w.heap.size w w' := by
  have HA : Hid (PAt w ao ps) := h
  have HB : Hid (PAt w bo ps) := h'
  have hlen := h.len
  clear h h'
  have HS : Hid (Lw w ((w.alloc (.cells #[.slice ao ps.length c] 24)).alloc (.cells #[.slice bo ps.length d] 24)) (.slice ao ps.length c) (.slice bo ps.length d)) := Lw.start _ _ _ _ _
  go_enter Tryd.func9, Tryd.ntmps9
  go_wp2
  generalize ((w.alloc (.cells #[.slice ao ps.length c] 24)).alloc (.cells #[.slice bo ps.length d] 24)) = V at *
  go_loopw [5] (fun i wr => ∃ k : Nat, k ≤ ps.length ∧ i = .int .i64 k ∧ Lw w wr (.slice ao ps.length c) (.slice bo ps.length d)) (fun i _ => ps.length - (intOf i).toNat)
  case atStart => exact ⟨0, by omega, rfl, HS.out⟩
  case round =>
    rename World => wr
    obtain ⟨k, hk, rfl, hw⟩ := hrel
    have HW : Hid (Lw w wr (.slice ao ps.length c) (.slice bo ps.length d)) := hw
    have cp := hw.p.c 0 _ rfl
    clear HS
    by_cases hlt : k < ps.length
    · obtain ⟨b, f, rfl, hz, hx⟩ := HA.out.is (by omega)
      obtain ⟨b', f', rfl, hz', hx'⟩ := HB.out.is (by omega)
      obtain ⟨⟨oa, oc, ba, bc⟩, g1, g2⟩ := hx k hlt
      obtain ⟨⟨oa', oc', ba', bc'⟩, g1', g2'⟩ := hx' k hlt
      have zw := hw.b.size
      generalize ps[k] = x at *
      have hb1 : Below wr.heap.size wr (wr.alloc (.cells #[.slice oa x.ops.length oc, .int .i8 x.fin, .int .u8 x.a, .slice ba x.body.length bc, .int .i64 x.thn, .int .i64 x.els] 36)) := (Below.refl _ _).alloc (Nat.le_refl _) _
      obtain ⟨c0, c1, c2, c3, c4, c5⟩ := g1.below hw.b hz
      obtain ⟨d0, d1, d2, d3, d4, d5⟩ := (g1'.below hw.b hz').below hb1 (Nat.lt_of_lt_of_le hz' zw)
      have cq := (hw.q.below hb1 hw.q.lt).c 0 _ rfl
      simp only at c0 c3 d0 d3
      have HO : Hid (∀ w1, Below w.heap.size w w1 → Calls Tryd.prog 14 #[.slice oa x.ops.length oc, .slice oa' x.ops.length oc'] w1 fun e w' => e = .returned (.bool true) ∧ Below w1.heap.size w1 w') := fun w1 hb => likeOps_any _ _ _ _ _ _ (g2.o.below hb) (g2'.o.below hb)
      have HY : Hid (∀ w1, Below w.heap.size w w1 → Calls Tryd.prog 14 #[.slice ba x.body.length bc, .slice ba' x.body.length bc'] w1 fun e w' => e = .returned (.bool true) ∧ Below w1.heap.size w1 w') := fun w1 hb => likeOps_any _ _ _ _ _ _ (g2.b.below hb) (g2'.b.below hb)
      clear hx hx' g1 g2 g1' g2' hw hb1 HA HB
      go_wp2_with (first
        | (go_at_call 14; refine Calls.mono (HO.out _ ((HW.out.b.alloc HW.out.b.size _).alloc (by have := HW.out.b.size; simp; omega) _)) ?_; rintro e w2 ⟨rfl, hb⟩; obtain ⟨a1, a2, hb0, -, -⟩ := two_new wr _ _ _ _ hb; have HW2 : Hid (Lw w w2 (.slice (some ⟨b, f, none⟩) ps.length c) (.slice (some ⟨b', f', none⟩) ps.length d)) := HW.out.go hb0; clear hb hb0 HO c0 c1 c2 c3 c4 c5 d0 d1 d2 d3 d4 d5 cp cq; have e3 := a1.c 3 _ rfl; have e3' := a2.c 3 _ rfl; clear a1 a2)
        | (go_at_call 14; refine Calls.mono (HY.out _ HW2.out.b) ?_; rintro e w3 ⟨rfl, hb⟩; have HW3 : Hid (Lw w w3 (.slice (some ⟨b, f, none⟩) ps.length c) (.slice (some ⟨b', f', none⟩) ps.length d)) := HW2.out.go hb; clear hb HY))
      go_roundw
      case rel => exact ⟨k + 1, by omega, by go_num, HW3.out⟩
      case measure => simp [intOf]; omega
    · obtain rfl : k = ps.length := by omega
      clear hw
      go_wp2
      go_ret
      exact ⟨rfl, HW.out.b⟩
end Go.Proofs.YtddcndlogoajkaaDoor.L8.Op
