/- RoundsTell, as the call of the statement walks it. Conditions: the plan lies in memory. -/
import Derived.Test.YtnfnjhaaaenldaaPa
import Derived.Test.YtnfnjhaaaenldaaSa
import Derived.Test.YtnfnjhaaaenldaaWk
namespace Go.Proofs.Ytnfnjhaaaenldaa.Ro
open Go.ChangeShapes Go.WideShapes Go.ChangeAt Go.RowKit
open _root_.Go.Proofs.Ytnfnjhaaaenldaa.Op _root_.Go.Proofs.Ytnfnjhaaaenldaa.So
open _root_.Go.Proofs.Ytnfnjhaaaenldaa.Sp (Pr)
set_option maxRecDepth 20000

theorem whE_parts {L : Nat} {E S : Int} {cy : Nat → Int} {n : Int} (h : whE L E S cy n = 0) : frB L E S cy = true ∧ 0 ≤ n ∧ (n + S) * E ≤ 65536 := by
  by_cases h1 : frB L E S cy = true ∧ 0 ≤ n
  · by_cases h2 : (n + S) * E ≤ 65536
    · exact ⟨h1.1, h1.2, h2⟩
    · rw [(whE_3 h1 h2).1] at h; omega
  · rw [(whE_2 h1).1] at h; omega
theorem paE_parts {L : Nat} {E S : Int} {cy : Nat → Int} (h : paE L E S cy = 0) : frB L E S cy = true ∧ 3 * E * S ≤ 65536 := by
  by_cases h1 : frB L E S cy = true
  · by_cases h2 : 3 * E * S ≤ 65536
    · exact ⟨h1, h2⟩
    · rw [(pa_3 h1 h2).1] at h; omega
  · rw [(pa_2 h1).1] at h; omega
theorem wh_small (L : Nat) (E S : Int) (cy : Nat → Int) (n : Int) : whN L E S cy n ≤ 1000000000 ∧ ∀ c, c < whN L E S cy n → (rowP E cy (evR L n.toNat) c).length ≤ 1000000000 := by
  by_cases h : whE L E S cy n = 0 ∧ 0 < n
  · obtain ⟨h1, h2, h3⟩ := whE_parts h.1
    have hF := frB_fair h1
    have e1 := hF.e1
    have s1 := hF.s1
    have hl := hF.l
    have hN := whN_some h.1 h.2 s1 e1
    have h4 : (n - 1 + S) * E ≤ (n + S) * E := Int.mul_le_mul_of_nonneg_right (by omega) (by omega)
    have h5 : (n + S) * 1 ≤ (n + S) * E := Int.mul_le_mul_of_nonneg_left e1 (by omega)
    refine ⟨by omega, fun c _ => Nat.le_trans (rowP_len _ _ _ _) ?_⟩
    rw [evR_len]
    have := Nat.mul_le_mul (show n.toNat ≤ 65536 by omega) hl
    omega
  · have : whN L E S cy n = 0 := if_neg h
    exact ⟨by omega, fun c hc => by omega⟩
theorem pa_small (L : Nat) (E S : Int) (cy : Nat → Int) : (paN L E S cy ≤ 1000000000 ∧ paK L E S cy ≤ 1000000000) ∧ (0 < paN L E S cy ∨ 0 < paK L E S cy → ∀ c, (rowP E cy (evR L S.toNat) c).length ≤ 1000000000) := by
  by_cases h : paE L E S cy = 0
  · obtain ⟨h1, h2⟩ := paE_parts h
    have hF := frB_fair h1
    have e1 := hF.e1
    have s1 := hF.s1
    have s2 := hF.s2
    have e2 := hF.e2
    have hl := hF.l
    obtain ⟨-, r2, r3⟩ := pa_0 h1 h2
    obtain ⟨p1, p2⟩ := mul_small (a := S - 1) (b := E) (by omega) (by omega) (by omega) (by omega)
    have h3 : 3 * E * S = 3 * (S * E) := by rw [Int.mul_assoc, Int.mul_comm E S]
    have h4 : S * E = (S - 1) * E + E := by rw [Int.sub_mul]; omega
    refine ⟨⟨by omega, by omega⟩, fun _ c => Nat.le_trans (rowP_len _ _ _ _) ?_⟩
    rw [evR_len]
    have := Nat.mul_le_mul (show S.toNat ≤ 65537 by omega) hl
    omega
  · have a : paN L E S cy = 0 := if_neg h
    have b : paK L E S cy = 0 := if_neg h
    exact ⟨⟨by omega, by omega⟩, fun h => by omega⟩
set_option maxHeartbeats 16000000 in
theorem law_tell (E S : Int) (pa : Option Addr) (L pc : Nat) (cy : Nat → Int) (n : Int) (w : World) (hA : Nl w w.heap.size pa L cy) (hL : L ≤ 100000000000000) (hn1 : -9223372036854775808 ≤ n) (hn2 : n ≤ 9223372036854775807) :
    Calls Try.prog 3 #[.agg #[.int .i64 E, .slice pa L pc, .int .i64 S], .int .i64 n] w fun e w' => e = .returned (.bool true) ∧ Below w.heap.size w w' := by
  have HU : Hid (Below w.heap.size w (w.alloc (.cells #[.int .i64 E, .slice pa L pc, .int .i64 S] 24))) := (Below.refl _ _).alloc (Nat.le_refl _) _
  have HB : Hid (At (w.alloc (.cells #[.int .i64 E, .slice pa L pc, .int .i64 S] 24)) w.heap.size #[.int .i64 E, .slice pa L pc, .int .i64 S]) := At.new _ _ _
  have HC : Hid (∀ W, Below w.heap.size w W → Calls Try.prog 6 #[.agg #[.int .i64 E, .slice pa L pc, .int .i64 S], .int .i64 n] W (WhOut W L E S cy n)) := fun W hW => whole_any E S pa L pc cy n W (hA.up hW) hn1 hn2
  have HD : Hid (∀ W, Below w.heap.size w W → Calls Try.prog 7 #[.agg #[.int .i64 E, .slice pa L pc, .int .i64 S], .int .i64 n] W (WhOut W L E S cy n)) := fun W hW => rwhole_any E S pa L pc cy n W (hA.up hW) hL hn1 hn2
  have HE : Hid (∀ W, Below w.heap.size w W → Calls Try.prog 8 #[.agg #[.int .i64 E, .slice pa L pc, .int .i64 S]] W (PaOut W L E S cy)) := fun W hW => parts_any E S pa L pc cy W (hA.up hW)
  have HG : Hid (∀ W, Below w.heap.size w W → Calls Try.prog 9 #[.agg #[.int .i64 E, .slice pa L pc, .int .i64 S]] W (PaOut W L E S cy)) := fun W hW => rparts_any E S pa L pc cy W (hA.up hW) hL
  clear hA
  go_enter Try.func3, Try.ntmps3
  go_upto_region 1 with fail
  generalize hV : w.alloc (.cells #[.int .i64 E, .slice pa L pc, .int .i64 S] 24) = V at *
  clear hV
  have c0 : V.cell? ⟨w.heap.size, 0, none⟩ = some (.int .i64 E) := HB.out.c 0 _ rfl
  have c1 : V.cell? ⟨w.heap.size, 1, none⟩ = some (.slice pa L pc) := HB.out.c 1 _ rfl
  have c2 : V.cell? ⟨w.heap.size, 2, none⟩ = some (.int .i64 S) := HB.out.c 2 _ rfl
  have cl := HB.out.lt
  go_upto_region 2 with (first
    | (go_at_call 6; refine Calls.mono (HC.out _ HU.out) ?_; rintro e w1 ⟨v1, rfl, hb, hr⟩; have H1 : Hid (Below w.heap.size w w1 ∧ At w1 w.heap.size #[.int .i64 E, .slice pa L pc, .int .i64 S] ∧ Rd w1 v1 (whN L E S cy n) (rowP E cy (evR L n.toNat))) := ⟨HU.out.trans (hb.mono HU.out.size), HB.out.below hb HB.out.lt, hr⟩; clear hb hr c0 c1 c2 cl HC HU HB))
  have c0 : w1.cell? ⟨w.heap.size, 0, none⟩ = some (.int .i64 E) := H1.out.2.1.c 0 _ rfl
  have c1 : w1.cell? ⟨w.heap.size, 1, none⟩ = some (.slice pa L pc) := H1.out.2.1.c 1 _ rfl
  have c2 : w1.cell? ⟨w.heap.size, 2, none⟩ = some (.int .i64 S) := H1.out.2.1.c 2 _ rfl
  have cl := H1.out.2.1.lt
  go_upto_region 3 with (first
    | (go_at_call 7; refine Calls.mono (HD.out _ H1.out.1) ?_; rintro e w2 ⟨v2, rfl, hb, hr⟩; have H2 : Hid (Below w.heap.size w w2 ∧ At w2 w.heap.size #[.int .i64 E, .slice pa L pc, .int .i64 S] ∧ Rd w2 v1 (whN L E S cy n) (rowP E cy (evR L n.toNat)) ∧ Rd w2 v2 (whN L E S cy n) (rowP E cy (evR L n.toNat))) := ⟨H1.out.1.trans (hb.mono H1.out.1.size), H1.out.2.1.below hb H1.out.2.1.lt, H1.out.2.2.up hb, hr⟩; clear hb hr c0 c1 c2 cl HD H1))
  have c0 : w2.cell? ⟨w.heap.size, 0, none⟩ = some (.int .i64 E) := H2.out.2.1.c 0 _ rfl
  have c1 : w2.cell? ⟨w.heap.size, 1, none⟩ = some (.slice pa L pc) := H2.out.2.1.c 1 _ rfl
  have c2 : w2.cell? ⟨w.heap.size, 2, none⟩ = some (.int .i64 S) := H2.out.2.1.c 2 _ rfl
  have cl := H2.out.2.1.lt
  go_upto_region 4 with (first
    | (go_at_call 8; refine Calls.mono (HE.out _ H2.out.1) ?_; rintro e w3 ⟨f1, f2, f3, rfl, hb, r1, r2, r3⟩; have H3 : Hid (Below w.heap.size w w3 ∧ At w3 w.heap.size #[.int .i64 E, .slice pa L pc, .int .i64 S] ∧ (Rd w3 v1 (whN L E S cy n) (rowP E cy (evR L n.toNat)) ∧ Rd w3 v2 (whN L E S cy n) (rowP E cy (evR L n.toNat))) ∧ (Rd w3 f1 (paN L E S cy) (rowP E cy (evR L S.toNat)) ∧ Rd w3 f2 (paK L E S cy) (fun c => rowP E cy (evR L S.toNat) (paN L E S cy + c)) ∧ Rd w3 f3 (paN L E S cy) (fun c => rowP E cy (evR L S.toNat) (paN L E S cy + paK L E S cy + c)))) := ⟨H2.out.1.trans (hb.mono H2.out.1.size), H2.out.2.1.below hb H2.out.2.1.lt, ⟨H2.out.2.2.1.up hb, H2.out.2.2.2.up hb⟩, r1, r2, r3⟩; clear hb r1 r2 r3 c0 c1 c2 cl HE H2))
  have c0 : w3.cell? ⟨w.heap.size, 0, none⟩ = some (.int .i64 E) := H3.out.2.1.c 0 _ rfl
  have c1 : w3.cell? ⟨w.heap.size, 1, none⟩ = some (.slice pa L pc) := H3.out.2.1.c 1 _ rfl
  have c2 : w3.cell? ⟨w.heap.size, 2, none⟩ = some (.int .i64 S) := H3.out.2.1.c 2 _ rfl
  have cl := H3.out.2.1.lt
  go_upto_region 5 with (first
    | (go_at_call 9; refine Calls.mono (HG.out _ H3.out.1) ?_; rintro e w4 ⟨g1, g2, g3, rfl, hb, r1, r2, r3⟩; have H4 : Hid (Below w.heap.size w w4 ∧ (∀ W, Below w4.heap.size w4 W → (Rd W v1 (whN L E S cy n) (rowP E cy (evR L n.toNat)) ∧ Rd W v2 (whN L E S cy n) (rowP E cy (evR L n.toNat))) ∧ (Rd W f1 (paN L E S cy) (rowP E cy (evR L S.toNat)) ∧ Rd W f2 (paK L E S cy) (fun c => rowP E cy (evR L S.toNat) (paN L E S cy + c)) ∧ Rd W f3 (paN L E S cy) (fun c => rowP E cy (evR L S.toNat) (paN L E S cy + paK L E S cy + c))) ∧ (Rd W g1 (paN L E S cy) (rowP E cy (evR L S.toNat)) ∧ Rd W g2 (paK L E S cy) (fun c => rowP E cy (evR L S.toNat) (paN L E S cy + c)) ∧ Rd W g3 (paN L E S cy) (fun c => rowP E cy (evR L S.toNat) (paN L E S cy + paK L E S cy + c))))) := ⟨H3.out.1.trans (hb.mono H3.out.1.size), fun W hW => ⟨⟨(H3.out.2.2.1.1.up hb).up hW, (H3.out.2.2.1.2.up hb).up hW⟩, ⟨(H3.out.2.2.2.1.up hb).up hW, (H3.out.2.2.2.2.1.up hb).up hW, (H3.out.2.2.2.2.2.up hb).up hW⟩, r1.up hW, r2.up hW, r3.up hW⟩⟩; clear hb r1 r2 r3 c0 c1 c2 cl HG H3))
  have X1 : Hid (∀ W, Below w4.heap.size w4 W → Calls Try.prog 10 #[v1, v2] W fun e w' => e = .returned (.bool true) ∧ Below W.heap.size W w') := fun W hW => rows_same v1 v2 _ _ W (H4.out.2 W hW).1.1 (H4.out.2 W hW).1.2 (wh_small L E S cy n).1 (wh_small L E S cy n).2
  have X2 : Hid (∀ W, Below w4.heap.size w4 W → Calls Try.prog 10 #[f1, g1] W fun e w' => e = .returned (.bool true) ∧ Below W.heap.size W w') := fun W hW => rows_same f1 g1 _ _ W (H4.out.2 W hW).2.1.1 (H4.out.2 W hW).2.2.1 (pa_small L E S cy).1.1 fun c hc => (pa_small L E S cy).2 (.inl (by omega)) _
  have X3 : Hid (∀ W, Below w4.heap.size w4 W → Calls Try.prog 10 #[f2, g2] W fun e w' => e = .returned (.bool true) ∧ Below W.heap.size W w') := fun W hW => rows_same f2 g2 _ _ W (H4.out.2 W hW).2.1.2.1 (H4.out.2 W hW).2.2.2.1 (pa_small L E S cy).1.2 fun c hc => (pa_small L E S cy).2 (.inr (by omega)) _
  have X4 : Hid (∀ W, Below w4.heap.size w4 W → Calls Try.prog 10 #[f3, g3] W fun e w' => e = .returned (.bool true) ∧ Below W.heap.size W w') := fun W hW => rows_same f3 g3 _ _ W (H4.out.2 W hW).2.1.2.2 (H4.out.2 W hW).2.2.2.2 (pa_small L E S cy).1.1 fun c hc => (pa_small L E S cy).2 (.inl (by omega)) _
  have HQ : Hid (Below w.heap.size w w4) := H4.out.1
  clear H4
  go_wp2_with (first
    | (go_at_call 10; refine Calls.mono (X1.out _ (Below.refl _ _)) ?_; rintro e w5 ⟨rfl, hb⟩; have B5 : Hid (Below w4.heap.size w4 w5) := hb; clear hb X1)
    | (go_at_call 10; refine Calls.mono (X2.out _ B5.out) ?_; rintro e w6 ⟨rfl, hb⟩; have B6 : Hid (Below w4.heap.size w4 w6) := B5.out.trans (hb.mono B5.out.size); clear hb X2)
    | (go_at_call 10; refine Calls.mono (X3.out _ B6.out) ?_; rintro e w7 ⟨rfl, hb⟩; have B7 : Hid (Below w4.heap.size w4 w7) := B6.out.trans (hb.mono B6.out.size); clear hb X3)
    | (go_at_call 10; refine Calls.mono (X4.out _ B7.out) ?_; rintro e w8 ⟨rfl, hb⟩; have B8 : Hid (Below w4.heap.size w4 w8) := B7.out.trans (hb.mono B7.out.size); clear hb X4)
    | (go_at_call 11; refine Calls.mono (wakes_any _) ?_; rintro e w9 ⟨rfl, hb⟩; have B9 : Hid (Below w4.heap.size w4 w9) := B8.out.trans (hb.mono B8.out.size); clear hb))
  go_ret
  exact ⟨rfl, HQ.out.trans (B9.out.mono HQ.out.size)⟩
end Go.Proofs.Ytnfnjhaaaenldaa.Ro
