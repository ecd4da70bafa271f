/- The rows of all cycles of n rounds (Whole), as the program and as the document's own answer tell them, read off by the walk. Conditions: the plan lies in memory. -/
import Derived.Test.YtnfnjhaaaenldaaFb
import Derived.Test.YtnfnjhaaaenldaaFc
import Derived.Test.YtnfnjhaaaenldaaRr
namespace Go.Proofs.Ytnfnjhaaaenldaa.Ro
open Go.ChangeShapes Go.WideShapes Go.ChangeAt Go.RowKit
open _root_.Go.Proofs.Ytnfnjhaaaenldaa.Op _root_.Go.Proofs.Ytnfnjhaaaenldaa.So
open _root_.Go.Proofs.Ytnfnjhaaaenldaa.Sp (Pr)
set_option maxRecDepth 20000

theorem Nl.up {W W' : World} {a : Option Addr} {n : Nat} {g : Nat → Int} (h : Nl W W.heap.size a n g) (hb : Below W.heap.size W W') : Nl W' W'.heap.size a n g := ⟨fun h0 => by
  obtain ⟨b, f, e, z, hx⟩ := h.is h0
  exact ⟨b, f, e, Nat.lt_of_lt_of_le z hb.size, fun k hk => by rw [(bcell hb).1 _ _ z]; exact hx k hk⟩⟩
/-- Which error. -/
def whE (L : Nat) (E S : Int) (cy : Nat → Int) (n : Int) : Int := if frB L E S cy = true ∧ 0 ≤ n then (if (n + S) * E ≤ 65536 then 0 else 3) else 2
/-- How many rows. -/
def whN (L : Nat) (E S : Int) (cy : Nat → Int) (n : Int) : Nat := if whE L E S cy n = 0 ∧ 0 < n then ((n - 1 + S) * E).toNat else 0
/-- What is answered. -/
def WhOut (w : World) (L : Nat) (E S : Int) (cy : Nat → Int) (n : Int) (r : Ending) (w' : World) : Prop :=
  ∃ v, r = .returned (.tuple #[v, .int .i64 (whE L E S cy n)]) ∧ Below w.heap.size w w' ∧ Rd w' v (whN L E S cy n) (rowP E cy (evR L n.toNat))
theorem whE_2 {L : Nat} {E S : Int} {cy : Nat → Int} {n : Int} (h : ¬ (frB L E S cy = true ∧ 0 ≤ n)) : whE L E S cy n = 2 ∧ whN L E S cy n = 0 := by
  have e : whE L E S cy n = 2 := if_neg h
  refine ⟨e, if_neg ?_⟩
  rw [e]; omega
theorem whE_3 {L : Nat} {E S : Int} {cy : Nat → Int} {n : Int} (h : frB L E S cy = true ∧ 0 ≤ n) (h2 : ¬ (n + S) * E ≤ 65536) : whE L E S cy n = 3 ∧ whN L E S cy n = 0 := by
  have e : whE L E S cy n = 3 := (if_pos h).trans (if_neg h2)
  refine ⟨e, if_neg ?_⟩
  rw [e]; omega
theorem whE_0 {L : Nat} {E S : Int} {cy : Nat → Int} {n : Int} (h : frB L E S cy = true ∧ 0 ≤ n) (h2 : (n + S) * E ≤ 65536) : whE L E S cy n = 0 := (if_pos h).trans (if_pos h2)
theorem whN_0 {L : Nat} {E S : Int} {cy : Nat → Int} {n : Int} (h : n = 0) : whN L E S cy n = 0 := if_neg (by omega)
theorem whN_some {L : Nat} {E S : Int} {cy : Nat → Int} {n : Int} (h : whE L E S cy n = 0) (h2 : 0 < n) (hs : 1 ≤ S) (hE : 1 ≤ E) : ((whN L E S cy n : Nat) : Int) = (n - 1 + S) * E := by
  have e : whN L E S cy n = ((n - 1 + S) * E).toNat := if_pos ⟨h, h2⟩
  rw [e, Int.toNat_of_nonneg (Int.mul_nonneg (by omega) (by omega))]
theorem long_iff {E S n : Int} (hE : 1 ≤ E) : n ≤ 65536 / E - S ↔ (n + S) * E ≤ 65536 := by
  rw [← Int.le_ediv_iff_mul_le (show 0 < E by omega)]
  omega
/-- Either way of gathering the rows. -/
theorem wh_rows {w : World} {L : Nat} {E S : Int} {cy : Nat → Int} {n : Int} {f : FuncId} {args : Array Value} (hf : frB L E S cy = true) (hn : 0 ≤ n) (hl : (n + S) * E ≤ 65536)
    (h0 : n = 0 → Calls Try.prog f args w fun e w' => e = .returned (.slice none 0 0) ∧ Below w.heap.size w w')
    (h1 : ∀ N : Nat, 0 < n → n ≤ 65536 → (N : Int) = (n - 1 + S) * E → N ≤ 65536 → Calls Try.prog f args w fun e w' => ∃ v, e = .returned v ∧ Below w.heap.size w w' ∧ Rd w' v N (rowP E cy (evR L n.toNat))) :
    Calls Try.prog f args w fun e w' => ∃ v, e = .returned v ∧ Below w.heap.size w w' ∧ Rd w' v (whN L E S cy n) (rowP E cy (evR L n.toNat)) := by
  have hF := frB_fair hf
  have e0 := whE_0 ⟨hf, hn⟩ hl
  by_cases h : n = 0
  · rw [whN_0 h]
    exact (h0 h).mono fun e w' g => ⟨_, g.1, g.2, Rd.nil _ _⟩
  · have hN := whN_some e0 (by omega) hF.s1 hF.e1
    have hs := hF.s1
    have he := hF.e1
    have h3 : (n + S) * 1 ≤ (n + S) * E := Int.mul_le_mul_of_nonneg_left he (by omega)
    have h4 : (n - 1 + S) * E ≤ (n + S) * E := Int.mul_le_mul_of_nonneg_right (by omega) (by omega)
    exact h1 _ (by omega) (by omega) hN (by omega)
set_option maxHeartbeats 8000000 in
theorem whole_any (E S : Int) (pa : Option Addr) (L pc : Nat) (cy : Nat → Int) (n : Int) (w : World) (hA : Nl w w.heap.size pa L cy) (hn1 : -9223372036854775808 ≤ n) (hn2 : n ≤ 9223372036854775807) :
    Calls Try.prog 6 #[.agg #[.int .i64 E, .slice pa L pc, .int .i64 S], .int .i64 n] w (WhOut w L E S cy n) := by
  have HU : Hid (Below w.heap.size w (w.alloc (.cells #[.int .i64 E, .slice pa L pc, .int .i64 S] 24))) := (Below.refl _ _).alloc (Nat.le_refl _) _
  have HB : Hid (At (w.alloc (.cells #[.int .i64 E, .slice pa L pc, .int .i64 S] 24)) w.heap.size #[.int .i64 E, .slice pa L pc, .int .i64 S]) := At.new _ _ _
  have HM : Hid (∀ W, Below w.heap.size w W → Calls Try.prog 13 #[.agg #[.int .i64 E, .slice pa L pc, .int .i64 S]] W fun e w' => e = .returned (.bool (frB L E S cy)) ∧ Below W.heap.size W w') := fun W hW => mayBe_any pa L pc cy E S W (hA.up hW)
  unfold WhOut
  by_cases hf : frB L E S cy = true ∧ 0 ≤ n
  · obtain ⟨hf1, hf2⟩ := hf
    have hF := frB_fair hf1
    have e1 := hF.e1
    have e2 := hF.e2
    have s1 := hF.s1
    have s2 := hF.s2
    have d0 : 0 ≤ (65536 : Int) / E := Int.ediv_nonneg (by omega) (by omega)
    have d1 : (65536 : Int) / E ≤ 65536 := Int.ediv_le_self _ (by omega)
    have d3 : ¬ E = 0 := by omega
    by_cases hl : ¬ (n + S) * E ≤ 65536
    · obtain ⟨x1, x2⟩ := whE_3 ⟨hf1, hf2⟩ hl
      have HR : Hid (whE L E S cy n = 3 ∧ whN L E S cy n = 0) := ⟨x1, x2⟩
      have hq : 65536 / E - S < n := by
        have := long_iff (E := E) (S := S) (n := n) e1
        omega
      generalize hdq : (65536 : Int) / E = q at *
      have hqq : decide (n > q - S) = true := decide_eq_true (by omega)
      clear hA hF hl
      go_enter Try.func6, Try.ntmps6
      go_wp2_with (first | (go_at_call 13; refine Calls.mono (HM.out _ HU.out) ?_; rintro e w1 ⟨rfl, hb⟩; rw [hf1]; have HX : Hid (Below w.heap.size w w1 ∧ At w1 w.heap.size #[.int .i64 E, .slice pa L pc, .int .i64 S]) := ⟨HU.out.trans (hb.mono HU.out.size), HB.out.below hb HB.out.lt⟩; have c0 : w1.cell? ⟨w.heap.size, 0, none⟩ = some (.int .i64 E) := HX.out.2.c 0 _ rfl; have c1 : w1.cell? ⟨w.heap.size, 1, none⟩ = some (.slice pa L pc) := HX.out.2.c 1 _ rfl; have c2 : w1.cell? ⟨w.heap.size, 2, none⟩ = some (.int .i64 S) := HX.out.2.c 2 _ rfl; have cl := HX.out.2.lt; clear hb HM HU HB))
      go_quiet (fail)
      have HX2 : Hid (Below w.heap.size w (w1.drewN nq) ∧ At (w1.drewN nq) w.heap.size #[.int .i64 E, .slice pa L pc, .int .i64 S]) := ⟨HX.out.1.trans ⟨rfl, rfl, rfl, Nat.le_refl _, fun _ _ => rfl⟩, HX.out.2.c, HX.out.2.f, HX.out.2.lt⟩
      clear HX c0 c1 c2 cl
      generalize w1.drewN nq = w3 at *
      have c0 : w3.cell? ⟨w.heap.size, 0, none⟩ = some (.int .i64 E) := HX2.out.2.c 0 _ rfl; have c1 : w3.cell? ⟨w.heap.size, 1, none⟩ = some (.slice pa L pc) := HX2.out.2.c 1 _ rfl; have c2 : w3.cell? ⟨w.heap.size, 2, none⟩ = some (.int .i64 S) := HX2.out.2.c 2 _ rfl; have cl := HX2.out.2.lt
      go_wp2_with fail
      go_ret2
      exact ⟨_, by rw [HR.out.1]; rfl, HX2.out.1, by rw [HR.out.2]; exact Rd.nil _ _⟩
    · have hl : (n + S) * E ≤ 65536 := Classical.not_not.1 hl
      have HR : Hid (whE L E S cy n = 0) := whE_0 ⟨hf1, hf2⟩ hl
      have HY : Hid (∀ W, Below w.heap.size w W → Calls Try.prog 14 #[.agg #[.int .i64 E, .slice pa L pc, .int .i64 S], .int .i64 n] W fun e w' => ∃ v, e = .returned v ∧ Below W.heap.size W w' ∧ Rd w' v (whN L E S cy n) (rowP E cy (evR L n.toNat))) := fun W hW => wh_rows hf1 hf2 hl (fun h => by rw [h]; exact rowsOf_none E S pa L pc W) fun N h1 h2 h3 h4 => by
        have h := rowsOf_some E S pa L pc cy n.toNat N W (hA.up hW) hF (by omega) (by omega) (by rw [Int.toNat_of_nonneg hf2]; exact h3) h4
        rw [Int.toNat_of_nonneg hf2] at h
        exact h
      have hq : ¬ 65536 / E - S < n := by
        have := long_iff (E := E) (S := S) (n := n) e1
        omega
      generalize hdq : (65536 : Int) / E = q at *
      have hqq : decide (n > q - S) = false := decide_eq_false (by omega)
      clear hA hF hl
      go_enter Try.func6, Try.ntmps6
      go_wp2_with (first | (go_at_call 13; refine Calls.mono (HM.out _ HU.out) ?_; rintro e w1 ⟨rfl, hb⟩; rw [hf1]; have HX : Hid (Below w.heap.size w w1 ∧ At w1 w.heap.size #[.int .i64 E, .slice pa L pc, .int .i64 S]) := ⟨HU.out.trans (hb.mono HU.out.size), HB.out.below hb HB.out.lt⟩; have c0 : w1.cell? ⟨w.heap.size, 0, none⟩ = some (.int .i64 E) := HX.out.2.c 0 _ rfl; have c1 : w1.cell? ⟨w.heap.size, 1, none⟩ = some (.slice pa L pc) := HX.out.2.c 1 _ rfl; have c2 : w1.cell? ⟨w.heap.size, 2, none⟩ = some (.int .i64 S) := HX.out.2.c 2 _ rfl; have cl := HX.out.2.lt; clear hb HM HU HB))
      go_quiet (fail)
      have HX2 : Hid (Below w.heap.size w (w1.drewN nq) ∧ At (w1.drewN nq) w.heap.size #[.int .i64 E, .slice pa L pc, .int .i64 S]) := ⟨HX.out.1.trans ⟨rfl, rfl, rfl, Nat.le_refl _, fun _ _ => rfl⟩, HX.out.2.c, HX.out.2.f, HX.out.2.lt⟩
      clear HX c0 c1 c2 cl
      generalize w1.drewN nq = w3 at *
      have c0 : w3.cell? ⟨w.heap.size, 0, none⟩ = some (.int .i64 E) := HX2.out.2.c 0 _ rfl; have c1 : w3.cell? ⟨w.heap.size, 1, none⟩ = some (.slice pa L pc) := HX2.out.2.c 1 _ rfl; have c2 : w3.cell? ⟨w.heap.size, 2, none⟩ = some (.int .i64 S) := HX2.out.2.c 2 _ rfl; have cl := HX2.out.2.lt
      go_wp2_with (first | (go_at_call 14; refine Calls.mono (HY.out _ HX2.out.1) ?_; rintro e w4 ⟨v, rfl, hb, hr⟩; have HZ : Hid (Below w.heap.size w w4 ∧ Rd w4 v (whN L E S cy n) (rowP E cy (evR L n.toNat))) := ⟨HX2.out.1.trans (hb.mono HX2.out.1.size), hr⟩; clear hb hr))
      go_ret2
      exact ⟨_, by rw [HR.out]; rfl, HZ.out.1, HZ.out.2⟩
  · obtain ⟨x1, x2⟩ := whE_2 hf
    have HR : Hid (whE L E S cy n = 2 ∧ whN L E S cy n = 0) := ⟨x1, x2⟩
    by_cases hfb : frB L E S cy = true
    · have hn0 : n < 0 := by
        by_cases h : 0 ≤ n
        · exact absurd ⟨hfb, h⟩ hf
        · omega
      have hn3 : decide (n < 0) = true := decide_eq_true hn0
      clear hA x1 x2 hf
      go_enter Try.func6, Try.ntmps6
      go_wp2_with (first | (go_at_call 13; refine Calls.mono (HM.out _ HU.out) ?_; rintro e w1 ⟨rfl, hb⟩; rw [hfb]; have HX : Hid (Below w.heap.size w w1 ∧ At w1 w.heap.size #[.int .i64 E, .slice pa L pc, .int .i64 S]) := ⟨HU.out.trans (hb.mono HU.out.size), HB.out.below hb HB.out.lt⟩; clear hb HM HU HB))
      go_ret2
      exact ⟨_, by rw [HR.out.1]; rfl, HX.out.1, by rw [HR.out.2]; exact Rd.nil _ _⟩
    · have hfb : frB L E S cy = false := by simpa using hfb
      clear hA x1 x2 hf
      go_enter Try.func6, Try.ntmps6
      go_wp2_with (first | (go_at_call 13; refine Calls.mono (HM.out _ HU.out) ?_; rintro e w1 ⟨rfl, hb⟩; rw [hfb]; have HX : Hid (Below w.heap.size w w1 ∧ At w1 w.heap.size #[.int .i64 E, .slice pa L pc, .int .i64 S]) := ⟨HU.out.trans (hb.mono HU.out.size), HB.out.below hb HB.out.lt⟩; clear hb HM HU HB))
      go_ret2
      exact ⟨_, by rw [HR.out.1]; rfl, HX.out.1, by rw [HR.out.2]; exact Rd.nil _ _⟩
set_option maxHeartbeats 8000000 in
theorem rwhole_any (E S : Int) (pa : Option Addr) (L pc : Nat) (cy : Nat → Int) (n : Int) (w : World) (hA : Nl w w.heap.size pa L cy) (hL : L ≤ 100000000000000) (hn1 : -9223372036854775808 ≤ n) (hn2 : n ≤ 9223372036854775807) :
    Calls Try.prog 7 #[.agg #[.int .i64 E, .slice pa L pc, .int .i64 S], .int .i64 n] w (WhOut w L E S cy n) := by
  have HU : Hid (Below w.heap.size w (w.alloc (.cells #[.int .i64 E, .slice pa L pc, .int .i64 S] 24))) := (Below.refl _ _).alloc (Nat.le_refl _) _
  have HB : Hid (At (w.alloc (.cells #[.int .i64 E, .slice pa L pc, .int .i64 S] 24)) w.heap.size #[.int .i64 E, .slice pa L pc, .int .i64 S]) := At.new _ _ _
  have HM : Hid (∀ W, Below w.heap.size w W → Calls Try.prog 15 #[.agg #[.int .i64 E, .slice pa L pc, .int .i64 S]] W fun e w' => e = .returned (.bool (frB L E S cy)) ∧ Below W.heap.size W w') := fun W hW => fair_any pa L pc cy E S W (hA.up hW) hL
  unfold WhOut
  by_cases hf : frB L E S cy = true ∧ 0 ≤ n
  · obtain ⟨hf1, hf2⟩ := hf
    have hF := frB_fair hf1
    have e1 := hF.e1
    have e2 := hF.e2
    have s1 := hF.s1
    have s2 := hF.s2
    by_cases hl : ¬ (n + S) * E ≤ 65536
    · obtain ⟨x1, x2⟩ := whE_3 ⟨hf1, hf2⟩ hl
      have HR : Hid (whE L E S cy n = 3 ∧ whN L E S cy n = 0) := ⟨x1, x2⟩
      have hm : (n + S) * E = n * E + E * S := by rw [Int.add_mul, Int.mul_comm S E]
      rw [hm] at hl
      by_cases hbig : 65536 < n
      · clear hA hF hl hm
        go_enter Try.func7, Try.ntmps7
        go_wp2_with (first | (go_at_call 15; refine Calls.mono (HM.out _ HU.out) ?_; rintro e w1 ⟨rfl, hb⟩; rw [hf1]; have HX : Hid (Below w.heap.size w w1 ∧ At w1 w.heap.size #[.int .i64 E, .slice pa L pc, .int .i64 S]) := ⟨HU.out.trans (hb.mono HU.out.size), HB.out.below hb HB.out.lt⟩; have c0 : w1.cell? ⟨w.heap.size, 0, none⟩ = some (.int .i64 E) := HX.out.2.c 0 _ rfl; have c1 : w1.cell? ⟨w.heap.size, 1, none⟩ = some (.slice pa L pc) := HX.out.2.c 1 _ rfl; have c2 : w1.cell? ⟨w.heap.size, 2, none⟩ = some (.int .i64 S) := HX.out.2.c 2 _ rfl; have cl := HX.out.2.lt; clear hb HM HU HB))
        go_ret2
        exact ⟨_, by rw [HR.out.1]; rfl, HX.out.1, by rw [HR.out.2]; exact Rd.nil _ _⟩
      obtain ⟨p1, p2⟩ := mul_small (a := n) (b := E) (by omega) (by omega) (by omega) (by omega)
      obtain ⟨p3, p4⟩ := mul_small (a := E) (b := S) (by omega) (by omega) (by omega) (by omega)
      generalize hne : n * E = x at *
      generalize hes : E * S = y at *
      have hlq : 65536 < x + y := by omega
      clear hm
      clear hA hF hl
      go_enter Try.func7, Try.ntmps7
      go_wp2_with (first | (go_at_call 15; refine Calls.mono (HM.out _ HU.out) ?_; rintro e w1 ⟨rfl, hb⟩; rw [hf1]; have HX : Hid (Below w.heap.size w w1 ∧ At w1 w.heap.size #[.int .i64 E, .slice pa L pc, .int .i64 S]) := ⟨HU.out.trans (hb.mono HU.out.size), HB.out.below hb HB.out.lt⟩; have c0 : w1.cell? ⟨w.heap.size, 0, none⟩ = some (.int .i64 E) := HX.out.2.c 0 _ rfl; have c1 : w1.cell? ⟨w.heap.size, 1, none⟩ = some (.slice pa L pc) := HX.out.2.c 1 _ rfl; have c2 : w1.cell? ⟨w.heap.size, 2, none⟩ = some (.int .i64 S) := HX.out.2.c 2 _ rfl; have cl := HX.out.2.lt; clear hb HM HU HB))
      go_ret2
      exact ⟨_, by rw [HR.out.1]; rfl, HX.out.1, by rw [HR.out.2]; exact Rd.nil _ _⟩
    · have hl : (n + S) * E ≤ 65536 := Classical.not_not.1 hl
      have HR : Hid (whE L E S cy n = 0) := whE_0 ⟨hf1, hf2⟩ hl
      have HY : Hid (∀ W, Below w.heap.size w W → Calls Try.prog 16 #[.agg #[.int .i64 E, .slice pa L pc, .int .i64 S], .int .i64 n] W fun e w' => ∃ v, e = .returned v ∧ Below W.heap.size W w' ∧ Rd w' v (whN L E S cy n) (rowP E cy (evR L n.toNat))) := fun W hW => wh_rows hf1 hf2 hl (fun h => by rw [h]; exact rrows_none E S pa L pc W) fun N h1 h2 h3 h4 => by
        have h := rrows_some E S pa L pc cy n.toNat N W (hA.up hW) hF (by omega) (by omega) (by rw [Int.toNat_of_nonneg hf2]; exact h3) h4
        rw [Int.toNat_of_nonneg hf2] at h
        exact h
      have hm : (n + S) * E = n * E + E * S := by rw [Int.add_mul, Int.mul_comm S E]
      rw [hm] at hl
      have h3 : (n + S) * 1 ≤ (n + S) * E := Int.mul_le_mul_of_nonneg_left e1 (by omega)
      rw [hm] at h3
      obtain ⟨p1, p2⟩ := mul_small (a := n) (b := E) (by omega) (by omega) (by omega) (by omega)
      obtain ⟨p3, p4⟩ := mul_small (a := E) (b := S) (by omega) (by omega) (by omega) (by omega)
      have hbig : ¬ 65536 < n := by omega
      generalize hne : n * E = x at *
      generalize hes : E * S = y at *
      have hlq : ¬ 65536 < x + y := by omega
      clear hm
      clear hA hF hl
      go_enter Try.func7, Try.ntmps7
      go_wp2_with (first | (go_at_call 15; refine Calls.mono (HM.out _ HU.out) ?_; rintro e w1 ⟨rfl, hb⟩; rw [hf1]; have HX : Hid (Below w.heap.size w w1 ∧ At w1 w.heap.size #[.int .i64 E, .slice pa L pc, .int .i64 S]) := ⟨HU.out.trans (hb.mono HU.out.size), HB.out.below hb HB.out.lt⟩; have c0 : w1.cell? ⟨w.heap.size, 0, none⟩ = some (.int .i64 E) := HX.out.2.c 0 _ rfl; have c1 : w1.cell? ⟨w.heap.size, 1, none⟩ = some (.slice pa L pc) := HX.out.2.c 1 _ rfl; have c2 : w1.cell? ⟨w.heap.size, 2, none⟩ = some (.int .i64 S) := HX.out.2.c 2 _ rfl; have cl := HX.out.2.lt; clear hb HM HU HB) | (go_at_call 16; refine Calls.mono (HY.out _ HX.out.1) ?_; rintro e w4 ⟨v, rfl, hb, hr⟩; have HZ : Hid (Below w.heap.size w w4 ∧ Rd w4 v (whN L E S cy n) (rowP E cy (evR L n.toNat))) := ⟨HX.out.1.trans (hb.mono HX.out.1.size), hr⟩; clear hb hr))
      go_ret2
      exact ⟨_, by rw [HR.out]; rfl, HZ.out.1, HZ.out.2⟩
  · obtain ⟨x1, x2⟩ := whE_2 hf
    have HR : Hid (whE L E S cy n = 2 ∧ whN L E S cy n = 0) := ⟨x1, x2⟩
    by_cases hfb : frB L E S cy = true
    · have hn0 : n < 0 := by
        by_cases h : 0 ≤ n
        · exact absurd ⟨hfb, h⟩ hf
        · omega
      have hn3 : decide (n < 0) = true := decide_eq_true hn0
      clear hA x1 x2 hf
      go_enter Try.func7, Try.ntmps7
      go_wp2_with (first | (go_at_call 15; refine Calls.mono (HM.out _ HU.out) ?_; rintro e w1 ⟨rfl, hb⟩; rw [hfb]; have HX : Hid (Below w.heap.size w w1 ∧ At w1 w.heap.size #[.int .i64 E, .slice pa L pc, .int .i64 S]) := ⟨HU.out.trans (hb.mono HU.out.size), HB.out.below hb HB.out.lt⟩; clear hb HM HU HB))
      go_ret2
      exact ⟨_, by rw [HR.out.1]; rfl, HX.out.1, by rw [HR.out.2]; exact Rd.nil _ _⟩
    · have hfb : frB L E S cy = false := by simpa using hfb
      clear hA x1 x2 hf
      go_enter Try.func7, Try.ntmps7
      go_wp2_with (first | (go_at_call 15; refine Calls.mono (HM.out _ HU.out) ?_; rintro e w1 ⟨rfl, hb⟩; rw [hfb]; have HX : Hid (Below w.heap.size w w1 ∧ At w1 w.heap.size #[.int .i64 E, .slice pa L pc, .int .i64 S]) := ⟨HU.out.trans (hb.mono HU.out.size), HB.out.below hb HB.out.lt⟩; clear hb HM HU HB))
      go_ret2
      exact ⟨_, by rw [HR.out.1]; rfl, HX.out.1, by rw [HR.out.2]; exact Rd.nil _ _⟩
end Go.Proofs.Ytnfnjhaaaenldaa.Ro
