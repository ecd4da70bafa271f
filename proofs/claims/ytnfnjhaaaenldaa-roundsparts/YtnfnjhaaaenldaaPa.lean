/- What is issued while rounds begin, while as many are under way as can be, and while they run out (Parts), as the program and as the document's own answer tell it, read off by the walk. Conditions: the plan lies in memory. -/
import Derived.Test.YtnfnjhaaaenldaaWh
namespace Go.Proofs.Ytnfnjhaaaenldaa.Ro
open Go.ChangeShapes Go.WideShapes Go.ChangeAt Go.RowKit
open _root_.Go.Proofs.Ytnfnjhaaaenldaa.Op _root_.Go.Proofs.Ytnfnjhaaaenldaa.So
open _root_.Go.Proofs.Ytnfnjhaaaenldaa.Sp (Pr)
set_option maxRecDepth 20000

/-- Which error. -/
def paE (L : Nat) (E S : Int) (cy : Nat → Int) : Int := if frB L E S cy = true then (if 3 * E * S ≤ 65536 then 0 else 3) else 2
/-- How many rows the first part has, and the last. -/
def paN (L : Nat) (E S : Int) (cy : Nat → Int) : Nat := if paE L E S cy = 0 then ((S - 1) * E).toNat else 0
/-- How many the kernel has. -/
def paK (L : Nat) (E S : Int) (cy : Nat → Int) : Nat := if paE L E S cy = 0 then E.toNat else 0
def PaOut (w : World) (L : Nat) (E S : Int) (cy : Nat → Int) (r : Ending) (w' : World) : Prop :=
  ∃ v1 v2 v3, r = .returned (.tuple #[v1, v2, v3, .int .i64 (paE L E S cy)]) ∧ Below w.heap.size w w' ∧ Rd w' v1 (paN L E S cy) (rowP E cy (evR L S.toNat)) ∧ Rd w' v2 (paK L E S cy) (fun c => rowP E cy (evR L S.toNat) (paN L E S cy + c)) ∧ Rd w' v3 (paN L E S cy) (fun c => rowP E cy (evR L S.toNat) (paN L E S cy + paK L E S cy + c))
theorem pa_2 {L : Nat} {E S : Int} {cy : Nat → Int} (h : ¬ frB L E S cy = true) : paE L E S cy = 2 ∧ paN L E S cy = 0 ∧ paK L E S cy = 0 := by
  have e : paE L E S cy = 2 := if_neg h
  exact ⟨e, if_neg (by rw [e]; omega), if_neg (by rw [e]; omega)⟩
theorem pa_3 {L : Nat} {E S : Int} {cy : Nat → Int} (h : frB L E S cy = true) (h2 : ¬ 3 * E * S ≤ 65536) : paE L E S cy = 3 ∧ paN L E S cy = 0 ∧ paK L E S cy = 0 := by
  have e : paE L E S cy = 3 := (if_pos h).trans (if_neg h2)
  exact ⟨e, if_neg (by rw [e]; omega), if_neg (by rw [e]; omega)⟩
theorem pa_0 {L : Nat} {E S : Int} {cy : Nat → Int} (h : frB L E S cy = true) (h2 : 3 * E * S ≤ 65536) : paE L E S cy = 0 ∧ ((paN L E S cy : Nat) : Int) = (S - 1) * E ∧ ((paK L E S cy : Nat) : Int) = E := by
  have hF := frB_fair h
  have h3 := hF.e1
  have h4 := hF.s1
  have e : paE L E S cy = 0 := (if_pos h).trans (if_pos h2)
  have e1 : paN L E S cy = ((S - 1) * E).toNat := if_pos e
  have e2 : paK L E S cy = E.toNat := if_pos e
  exact ⟨e, by rw [e1, Int.toNat_of_nonneg (Int.mul_nonneg (by omega) (by omega))], by rw [e2, Int.toNat_of_nonneg (by omega)]⟩
theorem Rd.sub {W : World} {b o N cap fr len cap' : Nat} {row : Nat → List Pr} (h : Rd W (.slice (some ⟨b, o, none⟩) N cap) N row) (h1 : fr + len ≤ N) (h2 : len ≤ cap') : Rd W (.slice (some ⟨b, o + fr, none⟩) len cap') len (fun c => row (fr + c)) := by
  obtain ⟨a, c, e, h3, h4⟩ := h.is
  injection e with e _ _
  subst e
  refine ⟨_, cap', rfl, h2, fun h0 => ?_⟩
  obtain ⟨b2, o2, e2, hb, hc⟩ := h4 (by omega)
  injection e2 with e2
  injection e2 with e2 e3
  subst e2 e3
  refine ⟨b, o + fr, rfl, hb, fun c hcl => ?_⟩
  rw [Nat.add_assoc]
  exact hc (fr + c) (by omega)
theorem results_tmp4 {fn : Func} {t u v x : Tmp} (h : fn.results = #[.tmp t, .tmp u, .tmp v, .tmp x]) (tmps : Array Value) (P : Program) (w : World) :
    (results fn tmps).run P w = .ok (.tuple #[tmps.getD t undef, tmps.getD u undef, tmps.getD v undef, tmps.getD x undef]) w := by
  simp [results, h]
theorem Rd.zero {W : World} {a : Option Addr} {cap : Nat} (row : Nat → List Pr) : Rd W (.slice a 0 cap) 0 row := ⟨a, cap, rfl, Nat.zero_le _, fun h => by omega⟩
set_option maxHeartbeats 8000000 in
theorem parts_any (E S : Int) (pa : Option Addr) (L pc : Nat) (cy : Nat → Int) (w : World) (hA : Nl w w.heap.size pa L cy) :
    Calls Try.prog 8 #[.agg #[.int .i64 E, .slice pa L pc, .int .i64 S]] w (PaOut w L E S cy) := by
  have HU : Hid (Below w.heap.size w (w.alloc (.cells #[.int .i64 E, .slice pa L pc, .int .i64 S] 24))) := (Below.refl _ _).alloc (Nat.le_refl _) _
  have HB : Hid (At (w.alloc (.cells #[.int .i64 E, .slice pa L pc, .int .i64 S] 24)) w.heap.size #[.int .i64 E, .slice pa L pc, .int .i64 S]) := At.new _ _ _
  have HM : Hid (∀ W, Below w.heap.size w W → Calls Try.prog 13 #[.agg #[.int .i64 E, .slice pa L pc, .int .i64 S]] W fun e w' => e = .returned (.bool (frB L E S cy)) ∧ Below W.heap.size W w') := fun W hW => mayBe_any pa L pc cy E S W (hA.up hW)
  unfold PaOut
  by_cases hf : frB L E S cy = true
  · have hF := frB_fair hf
    have e1 := hF.e1
    have e2 := hF.e2
    have s1 := hF.s1
    have s2 := hF.s2
    obtain ⟨p1, p2⟩ := mul_small (a := 3 * E) (b := S) (by omega) (by omega) (by omega) (by omega)
    by_cases hl : ¬ 3 * E * S ≤ 65536
    · have HR : Hid _ := pa_3 hf hl
      have hl' : 65536 < 3 * E * S := by omega
      generalize hes : 3 * E * S = y at *
      clear hA hF hl
      go_enter Try.func8, Try.ntmps8
      go_wp2_with (first | (go_at_call 13; refine Calls.mono (HM.out _ HU.out) ?_; rintro e w1 ⟨rfl, hb⟩; rw [hf]; have HX : Hid (Below w.heap.size w w1 ∧ At w1 w.heap.size #[.int .i64 E, .slice pa L pc, .int .i64 S]) := ⟨HU.out.trans (hb.mono HU.out.size), HB.out.below hb HB.out.lt⟩; have c0 : w1.cell? ⟨w.heap.size, 0, none⟩ = some (.int .i64 E) := HX.out.2.c 0 _ rfl; have c1 : w1.cell? ⟨w.heap.size, 1, none⟩ = some (.slice pa L pc) := HX.out.2.c 1 _ rfl; have c2 : w1.cell? ⟨w.heap.size, 2, none⟩ = some (.int .i64 S) := HX.out.2.c 2 _ rfl; have cl := HX.out.2.lt; clear hb HM HU HB))
      (try simp only [Exit.inBlock, Exit.then]); refine bodyPost_ret (results_tmp4 rfl _ _ _) rfl ?_
      exact ⟨_, _, _, by rw [HR.out.1]; rfl, HX.out.1, by rw [HR.out.2.1]; exact Rd.nil _ _, by rw [HR.out.2.2]; exact Rd.nil _ _, by rw [HR.out.2.1]; exact Rd.nil _ _⟩
    · have hl : 3 * E * S ≤ 65536 := Classical.not_not.1 hl
      obtain ⟨r1, r2, r3⟩ := pa_0 hf hl
      have HR : Hid (paE L E S cy = 0) := r1
      obtain ⟨s, hs⟩ : ∃ s : Nat, S = (s : Int) := ⟨S.toNat, by omega⟩
      have hes : E * S = S * E := Int.mul_comm _ _
      have h3 : 3 * E * S = 3 * (S * E) := by rw [Int.mul_assoc, hes]
      have h4 : S * E = (S - 1) * E + E := by rw [Int.sub_mul]; omega
      have h5 : (S - 1 + S) * E = (S - 1) * E + S * E := Int.add_mul _ _ _
      have h6 : S * 1 ≤ S * E := Int.mul_le_mul_of_nonneg_left e1 (by omega)
      generalize hn1 : paN L E S cy = n1 at *
      generalize hk : paK L E S cy = k at *
      have hN : ((n1 + k + n1 : Nat) : Int) = (S - 1 + S) * E := by omega
      have HY : Hid (∀ W, Below w.heap.size w W → Calls Try.prog 14 #[.agg #[.int .i64 E, .slice pa L pc, .int .i64 S], .int .i64 S] W fun e w' => ∃ v, e = .returned v ∧ Below W.heap.size W w' ∧ Rd w' v (n1 + k + n1) (rowP E cy (evR L S.toNat))) := fun W hW => by
        have h := rowsOf_some E S pa L pc cy s (n1 + k + n1) W (hA.up hW) hF (by omega) (by omega) (by rw [← hs]; exact hN) (by omega)
        rw [← hs] at h
        have h7 : S.toNat = s := by omega
        rw [h7]
        exact h
      have z1 : (S - 1) * E = (n1 : Int) := r2.symm
      obtain ⟨tq, hto⟩ : ∃ tq, tq = n1 + k := ⟨_, rfl⟩
      have z2 : S * E = (tq : Int) := by omega
      have z3 : 3 * E * S ≤ 65536 := hl
      have z4 : (n1 : Int) + E = (tq : Int) := by omega
      have z5 : (n1 : Int) ≤ 65536 := by omega
      have z6 : (tq : Int) ≤ 65536 := by omega
      have z7 : n1 ≤ tq := by omega
      have HT : Hid (tq = n1 + k) := hto
      generalize hes3 : 3 * E * S = y at *
      clear hA hF hl r1 r2 r3 hs hes h3 h4 h5 h6 hN hn1 hk hto
      go_enter Try.func8, Try.ntmps8
      go_upto_region 6 with (first | (go_at_call 13; refine Calls.mono (HM.out _ HU.out) ?_; rintro e w1 ⟨rfl, hb⟩; rw [hf]; have HX : Hid (Below w.heap.size w w1 ∧ At w1 w.heap.size #[.int .i64 E, .slice pa L pc, .int .i64 S]) := ⟨HU.out.trans (hb.mono HU.out.size), HB.out.below hb HB.out.lt⟩; have c0 : w1.cell? ⟨w.heap.size, 0, none⟩ = some (.int .i64 E) := HX.out.2.c 0 _ rfl; have c1 : w1.cell? ⟨w.heap.size, 1, none⟩ = some (.slice pa L pc) := HX.out.2.c 1 _ rfl; have c2 : w1.cell? ⟨w.heap.size, 2, none⟩ = some (.int .i64 S) := HX.out.2.c 2 _ rfl; have cl := HX.out.2.lt; clear hb HM HU HB) | (go_at_call 14; refine Calls.mono (HY.out _ HX.out.1) ?_; rintro e w4 ⟨v, rfl, hb, hr⟩; have HZ : Hid (Below w.heap.size w w4 ∧ Rd w4 v (n1 + k + n1) (rowP E cy (evR L S.toNat)) ∧ At w4 w.heap.size #[.int .i64 E, .slice pa L pc, .int .i64 S]) := ⟨HX.out.1.trans (hb.mono HX.out.1.size), hr, HX.out.2.below hb HX.out.2.lt⟩; clear hb hr c0 c1 c2 cl))
      clear HY HX
      have c0 : w4.cell? ⟨w.heap.size, 0, none⟩ = some (.int .i64 E) := HZ.out.2.2.c 0 _ rfl; have c1 : w4.cell? ⟨w.heap.size, 1, none⟩ = some (.slice pa L pc) := HZ.out.2.2.c 1 _ rfl; have c2 : w4.cell? ⟨w.heap.size, 2, none⟩ = some (.int .i64 S) := HZ.out.2.2.c 2 _ rfl; have cl := HZ.out.2.2.lt
      obtain ⟨a, cap, rfl, hcap, hd⟩ := HZ.out.2.1.is
      obtain ⟨b, of, rfl, -, -⟩ := hd (by have := HT.out; omega)
      obtain ⟨N, hN⟩ : ∃ N, N = n1 + k + n1 := ⟨_, rfl⟩
      rw [← hN] at HZ hcap ⊢
      have HN : Hid (N = tq + n1) := by show N = tq + n1; have := HT.out; omega
      have v1 : n1 ≤ N := by omega
      have v2 : tq ≤ N := by have := HN.out; omega
      have v3 : (n1 : Int) ≤ (N : Int) := by omega
      have v4 : (tq : Int) ≤ (N : Int) := by omega
      have v5 : (N : Int) ≤ (cap : Int) := by omega
      have v6 : (n1 : Int) ≤ (tq : Int) := by omega
      have v7 : N ≤ 200000 := by have := HN.out; omega
      have v8 : (N : Int) ≤ 200000 := by omega
      clear hN
      go_quiet (fail)
      have HZ2 : Hid (Below w.heap.size w (w4.drewN nq) ∧ Rd (w4.drewN nq) (.slice (some ⟨b, of, none⟩) N cap) N (rowP E cy (evR L S.toNat))) := ⟨HZ.out.1.trans ⟨rfl, rfl, rfl, Nat.le_refl _, fun _ _ => rfl⟩, HZ.out.2.1.up ⟨rfl, rfl, rfl, Nat.le_refl _, fun _ _ => rfl⟩⟩
      clear HZ c0 c1 c2 cl
      generalize w4.drewN nq = w5 at *
      go_wp2_with fail
      obtain rfl | hct : tq = cap ∨ ¬ cap = tq := by omega
      · go_quiet (fail)
        have HZ3 : Hid (Below w.heap.size w (w5.drewN nq) ∧ Rd (w5.drewN nq) (.slice (some ⟨b, of, none⟩) N tq) N (rowP E cy (evR L S.toNat))) := ⟨HZ2.out.1.trans ⟨rfl, rfl, rfl, Nat.le_refl _, fun _ _ => rfl⟩, HZ2.out.2.up ⟨rfl, rfl, rfl, Nat.le_refl _, fun _ _ => rfl⟩⟩
        generalize w5.drewN nq = w6 at *
        go_wp2_with fail
        (try simp only [Exit.inBlock, Exit.then]); refine bodyPost_ret (results_tmp4 rfl _ _ _) rfl ?_
        have t1 := HT.out
        have t2 := HN.out
        have t3 : tq - n1 = k := by omega
        have t4 : N - tq = n1 := by omega
        have h0 : n1 = 0 := by omega
        rw [t3]
        refine ⟨_, _, _, by rw [HR.out]; rfl, HZ3.out.1, ?_, ?_, ?_⟩
        · have h := HZ3.out.2.sub (fr := 0) (len := n1) (cap' := n1) (by omega) (by omega)
          simp only [Nat.zero_add, Nat.add_zero] at h
          exact h
        · exact HZ3.out.2.sub (by omega) (by omega)
        · rw [← t1]
          subst h0; exact Rd.zero _
      · go_quiet (fail)
        have HZ3 : Hid (Below w.heap.size w (w5.drewN nq) ∧ Rd (w5.drewN nq) (.slice (some ⟨b, of, none⟩) N cap) N (rowP E cy (evR L S.toNat))) := ⟨HZ2.out.1.trans ⟨rfl, rfl, rfl, Nat.le_refl _, fun _ _ => rfl⟩, HZ2.out.2.up ⟨rfl, rfl, rfl, Nat.le_refl _, fun _ _ => rfl⟩⟩
        generalize w5.drewN nq = w6 at *
        go_wp2_with fail
        (try simp only [Exit.inBlock, Exit.then]); refine bodyPost_ret (results_tmp4 rfl _ _ _) rfl ?_
        have t1 := HT.out
        have t2 := HN.out
        have t3 : tq - n1 = k := by omega
        have t4 : N - tq = n1 := by omega
        rw [t3, t4]
        refine ⟨_, _, _, by rw [HR.out]; rfl, HZ3.out.1, ?_, ?_, ?_⟩
        · have h := HZ3.out.2.sub (fr := 0) (len := n1) (cap' := n1) (by omega) (by omega)
          simp only [Nat.zero_add, Nat.add_zero] at h
          exact h
        · exact HZ3.out.2.sub (by omega) (by omega)
        · rw [← t1]
          first | exact HZ3.out.2.sub (by omega) (by omega) | (rw [if_neg hct]; exact HZ3.out.2.sub (by omega) (by omega)) | (have h0 : n1 = 0 := (by omega); subst h0; exact Rd.zero _)
  · have HR : Hid _ := pa_2 hf
    have hf : frB L E S cy = false := by simpa using hf
    clear hA
    go_enter Try.func8, Try.ntmps8
    go_wp2_with (first | (go_at_call 13; refine Calls.mono (HM.out _ HU.out) ?_; rintro e w1 ⟨rfl, hb⟩; rw [hf]; have HX : Hid (Below w.heap.size w w1 ∧ At w1 w.heap.size #[.int .i64 E, .slice pa L pc, .int .i64 S]) := ⟨HU.out.trans (hb.mono HU.out.size), HB.out.below hb HB.out.lt⟩; clear hb HM HU HB))
    (try simp only [Exit.inBlock, Exit.then]); refine bodyPost_ret (results_tmp4 rfl _ _ _) rfl ?_
    exact ⟨_, _, _, by rw [HR.out.1]; rfl, HX.out.1, by rw [HR.out.2.1]; exact Rd.nil _ _, by rw [HR.out.2.2]; exact Rd.nil _ _, by rw [HR.out.2.1]; exact Rd.nil _ _⟩
set_option maxHeartbeats 8000000 in
theorem rparts_any (E S : Int) (pa : Option Addr) (L pc : Nat) (cy : Nat → Int) (w : World) (hA : Nl w w.heap.size pa L cy) (hL : L ≤ 100000000000000) :
    Calls Try.prog 9 #[.agg #[.int .i64 E, .slice pa L pc, .int .i64 S]] w (PaOut w L E S cy) := by
  have HU : Hid (Below w.heap.size w (w.alloc (.cells #[.int .i64 E, .slice pa L pc, .int .i64 S] 24))) := (Below.refl _ _).alloc (Nat.le_refl _) _
  have HB : Hid (At (w.alloc (.cells #[.int .i64 E, .slice pa L pc, .int .i64 S] 24)) w.heap.size #[.int .i64 E, .slice pa L pc, .int .i64 S]) := At.new _ _ _
  have HM : Hid (∀ W, Below w.heap.size w W → Calls Try.prog 15 #[.agg #[.int .i64 E, .slice pa L pc, .int .i64 S]] W fun e w' => e = .returned (.bool (frB L E S cy)) ∧ Below W.heap.size W w') := fun W hW => fair_any pa L pc cy E S W (hA.up hW) hL
  unfold PaOut
  by_cases hf : frB L E S cy = true
  · have hF := frB_fair hf
    have e1 := hF.e1
    have e2 := hF.e2
    have s1 := hF.s1
    have s2 := hF.s2
    obtain ⟨p1, p2⟩ := mul_small (a := 3 * E) (b := S) (by omega) (by omega) (by omega) (by omega)
    by_cases hl : ¬ 3 * E * S ≤ 65536
    · have HR : Hid _ := pa_3 hf hl
      have hl' : 65536 < 3 * E * S := by omega
      generalize hes : 3 * E * S = y at *
      clear hA hF hl
      go_enter Try.func9, Try.ntmps9
      go_wp2_with (first | (go_at_call 15; refine Calls.mono (HM.out _ HU.out) ?_; rintro e w1 ⟨rfl, hb⟩; rw [hf]; have HX : Hid (Below w.heap.size w w1 ∧ At w1 w.heap.size #[.int .i64 E, .slice pa L pc, .int .i64 S]) := ⟨HU.out.trans (hb.mono HU.out.size), HB.out.below hb HB.out.lt⟩; have c0 : w1.cell? ⟨w.heap.size, 0, none⟩ = some (.int .i64 E) := HX.out.2.c 0 _ rfl; have c1 : w1.cell? ⟨w.heap.size, 1, none⟩ = some (.slice pa L pc) := HX.out.2.c 1 _ rfl; have c2 : w1.cell? ⟨w.heap.size, 2, none⟩ = some (.int .i64 S) := HX.out.2.c 2 _ rfl; have cl := HX.out.2.lt; clear hb HM HU HB))
      (try simp only [Exit.inBlock, Exit.then]); refine bodyPost_ret (results_tmp4 rfl _ _ _) rfl ?_
      exact ⟨_, _, _, by rw [HR.out.1]; rfl, HX.out.1, by rw [HR.out.2.1]; exact Rd.nil _ _, by rw [HR.out.2.2]; exact Rd.nil _ _, by rw [HR.out.2.1]; exact Rd.nil _ _⟩
    · have hl : 3 * E * S ≤ 65536 := Classical.not_not.1 hl
      obtain ⟨r1, r2, r3⟩ := pa_0 hf hl
      have HR : Hid (paE L E S cy = 0) := r1
      obtain ⟨s, hs⟩ : ∃ s : Nat, S = (s : Int) := ⟨S.toNat, by omega⟩
      have hes : E * S = S * E := Int.mul_comm _ _
      have h3 : 3 * E * S = 3 * (S * E) := by rw [Int.mul_assoc, hes]
      have h4 : S * E = (S - 1) * E + E := by rw [Int.sub_mul]; omega
      have h5 : (S - 1 + S) * E = (S - 1) * E + S * E := Int.add_mul _ _ _
      have h6 : S * 1 ≤ S * E := Int.mul_le_mul_of_nonneg_left e1 (by omega)
      generalize hn1 : paN L E S cy = n1 at *
      generalize hk : paK L E S cy = k at *
      have hN : ((n1 + k + n1 : Nat) : Int) = (S - 1 + S) * E := by omega
      have HY : Hid (∀ W, Below w.heap.size w W → Calls Try.prog 16 #[.agg #[.int .i64 E, .slice pa L pc, .int .i64 S], .int .i64 S] W fun e w' => ∃ v, e = .returned v ∧ Below W.heap.size W w' ∧ Rd w' v (n1 + k + n1) (rowP E cy (evR L S.toNat))) := fun W hW => by
        have h := rrows_some E S pa L pc cy s (n1 + k + n1) W (hA.up hW) hF (by omega) (by omega) (by rw [← hs]; exact hN) (by omega)
        rw [← hs] at h
        have h7 : S.toNat = s := by omega
        rw [h7]
        exact h
      have z1 : (S - 1) * E = (n1 : Int) := r2.symm
      obtain ⟨tq, hto⟩ : ∃ tq, tq = n1 + k := ⟨_, rfl⟩
      have z2 : S * E = (tq : Int) := by omega
      have z3 : 3 * E * S ≤ 65536 := hl
      have z4 : (n1 : Int) + E = (tq : Int) := by omega
      have z5 : (n1 : Int) ≤ 65536 := by omega
      have z6 : (tq : Int) ≤ 65536 := by omega
      have z7 : n1 ≤ tq := by omega
      have HT : Hid (tq = n1 + k) := hto
      generalize hes3 : 3 * E * S = y at *
      clear hA hF hl r1 r2 r3 hs hes h3 h4 h5 h6 hN hn1 hk hto
      go_enter Try.func9, Try.ntmps9
      go_upto_region 6 with (first | (go_at_call 15; refine Calls.mono (HM.out _ HU.out) ?_; rintro e w1 ⟨rfl, hb⟩; rw [hf]; have HX : Hid (Below w.heap.size w w1 ∧ At w1 w.heap.size #[.int .i64 E, .slice pa L pc, .int .i64 S]) := ⟨HU.out.trans (hb.mono HU.out.size), HB.out.below hb HB.out.lt⟩; have c0 : w1.cell? ⟨w.heap.size, 0, none⟩ = some (.int .i64 E) := HX.out.2.c 0 _ rfl; have c1 : w1.cell? ⟨w.heap.size, 1, none⟩ = some (.slice pa L pc) := HX.out.2.c 1 _ rfl; have c2 : w1.cell? ⟨w.heap.size, 2, none⟩ = some (.int .i64 S) := HX.out.2.c 2 _ rfl; have cl := HX.out.2.lt; clear hb HM HU HB) | (go_at_call 16; refine Calls.mono (HY.out _ HX.out.1) ?_; rintro e w4 ⟨v, rfl, hb, hr⟩; have HZ : Hid (Below w.heap.size w w4 ∧ Rd w4 v (n1 + k + n1) (rowP E cy (evR L S.toNat)) ∧ At w4 w.heap.size #[.int .i64 E, .slice pa L pc, .int .i64 S]) := ⟨HX.out.1.trans (hb.mono HX.out.1.size), hr, HX.out.2.below hb HX.out.2.lt⟩; clear hb hr c0 c1 c2 cl))
      clear HY HX
      have c0 : w4.cell? ⟨w.heap.size, 0, none⟩ = some (.int .i64 E) := HZ.out.2.2.c 0 _ rfl; have c1 : w4.cell? ⟨w.heap.size, 1, none⟩ = some (.slice pa L pc) := HZ.out.2.2.c 1 _ rfl; have c2 : w4.cell? ⟨w.heap.size, 2, none⟩ = some (.int .i64 S) := HZ.out.2.2.c 2 _ rfl; have cl := HZ.out.2.2.lt
      obtain ⟨a, cap, rfl, hcap, hd⟩ := HZ.out.2.1.is
      obtain ⟨b, of, rfl, -, -⟩ := hd (by have := HT.out; omega)
      obtain ⟨N, hN⟩ : ∃ N, N = n1 + k + n1 := ⟨_, rfl⟩
      rw [← hN] at HZ hcap ⊢
      have HN : Hid (N = tq + n1) := by show N = tq + n1; have := HT.out; omega
      have v1 : n1 ≤ N := by omega
      have v2 : tq ≤ N := by have := HN.out; omega
      have v3 : (n1 : Int) ≤ (N : Int) := by omega
      have v4 : (tq : Int) ≤ (N : Int) := by omega
      have v5 : (N : Int) ≤ (cap : Int) := by omega
      have v6 : (n1 : Int) ≤ (tq : Int) := by omega
      have v7 : N ≤ 200000 := by have := HN.out; omega
      have v8 : (N : Int) ≤ 200000 := by omega
      clear hN
      go_wp2_with fail
      obtain rfl | hct : tq = cap ∨ ¬ cap = tq := by omega
      · go_quiet (fail)
        have HZ3 : Hid (Below w.heap.size w (w4.drewN nq) ∧ Rd (w4.drewN nq) (.slice (some ⟨b, of, none⟩) N tq) N (rowP E cy (evR L S.toNat))) := ⟨HZ.out.1.trans ⟨rfl, rfl, rfl, Nat.le_refl _, fun _ _ => rfl⟩, HZ.out.2.1.up ⟨rfl, rfl, rfl, Nat.le_refl _, fun _ _ => rfl⟩⟩
        generalize w4.drewN nq = w6 at *
        go_wp2_with fail
        (try simp only [Exit.inBlock, Exit.then]); refine bodyPost_ret (results_tmp4 rfl _ _ _) rfl ?_
        have t1 := HT.out
        have t2 := HN.out
        have t3 : tq - n1 = k := by omega
        have t4 : N - tq = n1 := by omega
        have h0 : n1 = 0 := by omega
        rw [t3]
        refine ⟨_, _, _, by rw [HR.out]; rfl, HZ3.out.1, ?_, ?_, ?_⟩
        · have h := HZ3.out.2.sub (fr := 0) (len := n1) (cap' := tq) (by omega) (by omega)
          simp only [Nat.zero_add, Nat.add_zero] at h
          exact h
        · exact HZ3.out.2.sub (by omega) (by omega)
        · rw [← t1]
          subst h0; exact Rd.zero _
      · go_quiet (fail)
        have HZ3 : Hid (Below w.heap.size w (w4.drewN nq) ∧ Rd (w4.drewN nq) (.slice (some ⟨b, of, none⟩) N cap) N (rowP E cy (evR L S.toNat))) := ⟨HZ.out.1.trans ⟨rfl, rfl, rfl, Nat.le_refl _, fun _ _ => rfl⟩, HZ.out.2.1.up ⟨rfl, rfl, rfl, Nat.le_refl _, fun _ _ => rfl⟩⟩
        generalize w4.drewN nq = w6 at *
        go_wp2_with fail
        (try simp only [Exit.inBlock, Exit.then]); refine bodyPost_ret (results_tmp4 rfl _ _ _) rfl ?_
        have t1 := HT.out
        have t2 := HN.out
        have t3 : tq - n1 = k := by omega
        have t4 : N - tq = n1 := by omega
        rw [t3, t4]
        refine ⟨_, _, _, by rw [HR.out]; rfl, HZ3.out.1, ?_, ?_, ?_⟩
        · have h := HZ3.out.2.sub (fr := 0) (len := n1) (cap' := cap) (by omega) (by omega)
          simp only [Nat.zero_add, Nat.add_zero] at h
          exact h
        · exact HZ3.out.2.sub (by omega) (by omega)
        · rw [← t1]
          first | exact HZ3.out.2.sub (by omega) (by omega) | (rw [if_neg hct]; exact HZ3.out.2.sub (by omega) (by omega)) | (have h0 : n1 = 0 := (by omega); subst h0; exact Rd.zero _)
  · have HR : Hid _ := pa_2 hf
    have hf : frB L E S cy = false := by simpa using hf
    clear hA
    go_enter Try.func9, Try.ntmps9
    go_wp2_with (first | (go_at_call 15; refine Calls.mono (HM.out _ HU.out) ?_; rintro e w1 ⟨rfl, hb⟩; rw [hf]; have HX : Hid (Below w.heap.size w w1 ∧ At w1 w.heap.size #[.int .i64 E, .slice pa L pc, .int .i64 S]) := ⟨HU.out.trans (hb.mono HU.out.size), HB.out.below hb HB.out.lt⟩; clear hb HM HU HB))
    (try simp only [Exit.inBlock, Exit.then]); refine bodyPost_ret (results_tmp4 rfl _ _ _) rfl ?_
    exact ⟨_, _, _, by rw [HR.out.1]; rfl, HX.out.1, by rw [HR.out.2.1]; exact Rd.nil _ _, by rw [HR.out.2.2]; exact Rd.nil _ _, by rw [HR.out.2.1]; exact Rd.nil _ _⟩
end Go.Proofs.Ytnfnjhaaaenldaa.Ro
