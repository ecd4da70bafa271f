/- RoundsParts, as the call of the statement walks it: any number of rounds is the first part, the kernel so many times, and the last part. Conditions: the plan lies in memory. -/
import Derived.Test.YtnfnjhaaaenldaaPp
import Derived.Test.YtnfnjhaaaenldaaLe
namespace Go.Proofs.Ytnfnjhaaaenldaa.Ro
open Go.ChangeShapes Go.WideShapes Go.ChangeAt Go.RowKit
open _root_.Go.Proofs.Ytnfnjhaaaenldaa.Op _root_.Go.Proofs.Ytnfnjhaaaenldaa.So
open _root_.Go.Proofs.Ytnfnjhaaaenldaa.Sp (Pr)
set_option maxRecDepth 20000

theorem row_small {E : Int} {cy : Nat → Int} {L n : Nat} (hL : L ≤ 64) (hn : n ≤ 1000000) (c : Nat) : (rowP E cy (evR L n) c).length ≤ 1000000000 ∧ ∀ x ∈ rowP E cy (evR L n) c, 0 ≤ x.2 ∧ x.2 ≤ 1000000000 := by
  refine ⟨Nat.le_trans (rowP_len _ _ _ _) ?_, fun x hx => ?_⟩
  · rw [evR_len]
    have := Nat.mul_le_mul hn hL
    omega
  · obtain ⟨i, r, -, hr, rfl, -⟩ := mem_rowR.1 hx
    exact ⟨by show (0 : Int) ≤ r; omega, by show (r : Int) ≤ _; omega⟩
/-- The values of a list of rows. -/
theorem Rd.vals {W : World} {v : Value} {N : Nat} {row : Nat → List Pr} (h : Rd W v N row) : ∃ (ao : Option Addr) (c : Nat) (us : List Value), v = .slice ao N c ∧ us.length = N ∧ (ao = none → N = 0) ∧ (∀ a, ao = some a → ∀ j u, us[j]? = some u → W.cell? (a.add j) = some u) ∧ (∀ c u, us[c]? = some u → Sl W u (row c)) ∧ ∀ u ∈ us, u.oneCell' = true := by
  obtain ⟨ao, cap, e, -, hd⟩ := h.is
  by_cases h0 : N = 0
  · subst h0
    exact ⟨ao, cap, [], e, rfl, fun _ => rfl, fun _ _ j u hu => by simp at hu, fun c u hu => by simp at hu, fun u hu => by simp at hu⟩
  · obtain ⟨b, o, rfl, hb, hc⟩ := hd (by omega)
    have hex : ∀ c : Nat, ∃ u : Value, c < N → W.cell? ⟨b, o + c, none⟩ = some u ∧ Sl W u (row c) := fun c => by
      by_cases hcN : c < N
      · obtain ⟨u, hu⟩ := hc c hcN
        exact ⟨u, fun _ => hu⟩
      · exact ⟨.slice none 0 0, fun h => absurd h hcN⟩
    obtain ⟨f, hu⟩ := Classical.axiomOfChoice hex
    have hget : ∀ (c : Nat) (u : Value), ((List.range N).map f)[c]? = some u → c < N ∧ f c = u := fun c u e => by
      have hcN : c < N := by
        rcases Nat.lt_or_ge c N with h | h
        · exact h
        · rw [List.getElem?_eq_none (by simpa using h)] at e; cases e
      exact ⟨hcN, by simpa [hcN] using e⟩
    refine ⟨_, cap, (List.range N).map f, e, by simp, (fun h => nomatch h), fun a ha j u he => ?_, fun c u he => ?_, fun u hm => ?_⟩
    · injection ha with ha
      subst ha
      obtain ⟨h1, rfl⟩ := hget j u he
      rw [show (⟨b, o, none⟩ : Addr).add j = ⟨b, o + j, none⟩ by simp [Addr.add]]
      exact (hu j h1).1
    · obtain ⟨h1, rfl⟩ := hget c u he
      exact (hu c h1).2
    · obtain ⟨c, hc, rfl⟩ := List.mem_map.1 hm
      obtain ⟨x1, x2, e3, -⟩ := (hu c (List.mem_range.1 hc)).2.is
      rw [e3]; rfl
theorem Ol.vals {W : World} {B : Nat} {v : Value} {us : List Value} {row : Nat → List Pr} (h : Ol W B v us row) : ∃ ao c, v = .slice ao us.length c ∧ (ao = none → us.length = 0) ∧ (∀ a, ao = some a → ∀ j u, us[j]? = some u → W.cell? (a.add j) = some u) ∧ ∀ u ∈ us, u.oneCell' = true := by
  have h1 : ∀ u ∈ us, u.oneCell' = true := fun u hu => by
    obtain ⟨c, hc, rfl⟩ := List.getElem_of_mem hu
    obtain ⟨x1, x2, e3, -⟩ := (h.s c _ (List.getElem?_eq_getElem hc)).is
    rw [e3]; rfl
  have ho := h.own
  obtain ⟨-, ⟨h2, h3⟩ | ⟨q, cap, cur, h2, -⟩⟩ := h.own
  · exact ⟨none, 0, by rw [h3]; exact h2, fun _ => h3, (fun a e => nomatch e), h1⟩
  · refine ⟨_, cap, h2, (fun e => nomatch e), fun a e => ?_, h1⟩
    injection e with e
    subst e
    exact ho.cells (by rw [h2]; rfl)
theorem appended {w2 wr w4 w5 : World} {u v5 v6 : Value} {us vs : List Value} {row row2 : Nat → List Pr} {A K : Nat} (h1 : Ol wr w2.heap.size u us row) (h2 : Ol w4 wr.heap.size v5 vs row2) (h3 : Below wr.heap.size wr w4) (h4 : ∀ (c : Nat) (u : Value) (q : Nat), vs[c]? = some u → u.ownBlock = some q → wr.heap.size ≤ q)
    (hgrow : w4.grownBy w5 u.ownBlock) (hown : w5.ownsRow w2.heap.size 35 1 v6 (us.length + vs.length) (us ++ vs)) (hat : v6.ownBlock = u.ownBlock ∨ v6.ownBlock = some w4.heap.size) (hu : us.length = A) (hv : vs.length = K) (hne : v6 ≠ .slice none 0 0) (hb : Below w2.heap.size w2 wr)
    (hr : ∀ c, c < K → row2 c = row (A + c)) : (us ++ vs).length = A + K ∧ Ol w5 w2.heap.size v6 (us ++ vs) row ∧ v6 ≠ .slice none 0 0 ∧ Below w2.heap.size w2 w5 := by
  have hx := h1.up h3
  obtain ⟨g1, g2⟩ := hx.next (vs := vs) (row2 := row2) (Below.refl _ _) hgrow hown hat (fun c u e => h2.s c u e) fun c y q e e0 e2 e3 => by
    have := h4 c y q e e2
    have := (h1.own.lt q e3).2
    omega
  refine ⟨by rw [List.length_append, hu, hv], g1.same fun c hc => ?_, hne, ?_⟩
  · rw [List.length_append] at hc
    by_cases h : c < us.length
    · rw [if_pos h]
    · rw [if_neg h, hr _ (by omega), ← hu]
      congr 1
      omega
  · have hb4 := hb.trans (h3.mono hb.size)
    exact hb4.trans (g2.below hb4.size fun q hq e => by omega)
set_option maxHeartbeats 16000000 in
theorem law_parts (E S : Int) (pa : Option Addr) (L pc : Nat) (cy : Nat → Int) (n : Int) (w : World) (hA : Nl w w.heap.size pa L cy) (_hL : L ≤ 100000000000000) (_hn1 : -9223372036854775808 ≤ n) (_hn2 : n ≤ 9223372036854775807) :
    Calls Try.prog 4 #[.agg #[.int .i64 E, .slice pa L pc, .int .i64 S], .int .i64 n] w fun e w' => e = .returned (.bool true) ∧ Below w.heap.size w w' := by
  have HU : Hid (Below w.heap.size w (w.alloc (.cells #[.int .i64 E, .slice pa L pc, .int .i64 S] 24))) := (Below.refl _ _).alloc (Nat.le_refl _) _
  have HB : Hid (At (w.alloc (.cells #[.int .i64 E, .slice pa L pc, .int .i64 S] 24)) w.heap.size #[.int .i64 E, .slice pa L pc, .int .i64 S]) := At.new _ _ _
  have HE : Hid (∀ W, Below w.heap.size w W → Calls Try.prog 8 #[.agg #[.int .i64 E, .slice pa L pc, .int .i64 S]] W (PaOut W L E S cy)) := fun W hW => parts_any E S pa L pc cy W (hA.up hW)
  by_cases hp : paE L E S cy = 0
  · obtain ⟨f1, f3⟩ := paE_parts hp
    have hF := frB_fair f1
    obtain ⟨-, r2, r3⟩ := pa_0 f1 f3
    have e1 := hF.e1
    have e2 := hF.e2
    have s1 := hF.s1
    have s2 := hF.s2
    have hl := hF.l
    have t0 := Int.lt_tmod_of_pos n (show (0 : Int) < 40 by decide)
    have t1 := Int.tmod_lt_of_pos n (show (0 : Int) < 40 by decide)
    have t2 := tmod40 n
    have t3 : 0 ≤ n % 40 := by omega
    have t4 : n % 40 < 40 := by omega
    obtain ⟨m, hm⟩ : ∃ m : Nat, n % 40 = (m : Int) := ⟨(n % 40).toNat, by omega⟩
    have t5 : (Int.tmod n 40 + 40) % 40 = (m : Int) := by rw [← Int.tmod_eq_emod_of_nonneg (by omega), t2, hm]
    rw [hm] at t2
    have hm40 : m < 40 := by omega
    have hm41 : (m : Int) < 40 := by omega
    generalize ht : Int.tmod n 40 = t at *
    have HP : Hid (paE L E S cy = 0) := hp
    have hks := pa_small L E S cy
    obtain ⟨s, rfl⟩ : ∃ s : Nat, S = (s : Int) := ⟨S.toNat, by omega⟩
    have HC : Hid (∀ W, Below w.heap.size w W → Calls Try.prog 6 #[.agg #[.int .i64 E, .slice pa L pc, .int .i64 (s : Int)], .int .i64 ((m : Int) + (s : Int))] W (WhOut W L E (s : Int) cy ((m : Int) + (s : Int)))) := fun W hW => whole_any E (s : Int) pa L pc cy ((m : Int) + (s : Int)) W (hA.up hW) (by omega) (by omega)
    have HPt : Hid (∀ c, c < paN L E (s : Int) cy → rowP E cy (evR L s) c = rowP E cy (evR L (m + s)) c) := fun c hc => part_first hF r2 hc
    have HPk : Hid (∀ c j, c < paK L E (s : Int) cy → j ≤ m → shf (j : Int) (rowP E cy (evR L s) (paN L E (s : Int) cy + c)) = rowP E cy (evR L (m + s)) (paN L E (s : Int) cy + j * paK L E (s : Int) cy + c)) := fun c j hc hj => part_kernel hF r2 r3 hc hj
    have HPl : Hid (∀ c, shf (m : Int) (rowP E cy (evR L s) (paN L E (s : Int) cy + paK L E (s : Int) cy + c)) = rowP E cy (evR L (m + s)) (paN L E (s : Int) cy + (m + 1) * paK L E (s : Int) cy + c)) := fun c => part_last hF r2 r3
    have HNn : Hid (whE L E (s : Int) cy ((m : Int) + (s : Int)) = 0 → whN L E (s : Int) cy ((m : Int) + (s : Int)) = paN L E (s : Int) cy + (m + 1) * paK L E (s : Int) cy + paN L E (s : Int) cy) := fun h => by
      have h1 := whN_some h (by omega) s1 e1
      have h2 : (m : Int) + (s : Int) - 1 + (s : Int) = ((s : Int) - 1) + ((m : Int) + 1) + ((s : Int) - 1) := by omega
      rw [h2, Int.add_mul, Int.add_mul] at h1
      have h3 : (((m + 1) * paK L E (s : Int) cy : Nat) : Int) = ((m : Int) + 1) * E := by rw [Int.natCast_mul, r3]; simp
      omega
    have HSm : Hid (∀ c, ((rowP E cy (evR L s) c).length ≤ 1000000000 ∧ ∀ x ∈ rowP E cy (evR L s) c, 0 ≤ x.2 ∧ x.2 ≤ 1000000000)) := fun c => row_small hl (by omega) c
    have HSw : Hid (∀ c, ((rowP E cy (evR L (m + s)) c).length ≤ 1000000000)) := fun c => (row_small hl (by omega) c).1
    have hk0 : paN L E (s : Int) cy ≤ 1000000 := by
      have h3 : 3 * E * (s : Int) = 3 * ((s : Int) * E) := by rw [Int.mul_assoc, Int.mul_comm E (s : Int)]
      have h4 : (s : Int) * E = ((s : Int) - 1) * E + E := by rw [Int.sub_mul]; omega
      omega
    have hk1 : paK L E (s : Int) cy ≤ 1000000 := by omega
    have hk2 : 0 < paK L E (s : Int) cy := by omega
    have hwE : whE L E (s : Int) cy ((m : Int) + (s : Int)) = 0 ∨ whE L E (s : Int) cy ((m : Int) + (s : Int)) = 3 := by
      by_cases h : ((m : Int) + (s : Int) + (s : Int)) * E ≤ 65536
      · exact .inl (whE_0 ⟨f1, by omega⟩ h)
      · exact .inr (whE_3 ⟨f1, by omega⟩ h).1
    have hK : (paK L E (s : Int) cy : Int) = E := r3
    generalize hgn : paN L E (s : Int) cy = n1 at *
    generalize hgk : paK L E (s : Int) cy = k at *
    have HGN : Hid (paN L E (s : Int) cy = n1 ∧ paK L E (s : Int) cy = k) := ⟨hgn, hgk⟩
    clear hgn hgk
    clear hA hF t3 t4 hm f1 f3 r2 r3 hks
    obtain ⟨x, hx⟩ : ∃ x, whE L E (s : Int) cy ((m : Int) + (s : Int)) = x := ⟨_, rfl⟩
    rw [hx] at hwE HNn
    have HX : Hid (whE L E (s : Int) cy ((m : Int) + (s : Int)) = x) := hx
    clear hx
    go_enter Try.func4, Try.ntmps4
    go_upto_region 1 with fail
    generalize hV : w.alloc (.cells #[.int .i64 E, .slice pa L pc, .int .i64 (s : Int)] 24) = V at *
    clear hV
    have c0 : V.cell? ⟨w.heap.size, 0, none⟩ = some (.int .i64 E) := HB.out.c 0 _ rfl
    have c1 : V.cell? ⟨w.heap.size, 1, none⟩ = some (.slice pa L pc) := HB.out.c 1 _ rfl
    have c2 : V.cell? ⟨w.heap.size, 2, none⟩ = some (.int .i64 (s : Int)) := HB.out.c 2 _ rfl
    have cl := HB.out.lt
    go_upto_region 2 with (first
      | (go_at_call 8; refine Calls.mono (HE.out _ HU.out) ?_; rintro e w1 ⟨v1, v2, v3, rfl, hb, r1, r2, r3⟩; rw [HP.out]; rw [HGN.out.1, Int.toNat_natCast] at r1; rw [HGN.out.1, HGN.out.2, Int.toNat_natCast] at r2; rw [HGN.out.1, HGN.out.2, Int.toNat_natCast] at r3; have H1 : Hid (Below w.heap.size w w1 ∧ At w1 w.heap.size #[.int .i64 E, .slice pa L pc, .int .i64 (s : Int)] ∧ Rd w1 v1 n1 (rowP E cy (evR L s)) ∧ Rd w1 v2 k (fun c => rowP E cy (evR L s) (n1 + c)) ∧ Rd w1 v3 n1 (fun c => rowP E cy (evR L s) (n1 + k + c))) := ⟨HU.out.trans (hb.mono HU.out.size), HB.out.below hb HB.out.lt, r1, r2, r3⟩; clear hb r1 r2 r3 c0 c1 c2 cl HE HU HB))
    have c0 : w1.cell? ⟨w.heap.size, 0, none⟩ = some (.int .i64 E) := H1.out.2.1.c 0 _ rfl
    have c1 : w1.cell? ⟨w.heap.size, 1, none⟩ = some (.slice pa L pc) := H1.out.2.1.c 1 _ rfl
    have c2 : w1.cell? ⟨w.heap.size, 2, none⟩ = some (.int .i64 (s : Int)) := H1.out.2.1.c 2 _ rfl
    have cl := H1.out.2.1.lt
    go_upto_region 6 with (first
      | (go_at_call 6; refine Calls.mono (HC.out _ H1.out.1) ?_; rintro e w2 ⟨v4, rfl, hb, hr⟩; rw [HX.out]; have H2 : Hid (Below w.heap.size w w2 ∧ At w2 w.heap.size #[.int .i64 E, .slice pa L pc, .int .i64 (s : Int)] ∧ (Rd w2 v1 n1 (rowP E cy (evR L s)) ∧ Rd w2 v2 k (fun c => rowP E cy (evR L s) (n1 + c)) ∧ Rd w2 v3 n1 (fun c => rowP E cy (evR L s) (n1 + k + c))) ∧ Rd w2 v4 (whN L E (s : Int) cy ((m : Int) + (s : Int))) (rowP E cy (evR L ((m : Int) + (s : Int)).toNat))) := ⟨H1.out.1.trans (hb.mono H1.out.1.size), H1.out.2.1.below hb H1.out.2.1.lt, ⟨H1.out.2.2.1.up hb, H1.out.2.2.2.1.up hb, H1.out.2.2.2.2.up hb⟩, hr⟩; clear hb hr c0 c1 c2 cl HC H1))
    rcases hwE with rfl | rfl
    · rw [HNn.out rfl, show ((m : Int) + (s : Int)).toNat = m + s by omega] at H2
      have c0 : w2.cell? ⟨w.heap.size, 0, none⟩ = some (.int .i64 E) := H2.out.2.1.c 0 _ rfl
      have c1 : w2.cell? ⟨w.heap.size, 1, none⟩ = some (.slice pa L pc) := H2.out.2.1.c 1 _ rfl
      have c2 : w2.cell? ⟨w.heap.size, 2, none⟩ = some (.int .i64 (s : Int)) := H2.out.2.1.c 2 _ rfl
      have cl := H2.out.2.1.lt

      go_upto_region 8 with fail
      obtain ⟨i0, hi, hi2⟩ := Option.map_eq_some_iff.1 info35
      simp only [Prod.mk.injEq] at hi2
      obtain ⟨hz0, hz1, hz2⟩ := hi2
      have HI : Hid (Try.prog.info? 35 = some i0 ∧ i0.zero = some (.slice none 0 0) ∧ i0.size = 1 ∧ i0.bytes = 24) := ⟨hi, hz0, hz1, hz2⟩
      clear hi hz0 hz1 hz2
      obtain ⟨ao1, cp1, us1, rfl, hl1, h01, hc1, hs1, ho1⟩ := H2.out.2.2.1.1.vals
      have A1 : Hid (us1.length = n1 ∧ (ao1 = none → n1 = 0) ∧ (∀ a, ao1 = some a → ∀ j u, us1[j]? = some u → (w2.alloc (.cells #[] 35)).cell? (a.add j) = some u) ∧ ∀ u ∈ us1, u.oneCell' = true) := ⟨hl1, h01, fun a ha j u hu => by
        have h := hc1 a ha j u hu
        rw [← h]
        exact Below.cell ((Below.refl _ _).alloc (Nat.le_refl _) _) (World.block_lt_of_cell? w2 _ h), ho1⟩
      have O0 : Hid (Ol (w2.alloc (.cells #[] 35)) w2.heap.size (.slice (some ⟨w2.heap.size, 0, none⟩) 0 0) [] (rowP E cy (evR L (m + s)))) := ⟨World.ownsRow_made w2 #[] 0 (Nat.le_refl _) (by unfold maxLen; omega) rfl, fun c u e => by simp at e, fun c u q e => by simp at e, by simp⟩
      have O1 : Hid (∀ v' w3, (w2.alloc (.cells #[] 35)).grownBy w3 (some w2.heap.size) → w3.ownsRow w2.heap.size 35 1 v' (0 + n1) ([] ++ us1) → (v'.ownBlock = some w2.heap.size ∨ v'.ownBlock = some (w2.alloc (.cells #[] 35)).heap.size) → Ol w3 w2.heap.size v' us1 (rowP E cy (evR L (m + s))) ∧ Below w2.heap.size w2 w3) := fun v' w3 hgrow hown hat => by
        obtain ⟨h1, h2⟩ := O0.out.next (vs := us1) (row2 := rowP E cy (evR L s)) (Below.refl _ _) hgrow (by rw [List.length_nil, A1.out.1]; exact hown) hat (fun c u e => (hs1 c u e).up ((Below.refl _ _).alloc (Nat.le_refl _) _)) fun c u q e e0 e2 e3 => by
          have h := (hs1 c u e).lt e0 e2
          have e3 : some w2.heap.size = some q := e3
          injection e3 with e3
          omega
        refine ⟨h1.same fun c hc => ?_, ((Below.refl w2.heap.size w2).alloc (Nat.le_refl _) (.cells #[] 35)).trans (h2.below (by simp) fun q hq e => by omega)⟩
        rw [List.nil_append, A1.out.1] at hc
        rw [if_neg (by simp)]
        exact HPt.out c hc
      have hsz : (w2.alloc (.cells #[] 35)).heap.size = w2.heap.size + 1 := World.size_alloc _ _
      clear hc1 hs1 ho1 hl1 h01
      go_upto_region 9 with (first
        | (at_builtin; (refine wpList_append_some _ rfl _ _ 25 rfl w2.heap.size 35 i0 (.slice none 0 0) 1 24 Try.underlying25 HI.out.1 HI.out.2.1 HI.out.2.2.1 HI.out.2.2.2 rfl (by decide) (.slice (some ⟨w2.heap.size, 0, none⟩) 0 0) 0 [] rfl O0.out.own (by simp) ao1 n1 cp1 us1 rfl (by rw [A1.out.1]; omega) A1.out.2.1 A1.out.2.2.1 A1.out.2.2.2 (by unfold maxLen; omega) (by omega) (by rw [hsz]; omega) ?_; intro va w3 hown hgrow hne hat; have H3 : Hid (us1.length = n1 ∧ Ol w3 w2.heap.size va us1 (rowP E cy (evR L (m + s))) ∧ va ≠ .slice none 0 0 ∧ Below w2.heap.size w2 w3) := ⟨A1.out.1, (O1.out va w3 hgrow hown hat).1, hne, (O1.out va w3 hgrow hown hat).2⟩; clear hown hgrow hne hat c0 c1 c2 cl)))
      have HC3 := H2.out.2.1.below H3.out.2.2.2 H2.out.2.1.lt
      have c2 : w3.cell? ⟨w.heap.size, 2, none⟩ = some (.int .i64 (s : Int)) := HC3.c 2 _ rfl
      have cl := HC3.lt
      clear HC3 O0 O1 A1
      go_wp2_with fail
      clear c2 cl
      go_loopw [10, 65] (fun u t wr => ∃ (j : Nat) (us : List Value), j ≤ m + 1 ∧ t = .int .i64 j ∧ us.length = n1 + j * k ∧ Ol wr w2.heap.size u us (rowP E cy (evR L (m + s))) ∧ u ≠ .slice none 0 0 ∧ Below w2.heap.size w2 wr) (fun _ t _ => m + 1 - (intOf t).toNat)
      case atStart => exact ⟨0, us1, by omega, rfl, by rw [H3.out.1]; omega, H3.out.2.1, H3.out.2.2.1, H3.out.2.2.2⟩
      case round =>
        rename World => wr
        obtain ⟨j, us, hj, rfl, q1, q2, q3, q4⟩ := hrel
        have HQ : Hid (us.length = n1 + j * k ∧ Ol wr w2.heap.size u10 us (rowP E cy (evR L (m + s))) ∧ u10 ≠ .slice none 0 0 ∧ Below w2.heap.size w2 wr) := ⟨q1, q2, q3, q4⟩
        have hjk : j * k ≤ 41 * 1000000 := Nat.mul_le_mul (by omega) hk1
        have hul : us.length ≤ 100000000 := by omega
        clear q1 q2 q3 q4 H3
        by_cases hlt : j < m + 1
        · have j1 : (j : Int) < (m : Int) + 1 := by omega
          have X1 : Hid _ := later_any v2 k (fun c => rowP E cy (evR L s) (n1 + c)) (j : Int) wr (H2.out.2.2.1.2.1.up HQ.out.2.2.2) (by omega) (fun c _ => HSm.out _) (by omega) (by omega)
          go_wp2_with (first
            | (go_at_call 12; refine Calls.mono X1.out ?_; rintro e w4 ⟨v5, rfl, vs, g1, g2, g3, g4⟩; have H4 : Hid (vs.length = k ∧ Ol w4 wr.heap.size v5 vs (fun c => shf (j : Int) (rowP E cy (evR L s) (n1 + c))) ∧ Below wr.heap.size wr w4 ∧ ∀ (c : Nat) (u : Value) (q : Nat), vs[c]? = some u → u.ownBlock = some q → wr.heap.size ≤ q) := ⟨g1, g2, g3, g4⟩; clear g1 g2 g3 g4 X1; obtain ⟨p5, cp5, e5, b5, l5⟩ := H4.out.2.1.own.form (by rw [H4.out.1]; exact hk2); subst e5; rw [H4.out.1]; have hb4 := H4.out.2.2.1.size; have hb5 := HQ.out.2.2.2.size)
            | (at_builtin; (refine wpList_append_some _ rfl _ _ 25 rfl w2.heap.size 35 i0 (.slice none 0 0) 1 24 Try.underlying25 HI.out.1 HI.out.2.1 HI.out.2.2.1 HI.out.2.2.2 rfl (by decide) u10 us.length us rfl (HQ.out.2.1.up H4.out.2.2.1).own HQ.out.2.2.1 (some ⟨p5, 0, none⟩) k cp5 vs rfl (by rw [H4.out.1]; omega) (by intro h; cases h) (by intro a ha; injection ha with ha; subst ha; exact H4.out.2.1.own.cells rfl) (by intro u hu; obtain ⟨c, hc, rfl⟩ := List.getElem_of_mem hu; obtain ⟨x1, x2, e3, -⟩ := (H4.out.2.1.s c _ (List.getElem?_eq_getElem hc)).is; rw [e3]; rfl) (by unfold maxLen; omega) (by omega) (by omega) ?_; intro v6 w5 hown hgrow hne hat; have H5 : Hid ((us ++ vs).length = n1 + j * k + k ∧ Ol w5 w2.heap.size v6 (us ++ vs) (rowP E cy (evR L (m + s))) ∧ v6 ≠ .slice none 0 0 ∧ Below w2.heap.size w2 w5) := (appended HQ.out.2.1 H4.out.2.1 H4.out.2.2.1 H4.out.2.2.2 hgrow (by rw [H4.out.1]; exact hown) hat HQ.out.1 H4.out.1 hne HQ.out.2.2.2 (fun c hc => HPk.out c j hc (by omega))); clear hown hgrow hne hat H4)))
          go_roundw
          case rel => exact ⟨j + 1, us ++ vs, by omega, by go_num, by rw [H5.out.1, Nat.add_mul]; omega, H5.out.2.1, H5.out.2.2.1, H5.out.2.2.2⟩
          case measure => simp [intOf]; omega
        · obtain rfl : j = m + 1 := by omega
          have j1 : ¬ ((m + 1 : Nat) : Int) < (m : Int) + 1 := by omega
          have hsk : (m : Int) + (s : Int) - (s : Int) = (m : Int) := by omega
          have X1 : Hid _ := later_any v3 n1 (fun c => rowP E cy (evR L s) (n1 + k + c)) (m : Int) wr (H2.out.2.2.1.2.2.up HQ.out.2.2.2) (by omega) (fun c _ => HSm.out _) (by omega) (by omega)
          have HC3 := (H2.out.2.1.below HQ.out.2.2.2 H2.out.2.1.lt)
          have c2 : wr.cell? ⟨w.heap.size, 2, none⟩ = some (.int .i64 (s : Int)) := HC3.c 2 _ rfl
          have cl := HC3.lt
          have HC4 : Hid (At wr w.heap.size #[.int .i64 E, .slice pa L pc, .int .i64 (s : Int)]) := HC3
          clear HC3
          obtain ⟨a2, cp2, e2', -, -⟩ := H2.out.2.2.1.2.1.is
          subst e2'
          have hb5 := HQ.out.2.2.2.size
          have hkE : ((k : Int) == E) = true := by rw [hK]; exact beq_self_eq_true _
          have c0 : wr.cell? ⟨w.heap.size, 0, none⟩ = some (.int .i64 E) := HC4.out.c 0 _ rfl
          go_wp2_with (first
            | (go_at_call 12; refine Calls.mono X1.out ?_; rintro e w4 ⟨v5, rfl, vs, g1, g2, g3, g4⟩; have H4 : Hid (vs.length = n1 ∧ Ol w4 wr.heap.size v5 vs (fun c => shf (m : Int) (rowP E cy (evR L s) (n1 + k + c))) ∧ Below wr.heap.size wr w4 ∧ ∀ (c : Nat) (u : Value) (q : Nat), vs[c]? = some u → u.ownBlock = some q → wr.heap.size ≤ q) := ⟨g1, g2, g3, g4⟩; clear g1 g2 g3 g4 X1; obtain ⟨a5, cp5, e5, z5, y5, o5⟩ := H4.out.2.1.vals; subst e5; rw [H4.out.1] at z5; rw [H4.out.1]; have V5 : Hid ((a5 = none → n1 = 0) ∧ (∀ a, a5 = some a → ∀ j u, vs[j]? = some u → w4.cell? (a.add j) = some u) ∧ ∀ u ∈ vs, u.oneCell' = true) := ⟨z5, y5, o5⟩; clear z5 y5 o5; have hb4 := H4.out.2.2.1.size)
            | (at_builtin; (refine wpList_append_some _ rfl _ _ 25 rfl w2.heap.size 35 i0 (.slice none 0 0) 1 24 Try.underlying25 HI.out.1 HI.out.2.1 HI.out.2.2.1 HI.out.2.2.2 rfl (by decide) u10 us.length us rfl (HQ.out.2.1.up H4.out.2.2.1).own HQ.out.2.2.1 a5 n1 cp5 vs rfl (by rw [H4.out.1]; omega) V5.out.1 V5.out.2.1 V5.out.2.2 (by unfold maxLen; omega) (by omega) (by omega) ?_; intro v6 w5 hown hgrow hne hat; have H5 : Hid ((us ++ vs).length = n1 + (m + 1) * k + n1 ∧ Ol w5 w2.heap.size v6 (us ++ vs) (rowP E cy (evR L (m + s))) ∧ v6 ≠ .slice none 0 0 ∧ Below w2.heap.size w2 w5) := (appended HQ.out.2.1 H4.out.2.1 H4.out.2.2.1 H4.out.2.2.2 hgrow (by rw [H4.out.1]; exact hown) hat HQ.out.1 H4.out.1 hne HQ.out.2.2.2 (fun c _ => HPl.out c)); clear hown hgrow hne hat H4 V5))
            | (go_at_call 10; refine Calls.mono (rows_same v4 v6 _ _ w5 (H2.out.2.2.2.up H5.out.2.2.2) (by have h := H5.out.2.1.rd; rw [H5.out.1] at h; exact h) (by omega) (fun c _ => HSw.out c)) ?_; rintro e w6 ⟨rfl, hb⟩; have B6 : Hid (Below w.heap.size w w6 ∧ At w6 w.heap.size #[.int .i64 E, .slice pa L pc, .int .i64 (s : Int)]) := ⟨(H2.out.1.trans (H5.out.2.2.2.mono H2.out.1.size)).trans (hb.mono (Nat.le_trans H2.out.1.size H5.out.2.2.2.size)), (H2.out.2.1.below H5.out.2.2.2 H2.out.2.1.lt).below hb (H2.out.2.1.below H5.out.2.2.2 H2.out.2.1.lt).lt⟩; clear hb c0 c2 cl; have c0 : w6.cell? ⟨w.heap.size, 0, none⟩ = some (.int .i64 E) := B6.out.2.c 0 _ rfl; have cl := B6.out.2.lt)
            | (go_at_call 11; refine Calls.mono (wakes_any _) ?_; rintro e w9 ⟨rfl, hb⟩; have B9 : Hid (Below w.heap.size w w9) := B6.out.1.trans (hb.mono B6.out.1.size); clear hb))
          go_ret
          exact ⟨rfl, B9.out⟩
    · go_wp2_with (first
        | (go_at_call 11; refine Calls.mono (wakes_any _) ?_; rintro e w9 ⟨rfl, hb⟩; have B9 : Hid (Below w.heap.size w w9) := H2.out.1.trans (hb.mono H2.out.1.size); clear hb))
      go_ret
      exact ⟨rfl, B9.out⟩
  · have HP : Hid (paN L E S cy = 0 ∧ paK L E S cy = 0) := ⟨if_neg hp, if_neg hp⟩
    obtain ⟨x, hx⟩ : ∃ x, paE L E S cy = x := ⟨_, rfl⟩
    have HX : Hid (paE L E S cy = x) := hx
    rw [hx] at hp
    have hx2 : (x == 0) = false := by simpa using hp
    clear hx hA
    go_enter Try.func4, Try.ntmps4
    go_upto_region 1 with fail
    generalize hV : w.alloc (.cells #[.int .i64 E, .slice pa L pc, .int .i64 S] 24) = V at *
    clear hV
    have c0 : V.cell? ⟨w.heap.size, 0, none⟩ = some (.int .i64 E) := HB.out.c 0 _ rfl
    have c1 : V.cell? ⟨w.heap.size, 1, none⟩ = some (.slice pa L pc) := HB.out.c 1 _ rfl
    have c2 : V.cell? ⟨w.heap.size, 2, none⟩ = some (.int .i64 S) := HB.out.c 2 _ rfl
    have cl := HB.out.lt
    go_upto_region 2 with (first
      | (go_at_call 8; refine Calls.mono (HE.out _ HU.out) ?_; rintro e w1 ⟨v1, v2, v3, rfl, hb, r1, r2, r3⟩; rw [HX.out]; rw [HP.out.1] at r1 r3; rw [HP.out.2] at r2; have H1 : Hid (Below w.heap.size w w1) := HU.out.trans (hb.mono HU.out.size); obtain ⟨a1, cp1, rfl, -, -⟩ := r1.is; obtain ⟨a2, cp2, rfl, -, -⟩ := r2.is; obtain ⟨a3, cp3, rfl, -, -⟩ := r3.is; clear hb r1 r2 r3 c0 c1 c2 cl HE HU HB))
    go_wp2_with (first
      | (go_at_call 11; refine Calls.mono (wakes_any _) ?_; rintro e w9 ⟨rfl, hb⟩; have B9 : Hid (Below w.heap.size w w9) := H1.out.trans (hb.mono H1.out.size); clear hb))
    go_ret
    exact ⟨rfl, B9.out⟩
end Go.Proofs.Ytnfnjhaaaenldaa.Ro
