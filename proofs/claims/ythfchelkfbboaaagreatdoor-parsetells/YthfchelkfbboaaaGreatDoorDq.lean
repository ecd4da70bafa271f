/- The code's numbers and the document's are the same: plain mathematics. Conditions: none. -/
import Derived.Test.YthfchelkfbboaaaGreatDoorDg
namespace Go.Proofs.YthfchelkfbboaaaGreatDoor.Pr
open _root_.Go.Proofs.YthfchelkfbboaaaGreatDoor.Op

theorem digN_append : ∀ (a b : List UInt8) (n : Nat), digN (a ++ b) n = (digN a n).bind fun m => digN b m
  | [], b, n => rfl
  | x :: a, b, n => by
    rw [List.cons_append, digN, digN]
    split
    · rfl
    · exact digN_append a b _
theorem dg_byte (u : Nat) : 48 ≤ (dg u).toNat ∧ (dg u).toNat ≤ 57 ∧ (dg u).toNat - 48 = u % 10 := by
  unfold dg
  have h : u % 10 < 10 := Nat.mod_lt _ (by decide)
  rw [UInt8.toNat_ofNat']
  omega
theorem digN_one (b : UInt8) (n : Nat) (h0 : 48 ≤ b.toNat) (h1 : b.toNat ≤ 57) : digN [b] n = some (n * 10 + (b.toNat - 48)) := by
  rw [digN, if_neg]
  · rfl
  · rintro (h | h)
    · have := UInt8.lt_iff_toNat_lt.1 h; simp at this; omega
    · have := UInt8.lt_iff_toNat_lt.1 h; simp at this; omega
/-- A number's digits say it. -/
theorem digN_dec (u : Nat) : digN (Lib.decDigits u) 0 = some u := by
  induction u using Nat.strongRecOn with
  | _ u ih =>
    rw [dec_pre u, digN_append]
    obtain ⟨h0, h1, h2⟩ := dg_byte u
    unfold pre
    split
    · rename_i h
      show digN [dg u] 0 = some u
      rw [digN_one _ _ h0 h1, h2, Nat.mod_eq_of_lt h]; simp
    · rename_i h
      rw [ih (u / 10) (by omega)]
      show digN [dg u] (u / 10) = some u
      rw [digN_one _ _ h0 h1, h2]
      congr 1; omega
theorem digN_last {e : List UInt8} {b : UInt8} {n : Nat} (h : digN (e ++ [b]) 0 = some n) : ∃ m, digN e 0 = some m ∧ 48 ≤ b.toNat ∧ b.toNat ≤ 57 ∧ n = m * 10 + (b.toNat - 48) := by
  rw [digN_append] at h
  obtain ⟨m, h1, h2⟩ := Option.bind_eq_some_iff.1 h
  rw [digN] at h2
  split at h2
  · cases h2
  · rename_i hb
    have h3 : 48 ≤ b.toNat ∧ b.toNat ≤ 57 := by
      constructor
      · rcases Nat.lt_or_ge b.toNat 48 with h' | h'
        · exact absurd (.inl (UInt8.lt_iff_toNat_lt.2 (by simpa using h'))) hb
        · exact h'
      · rcases Nat.lt_or_ge 57 b.toNat with h' | h'
        · exact absurd (.inr (UInt8.lt_iff_toNat_lt.2 (by simpa using h'))) hb
        · exact h'
    refine ⟨m, h1, h3.1, h3.2, ?_⟩
    have : some (m * 10 + (b.toNat - 48)) = some n := h2
    injection this with this; exact this.symm
theorem dg_of {b : UInt8} {n m : Nat} (h0 : 48 ≤ b.toNat) (h1 : b.toNat ≤ 57) (hn : n = m * 10 + (b.toNat - 48)) : dg n = b := by
  unfold dg
  rw [← UInt8.toNat_inj, UInt8.toNat_ofNat']
  omega
/-- Digits without a needless nought are the number's own. -/
theorem dec_of_dig : ∀ (k : Nat) (d : List UInt8) (n : Nat), d.length = k + 1 → digN d 0 = some n → (d.head? ≠ some 48 ∨ d.length = 1) → d = Lib.decDigits n
  | 0, d, n, hl, h, _ => by
    match d, hl with
    | [b], _ =>
      obtain ⟨m, h1, h2, h3, h4⟩ := digN_last (e := []) h
      have : m = 0 := by injection h1 with h1; exact h1.symm
      subst this
      rw [dec_pre n, dg_of h2 h3 h4]
      unfold pre
      rw [if_pos (by omega)]; rfl
  | k + 1, d, n, hl, h, hh => by
    have hne : d ≠ [] := by intro e; subst e; simp at hl
    obtain ⟨e, b, rfl⟩ : ∃ e b, d = e ++ [b] := ⟨d.dropLast, d.getLast hne, (List.dropLast_concat_getLast hne).symm⟩
    have hel : e.length = k + 1 := by simp at hl; omega
    have hhe : e.head? ≠ some 48 := by
      rcases hh with hh | hh
      · cases e with
        | nil => simp at hel
        | cons x t => simpa using hh
      · rw [hl] at hh; omega
    obtain ⟨m, h1, h2, h3, h4⟩ := digN_last h
    have ih := dec_of_dig k e m hel h1 (.inl hhe)
    have hm : m ≠ 0 := by
      intro e0
      subst e0
      rw [ih] at hhe
      exact hhe (by rw [Lib.decDigits_one (by decide)]; rfl)
    rw [dec_pre n, dg_of h2 h3 h4, ih]
    unfold pre
    rw [if_neg (by omega)]
    congr 2; omega
end Go.Proofs.YthfchelkfbboaaaGreatDoor.Pr

namespace Go.Proofs.YthfchelkfbboaaaGreatDoor.Pr
open _root_.Go.Proofs.YthfchelkfbboaaaGreatDoor.Op

theorem dig_byte (b : UInt8) : ¬ (b < 48 ∨ 57 < b) ↔ 48 ≤ b.toNat ∧ b.toNat ≤ 57 := by
  have h1 : (b < 48) ↔ b.toNat < 48 := by rw [UInt8.lt_iff_toNat_lt]; simp
  have h2 : (57 < b) ↔ 57 < b.toNat := by rw [UInt8.lt_iff_toNat_lt]; simp
  rw [h1, h2]; omega
theorem digN_le : ∀ (l : List UInt8) (acc n : Nat), digN l acc = some n → acc ≤ n
  | [], acc, n, h => by injection h with h; omega
  | b :: r, acc, n, h => by
    rw [digN] at h
    split at h
    · cases h
    · have := digN_le r _ _ h; omega
theorem um_of : ∀ (l : List UInt8) (M acc n : Nat), digN l acc = some n → n ≤ M → M < 1844674407370955162 → Lib.parseUintM M acc l = .ok n
  | [], M, acc, n, h, _, _ => by injection h with h; rw [h]; rfl
  | b :: r, M, acc, n, h, hn, hM => by
    rw [digN] at h
    split at h
    · cases h
    · rename_i hb
      have hb := (dig_byte b).1 hb
      have hle := digN_le r _ _ h
      rw [Lib.parseUintM, if_pos hb, if_neg (by omega), if_neg (by omega)]
      exact um_of r M _ n h hn hM
theorem um_to : ∀ (l : List UInt8) (M acc n : Nat), Lib.parseUintM M acc l = .ok n → digN l acc = some n
  | [], M, acc, n, h => by injection h with h; rw [h]; rfl
  | b :: r, M, acc, n, h => by
    rw [Lib.parseUintM] at h
    split at h
    · rename_i hb
      split at h
      · cases h
      · split at h
        · cases h
        · rw [digN, if_neg ((dig_byte b).2 hb)]
          exact um_to r M _ n h
    · cases h
theorem dec_ne (u : Nat) : Lib.decDigits u ≠ [] := by rw [dec_pre u]; simp
theorem dec_head (u : Nat) : (Lib.decDigits u).head? = some 48 → u = 0 := by
  intro h
  induction u using Nat.strongRecOn with
  | _ u ih =>
    rcases Nat.lt_or_ge u 10 with hu | hu
    · rw [Lib.decDigits_one hu] at h
      injection h with h
      have := congrArg UInt8.toNat h
      rw [UInt8.toNat_ofNat'] at this
      simp at this
      omega
    · rw [dec_pre u] at h
      unfold pre at h
      rw [if_neg (by omega)] at h
      have h' : (Lib.decDigits (u / 10)).head? = some 48 := by
        cases hd : Lib.decDigits (u / 10) with
        | nil => exact absurd hd (dec_ne _)
        | cons x t => rw [hd] at h; simpa using h
      have := ih (u / 10) (by omega) h'
      omega
theorem dec_bare (u : Nat) (h : u < 10 ^ 10) : bareB (Lib.decDigits u) = false := by
  have hl := dec_len 9 u h
  have hp : 0 < (Lib.decDigits u).length := List.length_pos_iff.2 (dec_ne u)
  unfold bareB
  rw [beq_eq_false_iff_ne.2 (by omega), decide_eq_false (by omega : ¬ 10 < (Lib.decDigits u).length)]
  by_cases h48 : (Lib.decDigits u).head? = some 48
  · have := dec_head u h48
    subst this
    rw [Lib.decDigits_one (by decide)]; rfl
  · rw [beq_eq_false_iff_ne.2 h48]; rfl
theorem dec_digit (u : Nat) (b : UInt8) (h : (Lib.decDigits u).head? = some b) : 48 ≤ b.toNat ∧ b.toNat ≤ 57 := by
  have h2 := digN_dec u
  cases hd : Lib.decDigits u with
  | nil => exact absurd hd (dec_ne u)
  | cons x t =>
    rw [hd] at h h2
    have hx : x = b := by simpa using h
    subst hx
    rw [digN] at h2
    split at h2
    · cases h2
    · rename_i hb; exact (dig_byte x).1 hb
/-- A number as it is written is the document's number. -/
theorem numD_itoa (v least most : Int) (h1 : -10000000000 < v) (h2 : v < 10000000000) : numD (Lib.itoa v) least most = (v, decide (least ≤ v) && decide (v ≤ most)) := by
  rcases Int.lt_or_le v 0 with hv | hv
  · obtain ⟨u, rfl⟩ : ∃ u : Nat, v = -(u : Int) := ⟨v.natAbs, by omega⟩
    rw [Lib.itoa_neg u (by omega)]
    have hne : (Lib.decDigits u == [48]) = false := by
      rw [beq_eq_false_iff_ne]
      intro e
      have := dec_head u (by rw [e]; rfl)
      omega
    unfold numD
    simp only [List.head?_cons, beq_self_eq_true, if_true, List.drop_succ_cons, List.drop_zero, dec_bare u (by omega), hne, Bool.and_false, Bool.or_false, Bool.false_eq_true, if_false, digN_dec]
  · obtain ⟨u, rfl⟩ : ∃ u : Nat, v = (u : Int) := ⟨v.toNat, by omega⟩
    rw [Lib.itoa_nonneg u]
    have hn : ((Lib.decDigits u).head? == some 45) = false := by
      rw [beq_eq_false_iff_ne]
      intro e
      have := dec_digit u 45 e
      simp at this
    unfold numD
    simp only [hn, Bool.false_eq_true, if_false, dec_bare u (by omega), Bool.false_and, Bool.or_false, digN_dec]
theorem bare_dec {d : List UInt8} {n : Nat} (hb : bareB d = false) (h : digN d 0 = some n) : d = Lib.decDigits n ∧ d.length ≤ 10 := by
  unfold bareB at hb
  simp only [Bool.or_eq_false_iff, Bool.and_eq_false_iff, beq_eq_false_iff_ne, decide_eq_false_iff_not] at hb
  obtain ⟨⟨h0, h1⟩, h2⟩ := hb
  refine ⟨dec_of_dig (d.length - 1) d n (by omega) h ?_, by omega⟩
  rcases h2 with h2 | h2
  · exact .inl h2
  · exact .inr (by omega)
/-- The document's number is one as it is written. -/
theorem itoa_of_numD {s : List UInt8} {least most v : Int} (h : numD s least most = (v, true)) : Lib.itoa v = s ∧ least ≤ v ∧ v ≤ most := by
  unfold numD at h
  cases hn : (s.head? == some 45) with
  | true =>
    rw [hn] at h
    simp only [if_true, Bool.true_and] at h
    split at h
    · cases h
    · rename_i hb
      simp only [Bool.or_eq_true, not_or, Bool.not_eq_true] at hb
      cases hd : digN (s.drop 1) 0 with
      | none => rw [hd] at h; cases h
      | some n =>
        rw [hd] at h
        simp only [Prod.mk.injEq, Bool.and_eq_true, decide_eq_true_eq] at h
        obtain ⟨rfl, h1, h2⟩ := h
        obtain ⟨e, _⟩ := bare_dec hb.1 hd
        have hn0 : 1 ≤ n := by
          rcases Nat.eq_zero_or_pos n with h0 | h0
          · subst h0
            rw [Lib.decDigits_one (by decide)] at e
            rw [e] at hb
            exact absurd hb.2 (by decide)
          · exact h0
        refine ⟨?_, h1, h2⟩
        rw [Lib.itoa_neg n hn0, ← e]
        cases s with
        | nil => cases hn
        | cons c r =>
          have : c = 45 := by simpa using hn
          rw [this]; rfl
  | false =>
    rw [hn] at h
    simp only [Bool.false_eq_true, if_false, Bool.false_and, Bool.or_false] at h
    split at h
    · cases h
    · rename_i hb
      simp only [Bool.not_eq_true] at hb
      cases hd : digN s 0 with
      | none => rw [hd] at h; cases h
      | some n =>
        rw [hd] at h
        simp only [Prod.mk.injEq, Bool.and_eq_true, decide_eq_true_eq] at h
        obtain ⟨rfl, h1, h2⟩ := h
        obtain ⟨e, _⟩ := bare_dec hb hd
        exact ⟨by rw [Lib.itoa_nonneg n]; exact e.symm, h1, h2⟩
theorem parse_itoa (v : Int) (h1 : -2147483648 ≤ v) (h2 : v ≤ 2147483647) : Lib.parseIntB 32 (Lib.itoa v) = .ok v := by
  have hM : (2 ^ 32 - 1 : Nat) < 1844674407370955162 := by decide
  rcases Int.lt_or_le v 0 with hv | hv
  · obtain ⟨u, rfl⟩ : ∃ u : Nat, v = -(u : Int) := ⟨v.natAbs, by omega⟩
    rw [Lib.itoa_neg u (by omega)]
    have hu : Lib.parseUintB 32 (Lib.decDigits u) = .ok u := by
      unfold Lib.parseUintB
      rw [if_neg (dec_ne u)]
      exact um_of _ _ 0 u (digN_dec u) (by simp; omega) hM
    unfold Lib.parseIntB
    simp only [show (45 : UInt8).toNat = 45 from rfl, or_true, if_true, hu]
    rw [if_neg (by simp), if_neg (by simp; omega)]
  · obtain ⟨u, rfl⟩ : ∃ u : Nat, v = (u : Int) := ⟨v.toNat, by omega⟩
    rw [Lib.itoa_nonneg u]
    have hu : Lib.parseUintB 32 (Lib.decDigits u) = .ok u := by
      unfold Lib.parseUintB
      rw [if_neg (dec_ne u)]
      exact um_of _ _ 0 u (digN_dec u) (by simp; omega) hM
    cases hd : Lib.decDigits u with
    | nil => exact absurd hd (dec_ne u)
    | cons x t =>
      have hx := dec_digit u x (by rw [hd]; rfl)
      rw [hd] at hu
      unfold Lib.parseIntB
      simp only
      rw [if_neg (by omega), hu]
      simp only
      rw [if_neg (by simp; omega), if_neg (by omega), if_neg (by omega)]
theorem numV_bd' {s : List UInt8} {v : Int} (h : numV s = some v) : Lib.itoa v = s ∧ -2147483648 ≤ v ∧ v ≤ 2147483647 := by
  unfold numV at h
  cases hp : Lib.parseIntB 32 s with
  | «syntax» => rw [hp] at h; cases h
  | range => rw [hp] at h; cases h
  | ok n =>
    rw [hp] at h
    simp only at h
    split at h
    · rename_i he
      injection h with h
      subst h
      refine ⟨he, ?_⟩
      unfold Lib.parseIntB at hp
      cases s with
      | nil => cases hp
      | cons c r =>
        simp only at hp
        split at hp
        · cases hp
        · cases hp
        · split at hp
          · cases hp
          · split at hp
            · cases hp
            · rename_i u _ h1 h2
              injection hp with hp
              rw [← hp]
              split
              · rename_i hc
                simp [hc] at h2
                omega
              · rename_i hc
                simp [hc] at h1
                omega
    · cases h
/-- The code's number is the document's. -/
theorem numV_eq (s : List UInt8) : numV s = if (numD s (-2147483648) 2147483647).2 then some (numD s (-2147483648) 2147483647).1 else none := by
  generalize hD : numD s (-2147483648) 2147483647 = D
  obtain ⟨v, b⟩ := D
  cases b with
  | true =>
    obtain ⟨h1, h2, h3⟩ := itoa_of_numD hD
    rw [← h1]
    unfold numV
    rw [parse_itoa v h2 h3]
    simp
  | false =>
    cases hv : numV s with
    | none => rfl
    | some u =>
      obtain ⟨h1, h2, h3⟩ := numV_bd' hv
      rw [← h1, numD_itoa u _ _ (by omega) (by omega), decide_eq_true h2, decide_eq_true h3] at hD
      cases hD
theorem regD_dec (u : Nat) (hu : u < 32) : regD' (114 :: Lib.decDigits u) = ((u : Int), true) := by
  have hn := numD_itoa (u : Int) 0 31 (by omega) (by omega)
  rw [Lib.itoa_nonneg u, decide_eq_true (by omega : (0 : Int) ≤ u), decide_eq_true (by omega : (u : Int) ≤ 31)] at hn
  unfold regD'
  rw [if_neg]
  · rw [show (114 :: Lib.decDigits u).drop 1 = Lib.decDigits u from rfl, hn]
    simp only [Bool.and_self, Prod.mk.injEq, and_true]
    omega
  · rintro (h | h | h)
    · have hp : 0 < (Lib.decDigits u).length := List.length_pos_iff.2 (dec_ne u)
      simp at h; omega
    · exact h rfl
    · have h' : (Lib.decDigits u).head? = some 45 := by rw [List.head?_eq_getElem?]; simpa using h
      have := dec_digit u 45 h'
      simp at this
/-- The code's register is the document's. -/
theorem regV_eq (s : List UInt8) : (regV s).map (fun n : Nat => (n : Int)) = if (regD' s).2 then some (regD' s).1 else none := by
  cases hb : (regD' s).2 with
  | true =>
    unfold regD' at hb
    split at hb
    · cases hb
    · rename_i hc
      simp only [not_or, Decidable.not_not] at hc
      obtain ⟨h1, h2, h3⟩ := hc
      cases s with
      | nil => cases h2
      | cons c r =>
        have hc : c = 114 := by simpa using h2
        subst hc
        have hD : numD r 0 31 = ((numD r 0 31).1, true) := by rw [← hb]; rfl
        obtain ⟨e1, e2, e3⟩ := itoa_of_numD hD
        obtain ⟨u, hu⟩ : ∃ u : Nat, (numD r 0 31).1 = (u : Int) := ⟨(numD r 0 31).1.toNat, by omega⟩
        rw [hu] at e1 e2 e3
        rw [Lib.itoa_nonneg u] at e1
        subst e1
        rw [regD_dec u (by omega)]
        have hp : Lib.parseUintB 8 (Lib.decDigits u) = .ok u := by
          unfold Lib.parseUintB
          rw [if_neg (dec_ne u)]
          exact um_of _ _ 0 u (digN_dec u) (by simp; omega) (by decide)
        unfold regV
        rw [if_pos (by simp), show (114 :: Lib.decDigits u).drop 1 = Lib.decDigits u from rfl, hp]
        simp only
        rw [if_pos ⟨by omega, trivial⟩]
        simp
  | false =>
    cases hv : regV s with
    | none => rfl
    | some u =>
      unfold regV at hv
      split at hv
      · split at hv
        · rename_i hh
          injection hv with hv
          subst hv
          rw [← hh.2, regD_dec _ hh.1] at hb
          cases hb
        · cases hv
      · cases hv
end Go.Proofs.YthfchelkfbboaaaGreatDoor.Pr
