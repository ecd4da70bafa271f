/- The document's digits and the digits of a number: plain mathematics. Conditions: none. -/
import Derived.Test.YthfchelkfbboaaaGreatDoorDg
namespace Go.Proofs.YthfchelkfbboaaaGreatDoor.Pr
open _root_.Go.Proofs.YthfchelkfbboaaaGreatDoor.Op

theorem digN_append : ∀ (a b : List UInt8) (n : Nat), digN (a ++ b) n = (digN a n).bind fun m => digN b m
  | [], b, n => rfl
  | x :: a, b, n => by
    rw [List.cons_append, digN, digN]
    split
    · rfl
    · exact digN_append a b _
theorem dg_byte (u : Nat) : 48 ≤ (dg u).toNat ∧ (dg u).toNat ≤ 57 ∧ (dg u).toNat - 48 = u % 10 := by
  unfold dg
  have h : u % 10 < 10 := Nat.mod_lt _ (by decide)
  rw [UInt8.toNat_ofNat']
  omega
theorem digN_one (b : UInt8) (n : Nat) (h0 : 48 ≤ b.toNat) (h1 : b.toNat ≤ 57) : digN [b] n = some (n * 10 + (b.toNat - 48)) := by
  rw [digN, if_neg]
  · rfl
  · rintro (h | h)
    · have := UInt8.lt_iff_toNat_lt.1 h; simp at this; omega
    · have := UInt8.lt_iff_toNat_lt.1 h; simp at this; omega
/-- A number's digits say it. -/
theorem digN_dec (u : Nat) : digN (Lib.decDigits u) 0 = some u := by
  induction u using Nat.strongRecOn with
  | _ u ih =>
    rw [dec_pre u, digN_append]
    obtain ⟨h0, h1, h2⟩ := dg_byte u
    unfold pre
    split
    · rename_i h
      show digN [dg u] 0 = some u
      rw [digN_one _ _ h0 h1, h2, Nat.mod_eq_of_lt h]; simp
    · rename_i h
      rw [ih (u / 10) (by omega)]
      show digN [dg u] (u / 10) = some u
      rw [digN_one _ _ h0 h1, h2]
      congr 1; omega
theorem digN_last {e : List UInt8} {b : UInt8} {n : Nat} (h : digN (e ++ [b]) 0 = some n) : ∃ m, digN e 0 = some m ∧ 48 ≤ b.toNat ∧ b.toNat ≤ 57 ∧ n = m * 10 + (b.toNat - 48) := by
  rw [digN_append] at h
  obtain ⟨m, h1, h2⟩ := Option.bind_eq_some_iff.1 h
  rw [digN] at h2
  split at h2
  · cases h2
  · rename_i hb
    have h3 : 48 ≤ b.toNat ∧ b.toNat ≤ 57 := by
      constructor
      · rcases Nat.lt_or_ge b.toNat 48 with h' | h'
        · exact absurd (.inl (UInt8.lt_iff_toNat_lt.2 (by simpa using h'))) hb
        · exact h'
      · rcases Nat.lt_or_ge 57 b.toNat with h' | h'
        · exact absurd (.inr (UInt8.lt_iff_toNat_lt.2 (by simpa using h'))) hb
        · exact h'
    refine ⟨m, h1, h3.1, h3.2, ?_⟩
    have : some (m * 10 + (b.toNat - 48)) = some n := h2
    injection this with this; exact this.symm
theorem dg_of {b : UInt8} {n m : Nat} (h0 : 48 ≤ b.toNat) (h1 : b.toNat ≤ 57) (hn : n = m * 10 + (b.toNat - 48)) : dg n = b := by
  unfold dg
  rw [← UInt8.toNat_inj, UInt8.toNat_ofNat']
  omega
/-- Digits without a needless nought are the number's own. -/
theorem dec_of_dig : ∀ (k : Nat) (d : List UInt8) (n : Nat), d.length = k + 1 → digN d 0 = some n → (d.head? ≠ some 48 ∨ d.length = 1) → d = Lib.decDigits n
  | 0, d, n, hl, h, _ => by
    match d, hl with
    | [b], _ =>
      obtain ⟨m, h1, h2, h3, h4⟩ := digN_last (e := []) h
      have : m = 0 := by injection h1 with h1; exact h1.symm
      subst this
      rw [dec_pre n, dg_of h2 h3 h4]
      unfold pre
      rw [if_pos (by omega)]; rfl
  | k + 1, d, n, hl, h, hh => by
    have hne : d ≠ [] := by intro e; subst e; simp at hl
    obtain ⟨e, b, rfl⟩ : ∃ e b, d = e ++ [b] := ⟨d.dropLast, d.getLast hne, (List.dropLast_concat_getLast hne).symm⟩
    have hel : e.length = k + 1 := by simp at hl; omega
    have hhe : e.head? ≠ some 48 := by
      rcases hh with hh | hh
      · cases e with
        | nil => simp at hel
        | cons x t => simpa using hh
      · rw [hl] at hh; omega
    obtain ⟨m, h1, h2, h3, h4⟩ := digN_last h
    have ih := dec_of_dig k e m hel h1 (.inl hhe)
    have hm : m ≠ 0 := by
      intro e0
      subst e0
      rw [ih] at hhe
      exact hhe (by rw [Lib.decDigits_one (by decide)]; rfl)
    rw [dec_pre n, dg_of h2 h3 h4, ih]
    unfold pre
    rw [if_neg (by omega)]
    congr 2; omega
end Go.Proofs.YthfchelkfbboaaaGreatDoor.Pr
