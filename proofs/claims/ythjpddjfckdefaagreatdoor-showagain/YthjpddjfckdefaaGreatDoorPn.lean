/- Numbers and registers as they are written are read as they were: plain mathematics. Conditions: none. -/
import Derived.Test.YthjpddjfckdefaaGreatDoorMr
import Derived.Lib.ParseIntBCases
import Derived.Lib.ItoaMem
namespace Go.Proofs.YthjpddjfckdefaaGreatDoor.Pr
open _root_.Go.Proofs.YthjpddjfckdefaaGreatDoor.Op

def digN : List UInt8 → Nat → Option Nat
  | [], n => some n
  | b :: r, n => if b < 48 ∨ 57 < b then none else digN r (n * 10 + (b.toNat - 48))
def dg (m : Nat) : UInt8 := UInt8.ofNat (48 + m % 10)
def pre (m : Nat) : List UInt8 := if m < 10 then [] else Lib.decDigits (m / 10)
theorem dec_pre (m : Nat) : Lib.decDigits m = pre m ++ [dg m] := by
  unfold pre dg
  rw [Lib.decDigits]
  split
  · rename_i h; rw [Nat.mod_eq_of_lt h]; rfl
  · rfl
theorem digN_append : ∀ (a b : List UInt8) (n : Nat), digN (a ++ b) n = (digN a n).bind fun m => digN b m
  | [], b, n => rfl
  | x :: a, b, n => by
    rw [List.cons_append, digN, digN]
    split
    · rfl
    · exact digN_append a b _
theorem dg_byte (u : Nat) : 48 ≤ (dg u).toNat ∧ (dg u).toNat ≤ 57 ∧ (dg u).toNat - 48 = u % 10 := by
  unfold dg
  have h : u % 10 < 10 := Nat.mod_lt _ (by decide)
  rw [UInt8.toNat_ofNat']
  omega
theorem digN_one (b : UInt8) (n : Nat) (h0 : 48 ≤ b.toNat) (h1 : b.toNat ≤ 57) : digN [b] n = some (n * 10 + (b.toNat - 48)) := by
  rw [digN, if_neg]
  · rfl
  · rintro (h | h)
    · have := UInt8.lt_iff_toNat_lt.1 h; simp at this; omega
    · have := UInt8.lt_iff_toNat_lt.1 h; simp at this; omega
theorem digN_dec (u : Nat) : digN (Lib.decDigits u) 0 = some u := by
  induction u using Nat.strongRecOn with
  | _ u ih =>
    rw [dec_pre u, digN_append]
    obtain ⟨h0, h1, h2⟩ := dg_byte u
    unfold pre
    split
    · rename_i h
      show digN [dg u] 0 = some u
      rw [digN_one _ _ h0 h1, h2, Nat.mod_eq_of_lt h]; simp
    · rename_i h
      rw [ih (u / 10) (by omega)]
      show digN [dg u] (u / 10) = some u
      rw [digN_one _ _ h0 h1, h2]
      congr 1; omega
theorem dig_byte (b : UInt8) : ¬ (b < 48 ∨ 57 < b) ↔ 48 ≤ b.toNat ∧ b.toNat ≤ 57 := by
  have h1 : (b < 48) ↔ b.toNat < 48 := by rw [UInt8.lt_iff_toNat_lt]; simp
  have h2 : (57 < b) ↔ 57 < b.toNat := by rw [UInt8.lt_iff_toNat_lt]; simp
  rw [h1, h2]; omega
theorem digN_le : ∀ (l : List UInt8) (acc n : Nat), digN l acc = some n → acc ≤ n
  | [], acc, n, h => by injection h with h; omega
  | b :: r, acc, n, h => by
    rw [digN] at h
    split at h
    · cases h
    · have := digN_le r _ _ h; omega
theorem um_of : ∀ (l : List UInt8) (M acc n : Nat), digN l acc = some n → n ≤ M → M < 1844674407370955162 → Lib.parseUintM M acc l = .ok n
  | [], M, acc, n, h, _, _ => by injection h with h; rw [h]; rfl
  | b :: r, M, acc, n, h, hn, hM => by
    rw [digN] at h
    split at h
    · cases h
    · rename_i hb
      have hb := (dig_byte b).1 hb
      have hle := digN_le r _ _ h
      rw [Lib.parseUintM, if_pos hb, if_neg (by omega), if_neg (by omega)]
      exact um_of r M _ n h hn hM
theorem dec_ne (u : Nat) : Lib.decDigits u ≠ [] := by rw [dec_pre u]; simp
theorem dec_digit (u : Nat) (b : UInt8) (h : (Lib.decDigits u).head? = some b) : 48 ≤ b.toNat ∧ b.toNat ≤ 57 := by
  have h2 := digN_dec u
  cases hd : Lib.decDigits u with
  | nil => exact absurd hd (dec_ne u)
  | cons x t =>
    rw [hd] at h h2
    have hx : x = b := by simpa using h
    subst hx
    rw [digN] at h2
    split at h2
    · cases h2
    · rename_i hb; exact (dig_byte x).1 hb
theorem parse_itoa (v : Int) (h1 : -2147483648 ≤ v) (h2 : v ≤ 2147483647) : Lib.parseIntB 32 (Lib.itoa v) = .ok v := by
  have hM : (2 ^ 32 - 1 : Nat) < 1844674407370955162 := by decide
  rcases Int.lt_or_le v 0 with hv | hv
  · obtain ⟨u, rfl⟩ : ∃ u : Nat, v = -(u : Int) := ⟨v.natAbs, by omega⟩
    rw [Lib.itoa_neg u (by omega)]
    have hu : Lib.parseUintB 32 (Lib.decDigits u) = .ok u := by
      unfold Lib.parseUintB
      rw [if_neg (dec_ne u)]
      exact um_of _ _ 0 u (digN_dec u) (by simp; omega) hM
    unfold Lib.parseIntB
    simp only [show (45 : UInt8).toNat = 45 from rfl, or_true, if_true, hu]
    rw [if_neg (by simp), if_neg (by simp; omega)]
  · obtain ⟨u, rfl⟩ : ∃ u : Nat, v = (u : Int) := ⟨v.toNat, by omega⟩
    rw [Lib.itoa_nonneg u]
    have hu : Lib.parseUintB 32 (Lib.decDigits u) = .ok u := by
      unfold Lib.parseUintB
      rw [if_neg (dec_ne u)]
      exact um_of _ _ 0 u (digN_dec u) (by simp; omega) hM
    cases hd : Lib.decDigits u with
    | nil => exact absurd hd (dec_ne u)
    | cons x t =>
      have hx := dec_digit u x (by rw [hd]; rfl)
      rw [hd] at hu
      unfold Lib.parseIntB
      simp only
      rw [if_neg (by omega), hu]
      simp only
      rw [if_neg (by simp; omega), if_neg (by omega), if_neg (by omega)]
theorem num_back (v : Int) (h1 : -2147483648 ≤ v) (h2 : v ≤ 2147483647) : numV (Lib.itoa v) = some v := by
  unfold numV
  rw [parse_itoa v h1 h2]
  simp
theorem reg_back (u : Nat) (hu : u < 32) : regV (114 :: Lib.decDigits u) = some u := by
  unfold regV
  rw [if_pos (by simp [List.isPrefixOf])]
  have h : Lib.parseUintB 8 (Lib.decDigits u) = .ok u := by
    unfold Lib.parseUintB
    rw [if_neg (dec_ne u)]
    exact um_of _ _ 0 u (digN_dec u) (by simp; omega) (by decide)
  show (match Lib.parseUintB 8 (Lib.decDigits u) with | .ok n => if n < 32 ∧ 114 :: Lib.decDigits n = 114 :: Lib.decDigits u then some n else none | _ => none) = some u
  rw [h]
  simp [hu]
end Go.Proofs.YthjpddjfckdefaaGreatDoor.Pr
