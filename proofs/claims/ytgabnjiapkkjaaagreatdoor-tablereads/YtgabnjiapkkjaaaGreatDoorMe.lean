/- Plain mathematics of lines read in one pass: what is still to come, outside and inside a remark. Conditions: none. -/
import Derived.Test.YtgabnjiapkkjaaaGreatDoorLi
namespace Go.Proofs.YtgabnjiapkkjaaaGreatDoor.Tb

abbrev Lns := List (List (Nat × List UInt8) × Nat)
/-- What is still to come, outside a remark: 'ws' words of the line stand, 'cur' is the word under way. -/
def headL (ws : List (Nat × List UInt8)) (cur r : List UInt8) (p : Nat) : Lns :=
  match splitN0 r with
  | [] => []
  | x :: xs => (ws ++ wordsS (said x) p cur, p + (said x).length) :: linesL xs (p + (x.length + 1))
/-- The same inside a remark: the line's words and end stand. -/
def headR (ws : List (Nat × List UInt8)) (en : Nat) (r : List UInt8) (p : Nat) : Lns :=
  match splitN0 r with
  | [] => []
  | x :: xs => (ws, en) :: linesL xs (p + (x.length + 1))
theorem split_ne (r : List UInt8) : ∃ x xs, splitN0 r = x :: xs := by
  cases h : splitN0 r with
  | nil => have := tot_split r; rw [h] at this; simp [tot] at this
  | cons x xs => exact ⟨x, xs, rfl⟩
theorem split_other {b : UInt8} {r x : List UInt8} {xs : List (List UInt8)} (hb : b ≠ 10) (h : splitN0 r = x :: xs) : splitN0 (b :: r) = (b :: x) :: xs := by
  simp [splitN0, hb, h]
theorem said_other {b : UInt8} {x : List UInt8} (hb : b ≠ 35) : said (b :: x) = b :: said x := by simp [said, hb]
theorem head_start (r : List UInt8) (p : Nat) : headL [] [] r p = linesL (splitN0 r) p := by
  obtain ⟨x, xs, h⟩ := split_ne r
  simp [headL, h, linesL]
theorem headL_10 (ws : List (Nat × List UInt8)) (cur r : List UInt8) (p : Nat) : headL ws cur (10 :: r) p = (ws ++ flush p cur, p) :: headL [] [] r (p + 1) := by
  rw [head_start]
  simp [headL, splitN0, said, wordsS]
theorem headL_35 (ws : List (Nat × List UInt8)) (cur r : List UInt8) (p : Nat) : headL ws cur (35 :: r) p = headR (ws ++ flush p cur) p r (p + 1) := by
  obtain ⟨x, xs, h⟩ := split_ne r
  rw [headL, split_other (by decide) h, headR, h]
  simp [said, wordsS, Nat.add_assoc, Nat.add_comm]
theorem headL_blank {b : UInt8} (ws : List (Nat × List UInt8)) (cur r : List UInt8) (p : Nat) (hb : blankB b = true) : headL ws cur (b :: r) p = headL (ws ++ flush p cur) [] r (p + 1) := by
  obtain ⟨x, xs, h⟩ := split_ne r
  have h10 : b ≠ 10 := by rintro rfl; revert hb; decide
  have h35 : b ≠ 35 := by rintro rfl; revert hb; decide
  rw [headL, split_other h10 h, headL, h]
  simp only [said_other h35, wordsS, hb, if_true, List.length_cons, List.append_assoc]
  rw [show p + 1 + (said x).length = p + ((said x).length + 1) from by omega, show p + 1 + (x.length + 1) = p + (x.length + 1 + 1) from by omega]
theorem headL_go {b : UInt8} (ws : List (Nat × List UInt8)) (cur r : List UInt8) (p : Nat) (hb : blankB b = false) (h10 : b ≠ 10) (h35 : b ≠ 35) : headL ws cur (b :: r) p = headL ws (cur ++ [b]) r (p + 1) := by
  obtain ⟨x, xs, h⟩ := split_ne r
  rw [headL, split_other h10 h, headL, h]
  simp only [said_other h35, wordsS, hb, Bool.false_eq_true, if_false, List.length_cons]
  rw [show p + 1 + (said x).length = p + ((said x).length + 1) from by omega, show p + 1 + (x.length + 1) = p + (x.length + 1 + 1) from by omega]
theorem headL_end (ws : List (Nat × List UInt8)) (cur : List UInt8) (p : Nat) : headL ws cur [] p = [(ws ++ flush p cur, p)] := by
  simp [headL, splitN0, said, wordsS, linesL]
theorem headR_10 (ws : List (Nat × List UInt8)) (en : Nat) (r : List UInt8) (p : Nat) : headR ws en (10 :: r) p = (ws, en) :: headL [] [] r (p + 1) := by
  rw [head_start]
  simp [headR, splitN0]
theorem headR_go {b : UInt8} (ws : List (Nat × List UInt8)) (en : Nat) (r : List UInt8) (p : Nat) (h10 : b ≠ 10) : headR ws en (b :: r) p = headR ws en r (p + 1) := by
  obtain ⟨x, xs, h⟩ := split_ne r
  rw [headR, split_other h10 h, headR, h]
  simp only [List.length_cons]
  rw [show p + 1 + (x.length + 1) = p + (x.length + 1 + 1) from by omega]
theorem headR_end (ws : List (Nat × List UInt8)) (en p : Nat) : headR ws en [] p = [(ws, en)] := by simp [headR, splitN0, linesL]
theorem head_all (s : List UInt8) : headL [] [] s 0 = linesT s := head_start s 0

end Go.Proofs.YtgabnjiapkkjaaaGreatDoor.Tb
