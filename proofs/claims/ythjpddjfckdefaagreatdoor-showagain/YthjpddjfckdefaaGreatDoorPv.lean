/- The words of lines that are written: plain mathematics. Conditions: the words have no blank, no end of a line, and do not open with a remark. -/
import Derived.Test.YthjpddjfckdefaaGreatDoorMx
import Derived.Test.YthjpddjfckdefaaGreatDoorPn
import Derived.Test.YthjpddjfckdefaaGreatDoorSv
namespace Go.Proofs.YthjpddjfckdefaaGreatDoor.Pr
open _root_.Go.Proofs.YthjpddjfckdefaaGreatDoor.Op

/-- A word that stays one. -/
structure Gw (x : List UInt8) : Prop where
  ne : x ≠ []
  nb : ∀ b ∈ x, blankB b = false ∧ b ≠ 10
  h : ∀ r, x ≠ 35 :: r
theorem words_run : ∀ (x Y : List UInt8) (p : Nat) (cur : List UInt8), (∀ b ∈ x, blankB b = false) → (cur ≠ [] ∨ ∀ r, x ≠ 35 :: r) → wordsS (x ++ Y) p cur = wordsS Y (p + x.length) (cur ++ x)
  | [], Y, p, cur, _, _ => by simp
  | b :: x, Y, p, cur, hb, hc => by
    have h1 : ¬ blankB b = true := by rw [hb b (List.mem_cons_self ..)]; simp
    have h2 : ¬ (b = 35 ∧ cur = []) := by
      rintro ⟨rfl, hcur⟩
      rcases hc with hc | hc
      · exact hc hcur
      · exact hc x rfl
    rw [List.cons_append, wordsS, if_neg h1, if_neg h2, words_run x Y (p + 1) (cur ++ [b]) (fun y hy => hb y (List.mem_cons_of_mem _ hy)) (.inl (by simp))]
    simp [Nat.add_comm, Nat.add_left_comm]
theorem flush_one (p : Nat) {x : List UInt8} (h : x ≠ []) : (flush p x).map (·.2) = [x] := by
  unfold flush
  rw [if_neg h]
  rfl
theorem words_join : ∀ (r : List (List UInt8)) (x : List UInt8) (p : Nat), (∀ y ∈ x :: r, Gw y) → (wordsS (joinL (x :: r)) p []).map (·.2) = x :: r
  | [], x, p, h => by
    have hx := h x (List.mem_cons_self ..)
    rw [join_one]
    have := words_run x [] p [] (fun b hb => (hx.nb b hb).1) (.inr hx.h)
    rw [List.append_nil] at this
    rw [this]
    show (flush _ _).map (·.2) = _
    rw [flush_one _ (by simpa using hx.ne)]
    simp
  | y :: r, x, p, h => by
    have hx := h x (List.mem_cons_self ..)
    rw [join_cons, List.append_assoc, words_run x _ p [] (fun b hb => (hx.nb b hb).1) (.inr hx.h), List.nil_append, List.singleton_append, wordsS, if_pos (by decide), List.map_append, flush_one _ hx.ne, words_join r y _ (fun z hz => h z (List.mem_cons_of_mem _ hz))]
    rfl
theorem words_blanks : ∀ (bl J : List UInt8) (p : Nat), (∀ b ∈ bl, b = 32) → (wordsS (bl ++ J) p []).map (·.2) = (wordsS J p []).map (·.2)
  | [], J, p, _ => rfl
  | b :: bl, J, p, h => by
    obtain rfl := h b (List.mem_cons_self ..)
    rw [List.cons_append, wordsS, if_pos (by decide)]
    show (flush p [] ++ _).map (·.2) = _
    rw [List.map_append, show (flush p ([] : List UInt8)).map (·.2) = [] from rfl, List.nil_append, words_blanks bl J (p + 1) (fun y hy => h y (List.mem_cons_of_mem _ hy))]
    exact words_snd J _ _ _
theorem join_no : ∀ (r : List (List UInt8)) (x : List UInt8), (∀ y ∈ x :: r, Gw y) → ∀ b ∈ joinL (x :: r), b ≠ 10
  | [], x, h, b, hb => by rw [join_one] at hb; exact ((h x (List.mem_cons_self ..)).nb b hb).2
  | y :: r, x, h, b, hb => by
    rw [join_cons, List.mem_append, List.mem_append] at hb
    rcases hb with (hb | hb) | hb
    · exact ((h x (List.mem_cons_self ..)).nb b hb).2
    · rw [List.mem_singleton.1 hb]; decide
    · exact join_no r y (fun z hz => h z (List.mem_cons_of_mem _ hz)) b hb
/-- A line that is written, ahead of others. -/
theorem line_conts (bl : List UInt8) (ws : List (List UInt8)) (R : List UInt8) (p : Nat) (hbl : ∀ b ∈ bl, b = 32) (hne : ws ≠ []) (h : ∀ y ∈ ws, Gw y) : conts (linesS (bl ++ joinL ws ++ [10] ++ R) p []) = ws :: conts (linesS R 0 []) := by
  cases ws with
  | nil => exact absurd rfl hne
  | cons x r =>
    have hw : (wordsS (bl ++ joinL (x :: r)) p []).map (·.2) = x :: r := by rw [words_blanks _ _ _ hbl, words_join r x p h]
    have hno : ∀ b ∈ bl ++ joinL (x :: r), b ≠ 10 := fun b hb => by
      rcases List.mem_append.1 hb with hb | hb
      · rw [hbl b hb]; decide
      · exact join_no r x h b hb
    rw [List.append_assoc, linesS_join _ _ _ _ hno, List.nil_append, List.singleton_append, linesS, if_pos rfl, conts_append, lines_conts R _ 0 []]
    unfold emit
    rw [if_neg (fun e => by rw [e] at hw; cases hw)]
    show [(wordsS (bl ++ joinL (x :: r)) p []).map (·.2)] ++ _ = _
    rw [hw]
    rfl
/-- Lines of operations. -/
theorem ops_conts (f : O → List (List UInt8)) (bl : List UInt8) (hbl : ∀ b ∈ bl, b = 32) : ∀ (xs : List O) (R : List UInt8), (∀ o ∈ xs, opL o = joinL (f o) ∧ f o ≠ [] ∧ ∀ y ∈ f o, Gw y) → conts (linesS (linesL bl xs ++ R) 0 []) = xs.map f ++ conts (linesS R 0 [])
  | [], R, _ => by simp [linesL]
  | o :: xs, R, h => by
    obtain ⟨h1, h2, h3⟩ := h o (List.mem_cons_self ..)
    rw [show linesL bl (o :: xs) ++ R = bl ++ joinL (f o) ++ [10] ++ (linesL bl xs ++ R) by simp [linesL, h1], line_conts bl (f o) _ 0 hbl h2 h3, ops_conts f bl hbl xs R (fun x hx => h x (List.mem_cons_of_mem _ hx))]
    rfl
end Go.Proofs.YthjpddjfckdefaaGreatDoor.Pr
