/- Blanks, remarks and empty lines between lines change no word: plain mathematics. Conditions: none. -/
import Derived.Test.YthfchelkfbboaaaGreatDoorMw
namespace Go.Proofs.YthfchelkfbboaaaGreatDoor.Pr
open _root_.Go.Proofs.YthfchelkfbboaaaGreatDoor.Op

theorem flush_snd (p q : Nat) (cur : List UInt8) : (flush p cur).map (·.2) = (flush q cur).map (·.2) := by
  unfold flush; split <;> rfl
theorem words_snd : ∀ (s : List UInt8) (p q : Nat) (cur : List UInt8), (wordsS s p cur).map (·.2) = (wordsS s q cur).map (·.2)
  | [], p, q, cur => flush_snd p q cur
  | b :: r, p, q, cur => by
    unfold wordsS
    split
    · rw [List.map_append, List.map_append, flush_snd p q cur, words_snd r (p + 1) (q + 1) []]
    · split
      · rfl
      · exact words_snd r _ _ _
theorem emit_conts (st st' : Nat) (cur : List UInt8) : conts (emit st cur) = conts (emit st' cur) := by
  have h := words_snd cur st st' []
  unfold emit
  by_cases h1 : wordsS cur st [] = []
  · have h2 : wordsS cur st' [] = [] := by rw [h1] at h; simpa using h.symm
    rw [if_pos h1, if_pos h2]
  · have h2 : ¬ wordsS cur st' [] = [] := fun e => h1 (by rw [e] at h; simpa using h)
    rw [if_neg h1, if_neg h2]
    show [(wordsS cur st []).map (·.2)] = [(wordsS cur st' []).map (·.2)]
    rw [h]
theorem conts_append (a b : List Ln) : conts (a ++ b) = conts a ++ conts b := List.map_append
/-- Where a text begins is nothing to its words. -/
theorem lines_conts : ∀ (s : List UInt8) (p q : Nat) (cur : List UInt8), conts (linesS s p cur) = conts (linesS s q cur)
  | [], p, q, cur => emit_conts p q cur
  | b :: r, p, q, cur => by
    unfold linesS
    split
    · rw [conts_append, conts_append, emit_conts p q cur, lines_conts r (p + cur.length + 1) (q + cur.length + 1) []]
    · exact lines_conts r _ _ _
/-- A line's words, once its bytes so far are read. -/
theorem words_way : ∀ (c : List UInt8) (p : Nat) (cur : List UInt8), (∃ A p' c', ∀ X, wordsS (c ++ X) p cur = A ++ wordsS X p' c') ∨ ∃ A, ∀ X, wordsS (c ++ X) p cur = A
  | [], p, cur => .inl ⟨[], p, cur, fun X => rfl⟩
  | b :: r, p, cur => by
    by_cases h1 : blankB b = true
    · rcases words_way r (p + 1) [] with ⟨A, p', c', h⟩ | ⟨A, h⟩
      · exact .inl ⟨flush p cur ++ A, p', c', fun X => by rw [List.cons_append, wordsS, if_pos h1, h, List.append_assoc]⟩
      · exact .inr ⟨flush p cur ++ A, fun X => by rw [List.cons_append, wordsS, if_pos h1, h]⟩
    · by_cases h2 : b = 35 ∧ cur = []
      · exact .inr ⟨[], fun X => by rw [List.cons_append, wordsS, if_neg h1, if_pos h2]⟩
      · rcases words_way r (p + 1) (cur ++ [b]) with ⟨A, p', c', h⟩ | ⟨A, h⟩
        · exact .inl ⟨A, p', c', fun X => by rw [List.cons_append, wordsS, if_neg h1, if_neg h2, h]⟩
        · exact .inr ⟨A, fun X => by rw [List.cons_append, wordsS, if_neg h1, if_neg h2, h]⟩
/-- A blank and what says nothing. -/
theorem words_blank (c F : List UInt8) (p : Nat) (h : ∀ q, wordsS F q [] = []) : wordsS (c ++ 32 :: F) p [] = wordsS c p [] := by
  rcases words_way c p [] with ⟨A, p', c', hw⟩ | ⟨A, hw⟩
  · have h1 := hw []
    rw [List.append_nil] at h1
    rw [hw, h1]
    congr 1
    have e : wordsS (32 :: F) p' c' = flush p' c' ++ wordsS F (p' + 1) [] := by rw [wordsS, if_pos (by decide)]
    rw [e, h, List.append_nil]
    rfl
  · have h1 := hw []
    rw [List.append_nil] at h1
    rw [hw, h1]
theorem emit_blank (c F : List UInt8) (st : Nat) (h : ∀ q, wordsS F q [] = []) : conts (emit st (c ++ 32 :: F)) = conts (emit st c) := by
  unfold emit
  rw [words_blank c F st h]
  split
  · rfl
  · rfl
/-- The lines, once the bytes so far are read. -/
theorem lines_way : ∀ (c : List UInt8) (st : Nat) (cur : List UInt8), ∃ A st' cur', ∀ X, linesS (c ++ X) st cur = A ++ linesS X st' cur'
  | [], st, cur => ⟨[], st, cur, fun X => rfl⟩
  | b :: r, st, cur => by
    by_cases h : b = 10
    · obtain ⟨A, st', cur', hw⟩ := lines_way r (st + cur.length + 1) []
      exact ⟨emit st cur ++ A, st', cur', fun X => by rw [List.cons_append, linesS, if_pos h, hw, List.append_assoc]⟩
    · obtain ⟨A, st', cur', hw⟩ := lines_way r st (cur ++ [b])
      exact ⟨A, st', cur', fun X => by rw [List.cons_append, linesS, if_neg h, hw]⟩
/-- What is set between lines. -/
def fillL : List (List UInt8) := [[], [10], [32, 9], [35, 32, 120], [10, 10, 35, 32, 98, 108, 111, 99, 107, 32, 57, 58, 10], [9, 35]]
theorem nl (R : List UInt8) (st : Nat) (cur : List UInt8) : conts (linesS (10 :: R) st cur) = conts (emit st cur) ++ conts (linesS R 0 []) := by
  rw [linesS, if_pos rfl, conts_append, lines_conts R _ 0]
theorem fill_here (F R : List UInt8) (st : Nat) (cur : List UInt8) (hF : F ∈ fillL) : conts (linesS (32 :: F ++ 10 :: R) st cur) = conts (linesS (10 :: R) st cur) := by
  have e0 : ∀ q, wordsS [] q [] = [] := fun q => rfl
  have e2 : ∀ q, wordsS [32, 9] q [] = [] := fun q => rfl
  have e3 : ∀ q, wordsS [35, 32, 120] q [] = [] := fun q => rfl
  have e4 : ∀ q, wordsS [35, 32, 98, 108, 111, 99, 107, 32, 57, 58] q [] = [] := fun q => rfl
  have e5 : ∀ q, wordsS [9, 35] q [] = [] := fun q => rfl
  have em : ∀ q, conts (emit q []) = [] := fun q => rfl
  have em4 : ∀ q, conts (emit q [35, 32, 98, 108, 111, 99, 107, 32, 57, 58]) = [] := fun q => by unfold emit; rw [if_pos (e4 q)]; rfl
  simp only [fillL, List.mem_cons, List.not_mem_nil, or_false] at hF
  rcases hF with rfl | rfl | rfl | rfl | rfl | rfl
  · rw [show (32 :: [] ++ 10 :: R : List UInt8) = [32] ++ (10 :: R) from rfl, linesS_join [32] _ _ _ (by decide), nl, nl, emit_blank cur [] st e0]
  · rw [show (32 :: [10] ++ 10 :: R : List UInt8) = [32] ++ (10 :: 10 :: R) from rfl, linesS_join [32] _ _ _ (by decide), nl, nl, nl, emit_blank cur [] st e0, em]; rfl
  · rw [show (32 :: [32, 9] ++ 10 :: R : List UInt8) = [32, 32, 9] ++ (10 :: R) from rfl, linesS_join [32, 32, 9] _ _ _ (by decide), nl, nl, emit_blank cur [32, 9] st e2]
  · rw [show (32 :: [35, 32, 120] ++ 10 :: R : List UInt8) = [32, 35, 32, 120] ++ (10 :: R) from rfl, linesS_join [32, 35, 32, 120] _ _ _ (by decide), nl, nl, emit_blank cur [35, 32, 120] st e3]
  · rw [show (32 :: [10, 10, 35, 32, 98, 108, 111, 99, 107, 32, 57, 58, 10] ++ 10 :: R : List UInt8) = [32] ++ (10 :: 10 :: ([35, 32, 98, 108, 111, 99, 107, 32, 57, 58] ++ (10 :: 10 :: R))) from rfl, linesS_join [32] _ _ _ (by decide), nl, nl, linesS_join [35, 32, 98, 108, 111, 99, 107, 32, 57, 58] _ _ _ (by decide), List.nil_append, nl, nl, nl, emit_blank cur [] st e0, em, em4]; rfl
  · rw [show (32 :: [9, 35] ++ 10 :: R : List UInt8) = [32, 9, 35] ++ (10 :: R) from rfl, linesS_join [32, 9, 35] _ _ _ (by decide), nl, nl, emit_blank cur [9, 35] st e5]
/-- A text so far, and the same with things between its lines. -/
def Same (S P : List UInt8) : Prop := ∀ R, conts (linesS (S ++ R) 0 []) = conts (linesS (P ++ R) 0 [])
theorem Same.start : Same [10] [] := fun R => by rw [List.singleton_append, nl]; rfl
theorem Same.byte {S P : List UInt8} (h : Same S P) (b : UInt8) : Same (S ++ [b]) (P ++ [b]) := fun R => by
  rw [List.append_assoc, List.append_assoc]; exact h _
theorem Same.fill {S P : List UInt8} (h : Same S P) (F : List UInt8) (hF : F ∈ fillL) : Same (S ++ (32 :: F) ++ [10]) (P ++ [10]) := fun R => by
  rw [List.append_assoc, List.append_assoc, List.append_assoc, h]
  obtain ⟨A, st, cur, hw⟩ := lines_way P 0 []
  rw [hw, hw, conts_append, conts_append]
  congr 1
  exact fill_here F R st cur hF
theorem Same.all {S P : List UInt8} (h : Same S P) : conts (linesS S 0 []) = conts (linesS P 0 []) := by
  have := h []
  rwa [List.append_nil, List.append_nil] at this
end Go.Proofs.YthfchelkfbboaaaGreatDoor.Pr
