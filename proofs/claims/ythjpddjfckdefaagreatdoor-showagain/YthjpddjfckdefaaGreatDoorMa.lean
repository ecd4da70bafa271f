/- Plain mathematics of a program's text: blanks, remarks, words, lines; no program in it. Conditions: none. -/
namespace Go.Proofs.YthjpddjfckdefaaGreatDoor.Pr

def blankB (b : UInt8) : Bool := b == 32 || b == 9
/-- A word under way that ends here. -/
def flush (p : Nat) (cur : List UInt8) : List (Nat × List UInt8) := if cur = [] then [] else [(p - cur.length, cur)]
/-- The words of a line: 'p': the place of its first byte; 'cur': the word under way; a # at a word's begin ends it all. -/
def wordsS : List UInt8 → Nat → List UInt8 → List (Nat × List UInt8)
  | [], p, cur => flush p cur
  | b :: r, p, cur => if blankB b then flush p cur ++ wordsS r (p + 1) [] else if b = 35 ∧ cur = [] then [] else wordsS r (p + 1) (cur ++ [b])

theorem wordsS_step (s : List UInt8) (k p : Nat) (cur : List UInt8) (hk : k < s.length) (hb : blankB s[k] = false) (hc : s[k] ≠ 35 ∨ cur ≠ []) :
    wordsS (s.drop k) p cur = wordsS (s.drop (k + 1)) (p + 1) (cur ++ [s[k]]) := by
  rw [List.drop_eq_getElem_cons hk, wordsS, if_neg (by simp [hb]), if_neg (by rintro ⟨h1, h2⟩; rcases hc with h | h <;> contradiction)]
theorem wordsS_blank (s : List UInt8) (k p : Nat) (cur : List UInt8) (hk : k < s.length) (hb : blankB s[k] = true) :
    wordsS (s.drop k) p cur = flush p cur ++ wordsS (s.drop (k + 1)) (p + 1) [] := by
  rw [List.drop_eq_getElem_cons hk, wordsS, if_pos hb]
theorem wordsS_hash (s : List UInt8) (k p : Nat) (hk : k < s.length) (hb : s[k] = 35) :
    wordsS (s.drop k) p [] = [] := by
  rw [List.drop_eq_getElem_cons hk, wordsS, if_neg (by rw [hb]; decide), if_pos ⟨hb, rfl⟩]
theorem wordsS_end (s : List UInt8) (k p : Nat) (cur : List UInt8) (hk : s.length ≤ k) :
    wordsS (s.drop k) p cur = flush p cur := by
  rw [List.drop_eq_nil_of_le hk]; rfl
theorem flush_nil (p : Nat) : flush p [] = [] := rfl
def cutL (s : List UInt8) (a b : Nat) : List UInt8 := (s.drop a).take (b - a)
theorem cutL_len (s : List UInt8) (a b : Nat) (hb : b ≤ s.length) : (cutL s a b).length = b - a := by
  simp [cutL]; omega
theorem cutL_same (s : List UInt8) (a : Nat) : cutL s a a = [] := by simp [cutL]
theorem cutL_snoc (s : List UInt8) (a b : Nat) (hab : a ≤ b) (hb : b < s.length) : cutL s a (b + 1) = cutL s a b ++ [s[b]] := by
  unfold cutL
  rw [show b + 1 - a = (b - a) + 1 from by omega, List.take_succ_eq_append_getElem (by simp; omega)]
  simp [show a + (b - a) = b from by omega]
theorem cutL_ne (s : List UInt8) (a b : Nat) (hab : a < b) (hb : b ≤ s.length) : cutL s a b ≠ [] := by
  intro h; have hl := cutL_len s a b hb; rw [h] at hl; simp at hl; omega
theorem flush_cut (s : List UInt8) (a b p : Nat) (hab : a < b) (hb : b ≤ s.length) : flush (p + b) (cutL s a b) = [(p + a, cutL s a b)] := by
  have hl := cutL_len s a b hb
  have : cutL s a b ≠ [] := cutL_ne s a b hab hb
  simp [flush, this, hl]; omega

/-- A line that says something: its words, and where it ends. -/
structure Ln where
  ws : List (Nat × List UInt8)
  en : Nat
/-- A line that begins at a place, if it says something. -/
def emit (st : Nat) (cur : List UInt8) : List Ln := if wordsS cur st [] = [] then [] else [⟨wordsS cur st [], st + cur.length⟩]
/-- The lines of a text: 'st': where the line under way begins; 'cur': what there is of it. -/
def linesS : List UInt8 → Nat → List UInt8 → List Ln
  | [], st, cur => emit st cur
  | b :: r, st, cur => if b = 10 then emit st cur ++ linesS r (st + cur.length + 1) [] else linesS r st (cur ++ [b])
theorem emit_nil (st : Nat) : emit st [] = [] := rfl
theorem linesS_step (s : List UInt8) (k st : Nat) (cur : List UInt8) (hk : k < s.length) (hb : s[k] ≠ 10) :
    linesS (s.drop k) st cur = linesS (s.drop (k + 1)) st (cur ++ [s[k]]) := by
  rw [List.drop_eq_getElem_cons hk, linesS, if_neg hb]
theorem linesS_nl (s : List UInt8) (k st : Nat) (cur : List UInt8) (hk : k < s.length) (hb : s[k] = 10) :
    linesS (s.drop k) st cur = emit st cur ++ linesS (s.drop (k + 1)) (st + cur.length + 1) [] := by
  rw [List.drop_eq_getElem_cons hk, linesS, if_pos hb]
theorem linesS_end (s : List UInt8) (k st : Nat) (cur : List UInt8) (hk : s.length ≤ k) :
    linesS (s.drop k) st cur = emit st cur := by
  rw [List.drop_eq_nil_of_le hk]; rfl
/-- Bytes without a 10 join the line under way. -/
theorem linesS_join : ∀ (a r : List UInt8) (st : Nat) (cur : List UInt8), (∀ b ∈ a, b ≠ 10) → linesS (a ++ r) st cur = linesS r st (cur ++ a)
  | [], r, st, cur, _ => by simp
  | b :: a, r, st, cur, h => by
    have h1 := linesS_join a r st (cur ++ [b]) (fun x hx => h x (List.mem_cons_of_mem _ hx))
    have h2 : b ≠ 10 := h b (List.mem_cons_self ..)
    rw [List.cons_append, linesS, if_neg h2, h1]; simp
/-- The line at the front of a text, without its end. -/
def headL (r : List UInt8) : List UInt8 := r.takeWhile fun b => b != 10
theorem headL_no : ∀ (r : List UInt8), ∀ b ∈ headL r, b ≠ 10
  | [], b, h => by simp [headL] at h
  | c :: r, b, h => by
    unfold headL at h
    rw [List.takeWhile_cons] at h
    split at h
    · rename_i hc
      rcases List.mem_cons.1 h with rfl | h'
      · simpa using hc
      · exact headL_no r b h'
    · simp at h
theorem headL_rest : ∀ (r : List UInt8), r = headL r ∨ ∃ t, r = headL r ++ 10 :: t
  | [] => .inl rfl
  | c :: r => by
    unfold headL
    rw [List.takeWhile_cons]
    by_cases hc : c = 10
    · subst hc; right; exact ⟨r, by simp⟩
    · rw [if_pos (by simpa using hc)]
      rcases headL_rest r with h | ⟨t, h⟩
      · left; exact congrArg (c :: ·) h
      · right; exact ⟨t, by rw [List.cons_append]; exact congrArg (c :: ·) h⟩
theorem headL_len (r : List UInt8) : (headL r).length ≤ r.length := List.Sublist.length_le (List.takeWhile_sublist _)
/-- The lines of a text from a place on: the first, and the others. -/
theorem lines_cut (s : List UInt8) (k : Nat) : linesS (s.drop k) k [] = emit k (headL (s.drop k)) ++ linesS (s.drop (k + (headL (s.drop k)).length + 1)) (k + (headL (s.drop k)).length + 1) [] := by
  rcases headL_rest (s.drop k) with h | ⟨t, h⟩
  · have hl : s.length ≤ k + (headL (s.drop k)).length + 1 := by
      have := congrArg List.length h
      simp only [List.length_drop] at this
      omega
    rw [linesS_end s _ _ _ hl, emit_nil, List.append_nil]
    have := linesS_join (headL (s.drop k)) [] k [] (headL_no _)
    rw [List.append_nil, ← h, List.nil_append] at this
    rw [this]; conv => rhs; rw [← h]
    rfl
  · have hd : s.drop (k + (headL (s.drop k)).length + 1) = t := by
      rw [Nat.add_assoc, ← List.drop_drop]
      have hx : ∀ (r a t : List UInt8), r = a ++ 10 :: t → r.drop (a.length + 1) = t := by
        rintro _ a t rfl
        rw [← List.drop_drop]; simp
      exact hx _ _ _ h
    rw [hd]
    conv => lhs; rw [h]
    rw [linesS_join _ _ _ _ (headL_no _), List.nil_append, linesS, if_pos rfl]
end Go.Proofs.YthjpddjfckdefaaGreatDoor.Pr
