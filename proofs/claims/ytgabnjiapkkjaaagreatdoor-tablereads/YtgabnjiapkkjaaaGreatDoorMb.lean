/- Plain mathematics of texts and tables: which words alone tell a table; a table's own lines are read as the table; what is read is within its bounds. Conditions: none. -/
import Derived.Test.YtgabnjiapkkjaaaGreatDoorPa
namespace Go.Proofs.YtgabnjiapkkjaaaGreatDoor.Tb

/-- The words' texts alone. -/
def flushT (cur : List UInt8) : List (List UInt8) := if cur = [] then [] else [cur]
def wordsT : List UInt8 → List UInt8 → List (List UInt8)
  | [], cur => flushT cur
  | b :: r, cur => if blankB b then flushT cur ++ wordsT r [] else wordsT r (cur ++ [b])
theorem words_texts : ∀ (s : List UInt8) (p : Nat) (cur : List UInt8), (wordsS s p cur).map (·.2) = wordsT s cur
  | [], p, cur => by simp only [wordsS, wordsT, flush, flushT]; split <;> simp
  | b :: r, p, cur => by
    simp only [wordsS, wordsT]
    split
    · rw [List.map_append, words_texts r]
      simp only [flush, flushT]; split <;> simp
    · exact words_texts r _ _
/-- A line's texts against its wants. -/
def runT : List Wk → List (List UInt8) → St → Option St
  | [], [], st => some st
  | _ :: _, [], _ => none
  | [], _ :: _, _ => none
  | K :: Ks, x :: xs, st => if K.code x st = 0 then runT Ks xs (K.next x st) else none
def wantsT : List (List UInt8) → List Wk
  | [] => []
  | x :: _ => wantsK (kindL x)
theorem runW_texts : ∀ (Ks : List Wk) (ws : List (Nat × List UInt8)) (e : Nat) (st : St), runT Ks (ws.map (·.2)) st = if (runW Ks ws e st).1 = none then some (runW Ks ws e st).2 else none
  | [], [], e, st => by simp [runT, runW]
  | _ :: _, [], e, st => by simp [runT, runW]
  | [], _ :: _, e, st => by simp [runT, runW]
  | K :: Ks, x :: xs, e, st => by
    simp only [runT, runW, List.map_cons]
    split
    · exact runW_texts Ks xs e _
    · simp
theorem wants_texts (ws : List (Nat × List UInt8)) : wantsL ws = wantsT (ws.map (·.2)) := by cases ws <;> rfl
def runLT : List (List (List UInt8)) → St → Option St
  | [], st => some st
  | l :: ls, st => (runT (wantsT l) l st).bind (runLT ls)
theorem runL_texts : ∀ (ls : List (List (Nat × List UInt8) × Nat)) (n : Nat) (st : St), (runL ls n st).1 = none → ∃ st', runLT (ls.map fun ln => ln.1.map (·.2)) st = some st' ∧ missB st' = false ∧ (runL ls n st).2 = st'
  | [], n, st, h => by
    simp only [runL] at h ⊢
    refine ⟨st, rfl, ?_, rfl⟩
    cases hm : missB st
    · rfl
    · rw [hm] at h; simp at h
  | ln :: ls, n, st, h => by
    have ht := runW_texts (wantsL ln.1) ln.1 ln.2 st
    rw [runL] at h ⊢
    rw [wants_texts] at ht
    rw [wants_texts] at h ⊢
    cases hr : runW (wantsT (ln.1.map (·.2))) ln.1 ln.2 st with
    | mk f st1 =>
      rw [hr] at h ht
      cases f with
      | some f => simp at h
      | none =>
        simp only at h ⊢
        obtain ⟨st', h1, h2, h3⟩ := runL_texts ls n st1 h
        refine ⟨st', ?_, h2, h3⟩
        simp only [List.map_cons, runLT, ht]
        simpa using h1
theorem runL_back : ∀ (ls : List (List (Nat × List UInt8) × Nat)) (n : Nat) (st st' : St), runLT (ls.map fun ln => ln.1.map (·.2)) st = some st' → missB st' = false → runL ls n st = (none, st')
  | [], n, st, st', h, hm => by
    simp only [List.map_nil, runLT, Option.some.injEq] at h
    subst h
    simp [runL, hm]
  | ln :: ls, n, st, st', h, hm => by
    have ht := runW_texts (wantsL ln.1) ln.1 ln.2 st
    rw [wants_texts] at ht
    rw [runL, wants_texts]
    simp only [List.map_cons, runLT, ht] at h
    cases hr : runW (wantsT (ln.1.map (·.2))) ln.1 ln.2 st with
    | mk f st1 =>
      rw [hr] at h
      cases f with
      | some f => simp at h
      | none =>
        simp only at h ⊢
        exact runL_back ls n st1 st' (by simpa using h) hm

/-- What is read is within its bounds. -/
def inv (st : St) : Prop := (∀ k, k < 4 → st.had k = true → okC st.t k = true) ∧ (st.had 4 = true → inB 0 4 st.t.d = true)
theorem inB_of_num {lo hi : Int} {l : List UInt8} (h : numC lo hi l = 0) : inB lo hi (decV l) = true := by
  unfold numC at h
  split at h
  · split at h
    · assumption
    · simp at h
  · simp at h
theorem okC_put_other {t : Tab} {o k : Nat} {v : Int} (h1 : o ≠ k) (h2 : o ≠ 4 + k) (h3 : o ≠ 8 + k) : okC (t.put o v) k = okC t k := by simp [okC, Tab.put, h1, h2, h3]

theorem run_once {o : Nat} {Ks : List Wk} {ws : List (List UInt8)} {st st' : St} (h : runT (wOnce o :: Ks) ws st = some st') : ∃ x xs, ws = x :: xs ∧ st.had o = false ∧ runT Ks xs (st.have o) = some st' := by
  cases ws with
  | nil => simp [runT] at h
  | cons x xs =>
    refine ⟨x, xs, rfl, ?_⟩
    cases hh : st.had o
    · simp [runT, Wk.code, Wk.next, wOnce, hh] at h
      exact ⟨rfl, h⟩
    · simp [runT, Wk.code, wOnce, hh] at h
theorem run_num {o : Nat} {lo hi : Int} {Ks : List Wk} {ws : List (List UInt8)} {st st' : St} (h : runT (wNum o lo hi :: Ks) ws st = some st') : ∃ x xs, ws = x :: xs ∧ inB lo hi (decV x) = true ∧ runT Ks xs { st with t := st.t.put o (decV x) } = some st' := by
  cases ws with
  | nil => simp [runT] at h
  | cons x xs =>
    refine ⟨x, xs, rfl, ?_⟩
    by_cases hn : numC lo hi x = 0
    · simp [runT, Wk.code, Wk.next, wNum, hn] at h
      exact ⟨inB_of_num hn, h⟩
    · simp [runT, Wk.code, wNum, hn] at h
theorem run_exact {s : List UInt8} {Ks : List Wk} {ws : List (List UInt8)} {st st' : St} (h : runT (wExact s :: Ks) ws st = some st') : ∃ x xs, ws = x :: xs ∧ runT Ks xs st = some st' := by
  cases ws with
  | nil => simp [runT] at h
  | cons x xs =>
    refine ⟨x, xs, rfl, ?_⟩
    by_cases hn : x = s
    · simp [runT, Wk.code, Wk.next, wExact, hn] at h
      exact h
    · simp [runT, Wk.code, wExact, hn] at h
theorem run_end {ws : List (List UInt8)} {st st' : St} (h : runT [] ws st = some st') : st' = st := by
  cases ws with
  | nil => simp [runT] at h; exact h.symm
  | cons x xs => simp [runT] at h
theorem inv_line {l : List (List UInt8)} {st st' : St} (h : runT (wantsT l) l st = some st') (hi : inv st) : inv st' := by
  cases l with
  | nil => have := run_end h; subst this; exact hi
  | cons x xs =>
    simp only [wantsT] at h
    have hle := kindL_le x
    by_cases h5 : kindL x = 5
    · rw [h5, wantsK, if_pos rfl] at h
      simp [runT, Wk.code, wNothing] at h
    · by_cases h4 : kindL x = 4
      · rw [h4, wantsK, if_neg (by omega), if_pos rfl] at h
        obtain ⟨_, xs1, _, h1, h⟩ := run_once h
        obtain ⟨y, xs2, _, h2, h⟩ := run_num h
        have := run_end h
        subst this
        refine ⟨fun k hk hh => ?_, fun _ => by simpa [Tab.put, St.have] using h2⟩
        rw [okC_put_other (by omega) (by omega) (by omega)]
        exact hi.1 k hk (by simpa [St.have, show ¬ 4 = k from by omega] using hh)
      · obtain ⟨k, hk⟩ : ∃ k, kindL x = k := ⟨_, rfl⟩
        rw [hk] at h h5 h4 hle
        rw [wantsK, if_neg h5, if_neg h4] at h
        obtain ⟨_, xs1, _, h1, h⟩ := run_once h
        obtain ⟨y1, xs2, _, h2, h⟩ := run_num h
        obtain ⟨_, xs3, _, h⟩ := run_exact h
        obtain ⟨y2, xs4, _, h3, h⟩ := run_num h
        obtain ⟨_, xs5, _, h⟩ := run_exact h
        obtain ⟨y3, xs6, _, h6, h⟩ := run_num h
        have := run_end h
        subst this
        refine ⟨fun j hj hh => ?_, fun hh => ?_⟩
        · by_cases e : k = j
          · subst e
            simp [okC, Tab.put, St.have, h2, h3, h6]
          · rw [okC_put_other (by omega) (by omega) (by omega), okC_put_other (by omega) (by omega) (by omega), okC_put_other (by omega) (by omega) (by omega)]
            exact hi.1 j hj (by simpa [St.have, e] using hh)
        · have := hi.2 (by simpa [St.have, h4] using hh)
          simpa [Tab.put, St.have, show ¬ 8 + k = 12 from by omega, show ¬ 4 + k = 12 from by omega, show ¬ k = 12 from by omega] using this
theorem inv_lines : ∀ (ls : List (List (List UInt8))) (st st' : St), runLT ls st = some st' → inv st → inv st'
  | [], st, st', h, hi => by simp [runLT] at h; subst h; exact hi
  | l :: ls, st, st', h, hi => by
    simp only [runLT, Option.bind_eq_some_iff] at h
    obtain ⟨st1, h1, h2⟩ := h
    exact inv_lines ls st1 st' h2 (inv_line h1 hi)
/-- What Parse reads is a table. -/
theorem parse_ok (l : List UInt8) (h : (parseF l).1 = none) : (parseF l).2.ok = true := by
  unfold parseF at h ⊢
  split at h
  · simp at h
  · rename_i hl
    rw [if_neg hl]
    simp only at h ⊢
    obtain ⟨st', h1, h2, h3⟩ := runL_texts _ _ _ h
    rw [h3]
    have hi := inv_lines _ _ _ h1 ⟨fun k _ hh => by simp at hh, fun hh => by simp at hh⟩
    simp only [missB, Bool.not_eq_false', Bool.and_eq_true] at h2
    obtain ⟨⟨⟨⟨a0, a1⟩, a2⟩, a3⟩, a4⟩ := h2
    simp [Tab.ok, hi.1 0 (by omega) a0, hi.1 1 (by omega) a1, hi.1 2 (by omega) a2, hi.1 3 (by omega) a3, hi.2 a4]

end Go.Proofs.YtgabnjiapkkjaaaGreatDoor.Tb
