/- Plain mathematics of a table's lines in another order, with other blanks, remarks and empty lines: they are read as the table. Conditions: the table's numbers are within their bounds. -/
import Derived.Test.YtgabnjiapkkjaaaGreatDoorMc
namespace Go.Proofs.YtgabnjiapkkjaaaGreatDoor.Tb

def lineA (t : Tab) (i : Nat) : List (List UInt8) := if i < 4 then lineW t i else lineD t
def lnB (t : Tab) (i : Nat) : List UInt8 := Lib.join (lineA t i) [32]
def stp (t : Tab) (i : Nat) (st : St) : St := if i < 4 then ⟨(st.have i).had, ((st.t.put i (t.u i)).put (4 + i) (t.l i)).put (8 + i) (t.b i)⟩ else ⟨(st.have 4).had, st.t.put 12 t.d⟩
theorem run_lineA (t : Tab) (h : t.ok = true) (i : Nat) (hi : i < 5) (st : St) (hh : st.had i = false) : runT (wantsT (lineA t i)) (lineA t i) st = some (stp t i st) := by
  have hp := ok_parts h
  by_cases h4 : i < 4
  · have ho : okC t i = true := by
      have := hp.2 i h4
      simp [okC, this.1, this.2.1, this.2.2]
    rw [lineA, if_pos h4, stp, if_pos h4]
    exact run_class t i h4 ho st hh
  · obtain rfl : i = 4 := by omega
    rw [lineA, if_neg h4, stp, if_neg h4]
    exact run_delay t hp.1 st hh
theorem lineA_good {t : Tab} (h : t.ok = true) (i : Nat) : lineA t i ≠ [] ∧ ∀ w ∈ lineA t i, w ≠ [] ∧ ∀ b ∈ w, goodB b = true := by
  have hp := ok_parts h
  by_cases h4 : i < 4
  · have ho : okC t i = true := by
      have := hp.2 i h4
      simp [okC, this.1, this.2.1, this.2.2]
    rw [lineA, if_pos h4]
    exact ⟨by simp [lineW], lineW_good ho⟩
  · rw [lineA, if_neg h4]
    exact ⟨by simp [lineD], lineD_good hp.1⟩
theorem runT_nil (st : St) : runT (wantsT []) [] st = some st := rfl
theorem run5 (t : Tab) (h : t.ok = true) (a b c d e : Nat) (st : St) (ha : a < 5) (hb : b < 5) (hc : c < 5) (hd : d < 5) (he : e < 5) (h1 : st.had a = false) (h2 : (stp t a st).had b = false) (h3 : (stp t b (stp t a st)).had c = false)
    (h4 : (stp t c (stp t b (stp t a st))).had d = false) (h5 : (stp t d (stp t c (stp t b (stp t a st)))).had e = false) :
    runLT [lineA t a, [], lineA t b, [], lineA t c, [], lineA t d, [], lineA t e, [], []] st = some (stp t e (stp t d (stp t c (stp t b (stp t a st))))) := by
  simp only [runLT, runT_nil, Option.bind_some, run_lineA t h a ha st h1, run_lineA t h b hb _ h2, run_lineA t h c hc _ h3, run_lineA t h d hd _ h4, run_lineA t h e he _ h5]

/-- Each blank written as two. -/
def subL (l : List UInt8) : List UInt8 := l.flatMap fun b => if b = 32 then [9, 32] else [b]
theorem subL_append (a b : List UInt8) : subL (a ++ b) = subL a ++ subL b := by simp [subL]
theorem subL_word : ∀ (w : List UInt8), (∀ b ∈ w, b ≠ 32) → subL w = w
  | [], _ => rfl
  | b :: w, h => by
    have h1 := subL_word w (fun x hx => h x (List.mem_cons_of_mem _ hx))
    have h2 := h b (List.mem_cons_self ..)
    simp only [subL, List.flatMap_cons] at h1 ⊢
    simp [h2, h1]
theorem subL_join : ∀ (ws : List (List UInt8)), (∀ w ∈ ws, ∀ b ∈ w, b ≠ 32) → subL (Lib.join ws [32]) = Lib.join ws [9, 32]
  | [], _ => by simp [Lib.join_nil, subL]
  | [w], h => by rw [Lib.join_one, Lib.join_one]; exact subL_word w (h w (by simp))
  | w :: v :: ws, h => by
    have h1 := subL_join (v :: ws) (fun x hx => h x (List.mem_cons_of_mem _ hx))
    have e : ∀ sep : List UInt8, Lib.join (w :: v :: ws) sep = w ++ (sep ++ Lib.join (v :: ws) sep) := fun sep => by simp [Lib.join, List.intercalate, List.intersperse]
    rw [e, e, subL_append, subL_append, h1, subL_word w (h w (by simp))]
    rfl
theorem good_ne32 {b : UInt8} (h : goodB b = true) : b ≠ 32 := by
  rintro rfl
  revert h; decide
theorem sub_line {t : Tab} (h : t.ok = true) (i : Nat) : subL (lnB t i) = Lib.join (lineA t i) [9, 32] := subL_join _ (fun w hw b hb => good_ne32 (((lineA_good h i).2 w hw).2 b hb))
/-- One line, blanks doubled, a remark behind it, an empty line behind that. -/
def pcL (t : Tab) (bt : List UInt8) (i : Nat) : List UInt8 := subL (lnB t i) ++ ([32, 35] ++ bt ++ [10, 10])
def outK (t : Tab) (bt : List UInt8) (k : Nat) : Nat → List UInt8
  | 0 => []
  | n + 1 => outK t bt k n ++ pcL t bt ((k + 4 * n) % 5)
def remL (t : Tab) (bt : List UInt8) (i : Nat) : List UInt8 := subL (lnB t i) ++ [32] ++ 35 :: bt
theorem pcL_eq (t : Tab) (bt : List UInt8) (i : Nat) (r : List UInt8) : pcL t bt i ++ r = remL t bt i ++ 10 :: ([] ++ 10 :: r) := by simp [pcL, remL]
theorem no_join {t : Tab} (h : t.ok = true) (i : Nat) : ∀ b ∈ subL (lnB t i) ++ [32], b ≠ 10 ∧ b ≠ 35 := by
  intro b hb
  rw [List.mem_append, sub_line h i] at hb
  rcases hb with hb | hb
  · exact join_all (p := fun b => b ≠ 10 ∧ b ≠ 35) [9, 32] (by decide) _ (fun w hw b hb => (good_parts (((lineA_good h i).2 w hw).2 b hb)).2) b hb
  · simp at hb; subst hb; decide
theorem rem_no10 {t : Tab} (h : t.ok = true) (bt : List UInt8) (hbt : ∀ b ∈ bt, b ≠ 10) (i : Nat) : ∀ b ∈ remL t bt i, b ≠ 10 := by
  intro b hb
  rw [remL, List.mem_append, List.mem_cons] at hb
  rcases hb with hb | rfl | hb
  · exact (no_join h i b hb).1
  · decide
  · exact hbt b hb
theorem rem_words {t : Tab} (h : t.ok = true) (bt : List UInt8) (i : Nat) : wordsT (said (remL t bt i)) [] = lineA t i := by
  rw [said, remL, takeWhile_parts _ _ (fun b hb => (no_join h i b hb).2), sub_line h i]
  obtain ⟨g1, g2⟩ := lineA_good h i
  exact words_join [9, 32] [32] (by simp) (by decide) (by decide) _ (fun w hw => ⟨(g2 w hw).1, fun b hb => (good_parts ((g2 w hw).2 b hb)).1⟩) g1
theorem out5 (t : Tab) (bt : List UInt8) (k : Nat) : outK t bt k 5 = pcL t bt ((k + 4 * 0) % 5) ++ (pcL t bt ((k + 4 * 1) % 5) ++ (pcL t bt ((k + 4 * 2) % 5) ++ (pcL t bt ((k + 4 * 3) % 5) ++ (pcL t bt ((k + 4 * 4) % 5) ++ [])))) := by simp [outK]
theorem out_lines {t : Tab} (h : t.ok = true) (bt : List UInt8) (hbt : ∀ b ∈ bt, b ≠ 10) (k : Nat) :
    (linesT (outK t bt k 5)).map (fun ln => ln.1.map (·.2)) = [lineA t ((k + 4 * 0) % 5), [], lineA t ((k + 4 * 1) % 5), [], lineA t ((k + 4 * 2) % 5), [], lineA t ((k + 4 * 3) % 5), [], lineA t ((k + 4 * 4) % 5), [], []] := by
  have hn : ∀ b ∈ ([] : List UInt8), b ≠ 10 := by simp
  rw [linesT, lines_texts, out5, pcL_eq, pcL_eq, pcL_eq, pcL_eq, pcL_eq]
  rw [splitN0_cut _ _ (rem_no10 h bt hbt _), splitN0_cut [] _ hn, splitN0_cut _ _ (rem_no10 h bt hbt _), splitN0_cut [] _ hn, splitN0_cut _ _ (rem_no10 h bt hbt _), splitN0_cut [] _ hn, splitN0_cut _ _ (rem_no10 h bt hbt _), splitN0_cut [] _ hn, splitN0_cut _ _ (rem_no10 h bt hbt _), splitN0_cut [] _ hn]
  simp only [List.map_cons, rem_words h]
  rfl
theorem subL_len : ∀ l : List UInt8, (subL l).length ≤ 2 * l.length
  | [] => by simp [subL]
  | b :: l => by
    have := subL_len l
    have e : subL (b :: l) = (if b = 32 then [9, 32] else [b]) ++ subL l := rfl
    rw [e, List.length_append, List.length_cons]
    split <;> simp only [List.length_cons, List.length_nil] <;> omega
theorem lnB_len (t : Tab) (i : Nat) : (lnB t i).length ≤ 30 := by
  by_cases h4 : i < 4
  · rw [lnB, lineA, if_pos h4]; exact joinL_len t i
  · rw [lnB, lineA, if_neg h4]; simp [lineD, Lib.join, List.intercalate, nameL]
theorem pcL_len (t : Tab) (bt : List UInt8) (hb : bt.length ≤ 1000) (i : Nat) : (pcL t bt i).length ≤ 2000 := by
  have h1 := lnB_len t i
  have h2 := subL_len (lnB t i)
  simp [pcL]; omega
theorem outK_len (t : Tab) (bt : List UInt8) (hb : bt.length ≤ 1000) (k : Nat) : ∀ n, (outK t bt k n).length ≤ 2000 * n
  | 0 => by simp [outK]
  | n + 1 => by
    have h1 := outK_len t bt hb k n
    have h2 := pcL_len t bt hb ((k + 4 * n) % 5)
    simp [outK]; omega
theorem order_run (t : Tab) (h : t.ok = true) (k : Nat) (hk : k < 5) :
    ∃ st', runLT [lineA t ((k + 4 * 0) % 5), [], lineA t ((k + 4 * 1) % 5), [], lineA t ((k + 4 * 2) % 5), [], lineA t ((k + 4 * 3) % 5), [], lineA t ((k + 4 * 4) % 5), [], []] ⟨fun _ => false, tab0⟩ = some st' ∧ missB st' = false ∧ st'.t.val = t.val := by
  match k, hk with
  | 0, _ => exact ⟨_, run5 t h 0 4 3 2 1 _ (by omega) (by omega) (by omega) (by omega) (by omega) rfl rfl rfl rfl rfl, rfl, by simp [stp, Tab.val, Tab.put]⟩
  | 1, _ => exact ⟨_, run5 t h 1 0 4 3 2 _ (by omega) (by omega) (by omega) (by omega) (by omega) rfl rfl rfl rfl rfl, rfl, by simp [stp, Tab.val, Tab.put]⟩
  | 2, _ => exact ⟨_, run5 t h 2 1 0 4 3 _ (by omega) (by omega) (by omega) (by omega) (by omega) rfl rfl rfl rfl rfl, rfl, by simp [stp, Tab.val, Tab.put]⟩
  | 3, _ => exact ⟨_, run5 t h 3 2 1 0 4 _ (by omega) (by omega) (by omega) (by omega) (by omega) rfl rfl rfl rfl rfl, rfl, by simp [stp, Tab.val, Tab.put]⟩
  | 4, _ => exact ⟨_, run5 t h 4 3 2 1 0 _ (by omega) (by omega) (by omega) (by omega) (by omega) rfl rfl rfl rfl rfl, rfl, by simp [stp, Tab.val, Tab.put]⟩
theorem order_back (t : Tab) (h : t.ok = true) (bt : List UInt8) (hbt : ∀ b ∈ bt, b ≠ 10) (hb : bt.length ≤ 1000) (k : Nat) (hk : k < 5) : (parseF (outK t bt k 5)).1 = none ∧ (parseF (outK t bt k 5)).2.val = t.val := by
  obtain ⟨st', r1, r2, r3⟩ := order_run t h k hk
  have hl := outK_len t bt hb k 5
  have := parse_runLT (l := outK t bt k 5) (by omega) (by rw [out_lines h bt hbt k]; exact r1) r2
  rw [this]
  exact ⟨rfl, r3⟩
theorem text_split (t : Tab) (h : t.ok = true) : (splitN0 (textL t)).dropLast = [lnB t 0, lnB t 1, lnB t 2, lnB t 3, lnB t 4] := by
  have h10 : ∀ i, ∀ b ∈ lnB t i, b ≠ 10 := fun i => (piece_of _ (lineA_good h i).2 (lineA_good h i).1).1
  have e : textL t = lnB t 0 ++ 10 :: (lnB t 1 ++ 10 :: (lnB t 2 ++ 10 :: (lnB t 3 ++ 10 :: (lnB t 4 ++ 10 :: [])))) := textL_parts t
  rw [e, splitN0_cut _ _ (h10 0), splitN0_cut _ _ (h10 1), splitN0_cut _ _ (h10 2), splitN0_cut _ _ (h10 3), splitN0_cut _ _ (h10 4)]
  rfl

/-- A text cut at its bytes 10, step by step. -/
theorem cut_step {L : List UInt8} {a m : Nat} (ham : a ≤ m) (hm : m < L.length) (hx : L[m] = 10) (hno : ∀ k (hk : k < L.length), a ≤ k → k < m → L[k] ≠ 10) : (splitN0 (L.drop a)).dropLast = cutL L a m :: (splitN0 (L.drop (m + 1))).dropLast := by
  have e : L.drop a = cutL L a m ++ 10 :: L.drop (m + 1) := by
    rw [← hx, ← List.drop_eq_getElem_cons hm, cutL]
    conv => lhs; rw [← List.take_append_drop (m - a) (L.drop a)]
    rw [List.drop_drop, show a + (m - a) = m from by omega]
  have hn : ∀ b ∈ cutL L a m, b ≠ 10 := by
    intro b hb
    obtain ⟨j, hj, rfl⟩ := List.getElem_of_mem hb
    rw [cutL_len L a m (by omega)] at hj
    have := hno (a + j) (by omega) (by omega) (by omega)
    simpa [cutL] using this
  rw [e, splitN0_cut _ _ hn]
  cases hs : splitN0 (L.drop (m + 1)) with
  | nil =>
    have := tot_split (L.drop (m + 1))
    rw [hs] at this; simp [tot] at this
  | cons x xs => rfl
theorem cut_end {L : List UInt8} {a : Nat} (hno : ∀ k (hk : k < L.length), a ≤ k → k < L.length → L[k] ≠ 10) : (splitN0 (L.drop a)).dropLast = [] := by
  rw [splitN0_no]
  · rfl
  · intro b hb
    obtain ⟨j, hj, rfl⟩ := List.getElem_of_mem hb
    simp at hj
    have := hno (a + j) (by omega) (by omega) (by omega)
    simpa using this

end Go.Proofs.YtgabnjiapkkjaaaGreatDoor.Tb
