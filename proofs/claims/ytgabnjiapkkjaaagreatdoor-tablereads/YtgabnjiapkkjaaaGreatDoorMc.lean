/- Plain mathematics of a table's own text: it is read as the table that it was. Conditions: the table's numbers are within their bounds. -/
import Derived.Test.YtgabnjiapkkjaaaGreatDoorMb
namespace Go.Proofs.YtgabnjiapkkjaaaGreatDoor.Tb

theorem wordsT_go : ∀ (a r cur : List UInt8), (∀ b ∈ a, blankB b = false) → wordsT (a ++ r) cur = wordsT r (cur ++ a)
  | [], r, cur, _ => by simp
  | b :: a, r, cur, h => by
    have hb := h b (List.mem_cons_self ..)
    rw [List.cons_append, wordsT, if_neg (by simp [hb]), wordsT_go a r _ (fun x hx => h x (List.mem_cons_of_mem _ hx))]
    simp
theorem wordsT_blanks : ∀ (s r : List UInt8), (∀ b ∈ s, blankB b = true) → wordsT (s ++ r) [] = wordsT r []
  | [], r, _ => rfl
  | b :: s, r, h => by
    rw [List.cons_append, wordsT, if_pos (h b (List.mem_cons_self ..)), wordsT_blanks s r (fun x hx => h x (List.mem_cons_of_mem _ hx))]
    rfl
theorem wordsT_word (a s r : List UInt8) (ha : a ≠ []) (hn : ∀ b ∈ a, blankB b = false) (hs : s ≠ []) (hb : ∀ b ∈ s, blankB b = true) : wordsT (a ++ (s ++ r)) [] = a :: wordsT r [] := by
  rw [wordsT_go a _ [] hn]
  cases s with
  | nil => exact absurd rfl hs
  | cons b s =>
    rw [List.nil_append, List.cons_append, wordsT, if_pos (hb b (List.mem_cons_self ..)), wordsT_blanks s r (fun x hx => hb x (List.mem_cons_of_mem _ hx))]
    simp [flushT, ha]
theorem wordsT_last (a s : List UInt8) (ha : a ≠ []) (hn : ∀ b ∈ a, blankB b = false) (hb : ∀ b ∈ s, blankB b = true) : wordsT (a ++ s) [] = [a] := by
  cases s with
  | nil => rw [wordsT_go a [] [] hn]; simp [wordsT, flushT, ha]
  | cons b s =>
    have := wordsT_word a (b :: s) [] ha hn (by simp) hb
    rw [List.append_nil] at this
    rw [this]; rfl
/-- Words with a stretch of blanks between them, and blanks behind. -/
theorem words_join (sep tl : List UInt8) (hs : sep ≠ []) (hsb : ∀ b ∈ sep, blankB b = true) (htl : ∀ b ∈ tl, blankB b = true) :
    ∀ (ws : List (List UInt8)), (∀ w ∈ ws, w ≠ [] ∧ ∀ b ∈ w, blankB b = false) → ws ≠ [] → wordsT (Lib.join ws sep ++ tl) [] = ws
  | [], _, h => absurd rfl h
  | [w], h, _ => by
    have := h w (by simp)
    rw [Lib.join_one]
    exact wordsT_last w tl this.1 this.2 htl
  | w :: v :: ws, h, _ => by
    have h1 := h w (by simp)
    have h2 := words_join sep tl hs hsb htl (v :: ws) (fun x hx => h x (List.mem_cons_of_mem _ hx)) (by simp)
    have e : Lib.join (w :: v :: ws) sep = w ++ (sep ++ Lib.join (v :: ws) sep) := by simp [Lib.join, List.intercalate, List.intersperse]
    rw [e, List.append_assoc, List.append_assoc, wordsT_word w sep _ h1.1 h1.2 hs hsb, h2]

/-- A digit. -/
def dg (n : Int) : UInt8 := UInt8.ofNat (48 + n.toNat)
theorem dg_toNat {n : Int} (h0 : 0 ≤ n) (h9 : n ≤ 9) : (dg n).toNat = 48 + n.toNat := by
  unfold dg
  rw [UInt8.toNat_ofNat', Nat.mod_eq_of_lt (by omega)]
theorem dg_ne {n : Int} (h0 : 0 ≤ n) (h9 : n ≤ 9) (m : UInt8) (hm : m.toNat < 48) : dg n ≠ m := by
  intro e
  have := congrArg UInt8.toNat e
  rw [dg_toNat h0 h9] at this
  omega
theorem num_dg {n lo hi : Int} (h0 : 0 ≤ n) (h9 : n ≤ 9) (hb : inB lo hi n = true) : numC lo hi [dg n] = 0 ∧ (decV [dg n] : Int) = n := by
  have ht := dg_toNat h0 h9
  have hd : (decV [dg n] : Int) = n := by
    simp [decV, decA, ht]; omega
  refine ⟨?_, hd⟩
  have hn : isNumB [dg n] = true := by
    have h1 : digB (dg n) = true := by simp [digB, ht]; omega
    simp only [isNumB, List.all_cons, List.all_nil, h1, Bool.and_true, Bool.true_and]
    by_cases e : dg n = 48
    · simp [e]
    · have : ([48].isPrefixOf [dg n]) = false := by simp [List.isPrefixOf]; exact fun h => e h.symm
      simp [this]
  simp [numC, hn, hd, hb]

def lineW (t : Tab) (k : Nat) : List (List UInt8) := [nameL k, [dg (t.u k)], [108, 97, 116], [dg (t.l k)], [98, 117, 115, 121], [dg (t.b k)]]
def lineD (t : Tab) : List (List UInt8) := [nameL 4, [dg t.d]]
theorem kind_name (k : Nat) (hk : k < 5) : kindL (nameL k) = k := by
  match k, hk with
  | 0, _ => decide
  | 1, _ => decide
  | 2, _ => decide
  | 3, _ => decide
  | 4, _ => decide
/-- A class's line, read. -/
theorem run_class (t : Tab) (k : Nat) (hk : k < 4) (ho : okC t k = true) (st : St) (hh : st.had k = false) :
    runT (wantsT (lineW t k)) (lineW t k) st = some ⟨(st.have k).had, ((st.t.put k (t.u k)).put (4 + k) (t.l k)).put (8 + k) (t.b k)⟩ := by
  simp only [okC, Bool.and_eq_true] at ho
  obtain ⟨⟨o1, o2⟩, o3⟩ := ho
  have r1 := inB_iff o1
  have r2 := inB_iff o2
  have r3 := inB_iff o3
  obtain ⟨n1, d1⟩ := num_dg (lo := 0) (hi := 8) (n := t.u k) (by omega) (by omega) o1
  obtain ⟨n2, d2⟩ := num_dg (lo := 1) (hi := 8) (n := t.l k) (by omega) (by omega) o2
  obtain ⟨n3, d3⟩ := num_dg (lo := 1) (hi := 4) (n := t.b k) (by omega) (by omega) o3
  simp only [lineW, wantsT, kind_name k (by omega)]
  rw [wantsK, if_neg (by omega), if_neg (by omega)]
  simp [runT, Wk.code, Wk.next, wOnce, wNum, wExact, hh, n1, n2, n3, d1, d2, d3]
  rfl
theorem run_delay (t : Tab) (ho : inB 0 4 t.d = true) (st : St) (hh : st.had 4 = false) :
    runT (wantsT (lineD t)) (lineD t) st = some ⟨(st.have 4).had, st.t.put 12 t.d⟩ := by
  have r1 := inB_iff ho
  obtain ⟨n1, d1⟩ := num_dg (lo := 0) (hi := 4) (n := t.d) (by omega) (by omega) ho
  simp only [lineD, wantsT, kind_name 4 (by omega)]
  rw [wantsK, if_neg (by omega), if_pos rfl]
  simp [runT, Wk.code, Wk.next, wOnce, wNum, hh, n1, d1]
  rfl

theorem lines_texts : ∀ (ps : List (List UInt8)) (p : Nat), (linesL ps p).map (fun ln => ln.1.map (·.2)) = ps.map (fun x => wordsT (said x) [])
  | [], _ => rfl
  | x :: r, p => by simp [linesL, words_texts, lines_texts r]
theorem join_all {p : UInt8 → Prop} (sep : List UInt8) (hs : ∀ b ∈ sep, p b) : ∀ (ws : List (List UInt8)), (∀ w ∈ ws, ∀ b ∈ w, p b) → ∀ b ∈ Lib.join ws sep, p b
  | [], _, b, h => by simp [Lib.join_nil] at h
  | [w], hw, b, h => by rw [Lib.join_one] at h; exact hw w (by simp) b h
  | w :: v :: ws, hw, b, h => by
    have e : Lib.join (w :: v :: ws) sep = w ++ (sep ++ Lib.join (v :: ws) sep) := by simp [Lib.join, List.intercalate, List.intersperse]
    rw [e, List.mem_append, List.mem_append] at h
    rcases h with h | h | h
    · exact hw w (by simp) b h
    · exact hs b h
    · exact join_all sep hs (v :: ws) (fun x hx => hw x (List.mem_cons_of_mem _ hx)) b h
/-- A byte of a table's words. -/
def goodB (b : UInt8) : Bool := !blankB b && b != 10 && b != 35
theorem dg_good {n : Int} (h0 : 0 ≤ n) (h9 : n ≤ 9) : goodB (dg n) = true := by
  have a1 := dg_ne h0 h9 32 (by decide)
  have a2 := dg_ne h0 h9 9 (by decide)
  have a3 := dg_ne h0 h9 10 (by decide)
  have a4 := dg_ne h0 h9 35 (by decide)
  simp [goodB, blankB, a1, a2, a3, a4]
theorem name_good (k : Nat) : nameL k ≠ [] ∧ ∀ b ∈ nameL k, goodB b = true := by
  unfold nameL
  split <;> exact ⟨by simp, by decide⟩
theorem lineW_good {t : Tab} {k : Nat} (ho : okC t k = true) : ∀ w ∈ lineW t k, w ≠ [] ∧ ∀ b ∈ w, goodB b = true := by
  simp only [okC, Bool.and_eq_true] at ho
  obtain ⟨⟨o1, o2⟩, o3⟩ := ho
  have r1 := inB_iff o1
  have r2 := inB_iff o2
  have r3 := inB_iff o3
  have g1 := dg_good (n := t.u k) (by omega) (by omega)
  have g2 := dg_good (n := t.l k) (by omega) (by omega)
  have g3 := dg_good (n := t.b k) (by omega) (by omega)
  intro w hw
  simp only [lineW, List.mem_cons, List.mem_nil_iff, or_false] at hw
  rcases hw with rfl | rfl | rfl | rfl | rfl | rfl
  · exact name_good k
  · exact ⟨by simp, fun b hb => by simp at hb; subst hb; exact g1⟩
  · exact ⟨by simp, by decide⟩
  · exact ⟨by simp, fun b hb => by simp at hb; subst hb; exact g2⟩
  · exact ⟨by simp, by decide⟩
  · exact ⟨by simp, fun b hb => by simp at hb; subst hb; exact g3⟩
theorem lineD_good {t : Tab} (ho : inB 0 4 t.d = true) : ∀ w ∈ lineD t, w ≠ [] ∧ ∀ b ∈ w, goodB b = true := by
  have r1 := inB_iff ho
  have g1 := dg_good (n := t.d) (by omega) (by omega)
  intro w hw
  simp only [lineD, List.mem_cons, List.mem_nil_iff, or_false] at hw
  rcases hw with rfl | rfl
  · exact name_good 4
  · exact ⟨by simp, fun b hb => by simp at hb; subst hb; exact g1⟩
theorem good_parts {b : UInt8} (h : goodB b = true) : blankB b = false ∧ b ≠ 10 ∧ b ≠ 35 := by
  simp only [goodB, Bool.and_eq_true, Bool.not_eq_true', bne_iff_ne] at h
  exact ⟨h.1.1, h.1.2, h.2⟩
/-- A line of good words, with single blanks, is one piece, without a remark, and its words are these. -/
theorem piece_of (ws : List (List UInt8)) (hg : ∀ w ∈ ws, w ≠ [] ∧ ∀ b ∈ w, goodB b = true) (hn : ws ≠ []) :
    (∀ b ∈ Lib.join ws [32], b ≠ 10) ∧ wordsT (said (Lib.join ws [32])) [] = ws := by
  have h10 : ∀ b ∈ Lib.join ws [32], b ≠ 10 := join_all [32] (by decide) ws (fun w hw b hb => (good_parts ((hg w hw).2 b hb)).2.1)
  have h35 : ∀ b ∈ Lib.join ws [32], b ≠ 35 := join_all [32] (by decide) ws (fun w hw b hb => (good_parts ((hg w hw).2 b hb)).2.2)
  refine ⟨h10, ?_⟩
  rw [said, takeWhile_all _ h35]
  have := words_join [32] [] (by simp) (by decide) (by simp) ws (fun w hw => ⟨(hg w hw).1, fun b hb => (good_parts ((hg w hw).2 b hb)).1⟩) hn
  rw [List.append_nil] at this
  exact this
theorem joinL_eq (t : Tab) (k : Nat) : joinL (lineX t k) = Lib.join (lineW t k) [32] := rfl
theorem textL_parts (t : Tab) : textL t = Lib.join (lineW t 0) [32] ++ 10 :: (Lib.join (lineW t 1) [32] ++ 10 :: (Lib.join (lineW t 2) [32] ++ 10 :: (Lib.join (lineW t 3) [32] ++ 10 :: (Lib.join (lineD t) [32] ++ 10 :: [])))) := by
  simp only [textL, textK, joinL_eq]
  rw [show joinL [nameS 4, digS t.d] = Lib.join (lineD t) [32] from rfl]
  simp
theorem ok_split {t : Tab} (h : t.ok = true) : inB 0 4 t.d = true ∧ okC t 0 = true ∧ okC t 1 = true ∧ okC t 2 = true ∧ okC t 3 = true := by
  simp only [Tab.ok, Bool.and_eq_true] at h
  exact ⟨h.1.1.1.1, h.1.1.1.2, h.1.1.2, h.1.2, h.2⟩
theorem text_lines (t : Tab) (h : t.ok = true) : (linesT (textL t)).map (fun ln => ln.1.map (·.2)) = [lineW t 0, lineW t 1, lineW t 2, lineW t 3, lineD t, []] := by
  obtain ⟨hd, h0, h1, h2, h3⟩ := ok_split h
  obtain ⟨a0, b0⟩ := piece_of _ (lineW_good h0) (by simp [lineW])
  obtain ⟨a1, b1⟩ := piece_of _ (lineW_good h1) (by simp [lineW])
  obtain ⟨a2, b2⟩ := piece_of _ (lineW_good h2) (by simp [lineW])
  obtain ⟨a3, b3⟩ := piece_of _ (lineW_good h3) (by simp [lineW])
  obtain ⟨a4, b4⟩ := piece_of _ (lineD_good hd) (by simp [lineD])
  rw [linesT, lines_texts, textL_parts, splitN0_cut _ _ a0, splitN0_cut _ _ a1, splitN0_cut _ _ a2, splitN0_cut _ _ a3, splitN0_cut _ _ a4]
  simp only [List.map_cons, b0, b1, b2, b3, b4]
  rfl
theorem textL_len (t : Tab) : (textL t).length ≤ 65536 := by
  have h1 := textK_len t 4
  have h2 : (joinL [nameS 4, digS t.d]).length ≤ 10 := by simp [joinL, Lib.join, List.intercalate, nameS, digS, nameL]
  simp only [textL, List.length_append, List.length_singleton]
  omega
theorem parse_runLT {l : List UInt8} {st' : St} (hl : l.length ≤ 65536) (h : runLT ((linesT l).map (fun ln => ln.1.map (·.2))) ⟨fun _ => false, tab0⟩ = some st') (hm : missB st' = false) : parseF l = (none, st'.t) := by
  have := runL_back (linesT l) l.length _ _ h hm
  rw [parseF, if_neg (by omega), this]
/-- A table that is written is read as it was. -/
theorem text_back (t : Tab) (h : t.ok = true) : (parseF (textL t)).1 = none ∧ (parseF (textL t)).2.val = t.val := by
  obtain ⟨hd, h0, h1, h2, h3⟩ := ok_split h
  have hr : ∃ st', runLT [lineW t 0, lineW t 1, lineW t 2, lineW t 3, lineD t, []] ⟨fun _ => false, tab0⟩ = some st' ∧ missB st' = false ∧ st'.t.val = t.val := by
    simp only [runLT]
    rw [run_class t 0 (by omega) h0 _ rfl, Option.bind_some, run_class t 1 (by omega) h1 _ (by rfl), Option.bind_some, run_class t 2 (by omega) h2 _ (by rfl), Option.bind_some, run_class t 3 (by omega) h3 _ (by rfl), Option.bind_some, run_delay t hd _ (by rfl), Option.bind_some]
    refine ⟨_, rfl, by rfl, ?_⟩
    simp [Tab.val, Tab.put]
  obtain ⟨st', r1, r2, r3⟩ := hr
  have := parse_runLT (textL_len t) (by rw [text_lines t h]; exact r1) r2
  rw [this]
  exact ⟨rfl, r3⟩

end Go.Proofs.YtgabnjiapkkjaaaGreatDoor.Tb
