/- What package table's readLines answers: no fault and the table, or the fault that comes first, read off the program by the walk. Conditions: the text has at most 65536 bytes; the variables lie in memory as the program lays them. -/
import Derived.Test.YtgabnjiapkkjaaaGreatDoorRd
import Derived.Deep.LoopGhost
import Derived.Lib.SmallJoins
namespace Go.Proofs.YtgabnjiapkkjaaaGreatDoor.Tb
open Go.ChangeShapes Go.WideShapes Go.ChangeAt Go.RowKit

/-- A line's words against its wants: the first fault (its number, its place, its word), or none; what is left. -/
def runW : List Wk → List (Nat × List UInt8) → Nat → St → Option (Int × Nat × List UInt8) × St
  | [], [], _, st => (none, st)
  | _ :: _, [], e, st => (some (60, e, []), st)
  | [], x :: _, _, st => (some (60, x.1, x.2), st)
  | K :: Ks, x :: xs, e, st => if K.code x.2 st = 0 then runW Ks xs e (K.next x.2 st) else (some (K.code x.2 st, x.1, x.2), K.next x.2 st)
def wantsL : List (Nat × List UInt8) → List Wk
  | [] => []
  | x :: _ => wantsK (kindL x.2)
def runL : List (List (Nat × List UInt8) × Nat) → Nat → St → Option (Int × Nat × List UInt8) × St
  | [], n, st => (if missB st then some (60, n, []) else none, st)
  | ln :: ls, n, st =>
    match runW (wantsL ln.1) ln.1 ln.2 st with
    | (none, st') => runL ls n st'
    | (some f, st') => (some f, st')

theorem runW_step {Ks : List Wk} {ws : List (Nat × List UInt8)} {e j : Nat} {st : St} (h1 : j < Ks.length) (h2 : j < ws.length) :
    runW (Ks.drop j) (ws.drop j) e st = if Ks[j].code ws[j].2 st = 0 then runW (Ks.drop (j + 1)) (ws.drop (j + 1)) e (Ks[j].next ws[j].2 st) else (some (Ks[j].code ws[j].2 st, ws[j].1, ws[j].2), Ks[j].next ws[j].2 st) := by
  rw [List.drop_eq_getElem_cons h1, List.drop_eq_getElem_cons h2]; rfl
theorem runW_done {Ks : List Wk} {ws : List (Nat × List UInt8)} {e j : Nat} {st : St} (h1 : j = Ks.length) (h2 : j = ws.length) : runW (Ks.drop j) (ws.drop j) e st = (none, st) := by
  rw [h1, List.drop_length, ← h1, h2, List.drop_length]; rfl
theorem runW_short {Ks : List Wk} {ws : List (Nat × List UInt8)} {e j : Nat} {st : St} (h1 : j < Ks.length) (h2 : j = ws.length) : runW (Ks.drop j) (ws.drop j) e st = (some (60, e, []), st) := by
  rw [List.drop_eq_getElem_cons h1, List.drop_eq_nil_of_le (by omega : ws.length ≤ j)]; rfl
theorem runW_long {Ks : List Wk} {ws : List (Nat × List UInt8)} {e j : Nat} {st : St} (h1 : j = Ks.length) (h2 : j < ws.length) : runW (Ks.drop j) (ws.drop j) e st = (some (60, ws[j].1, ws[j].2), st) := by
  rw [List.drop_eq_getElem_cons h2, List.drop_eq_nil_of_le (by omega : Ks.length ≤ j)]; rfl

theorem words_ne : ∀ (s : List UInt8) (p : Nat) (cur : List UInt8) (x : Nat × List UInt8), x ∈ wordsS s p cur → x.2 ≠ []
  | [], p, cur, x, h => by
    simp only [wordsS, flush] at h
    split at h
    · simp at h
    · simp at h; subst h; assumption
  | b :: r, p, cur, x, h => by
    simp only [wordsS] at h
    split at h
    · rw [List.mem_append] at h
      rcases h with h | h
      · simp only [flush] at h
        split at h
        · simp at h
        · simp at h; subst h; assumption
      · exact words_ne r _ _ x h
    · exact words_ne r _ _ x h
theorem words_le : ∀ (s : List UInt8) (p : Nat) (cur : List UInt8) (x : Nat × List UInt8), x ∈ wordsS s p cur → x.2.length ≤ s.length + cur.length
  | [], p, cur, x, h => by
    simp only [wordsS, flush] at h
    split at h
    · simp at h
    · simp at h; subst h; simp
  | b :: r, p, cur, x, h => by
    simp only [wordsS] at h
    split at h
    · rw [List.mem_append] at h
      rcases h with h | h
      · simp only [flush] at h
        split at h
        · simp at h
        · simp at h; subst h; simp
      · have := words_le r _ _ x h; simp at this ⊢; omega
    · have := words_le r _ _ x h; simp at this ⊢; omega
theorem words_at : ∀ (s : List UInt8) (p : Nat) (cur : List UInt8) (x : Nat × List UInt8), x ∈ wordsS s p cur → x.1 ≤ p + s.length
  | [], p, cur, x, h => by
    simp only [wordsS, flush] at h
    split at h
    · simp at h
    · simp at h; subst h; simp
  | b :: r, p, cur, x, h => by
    simp only [wordsS] at h
    split at h
    · rw [List.mem_append] at h
      rcases h with h | h
      · simp only [flush] at h
        split at h
        · simp at h
        · simp at h; subst h; simp; omega
      · have := words_at r _ _ x h; simp at this ⊢; omega
    · have := words_at r _ _ x h; simp at this ⊢; omega
/-- The words of the lines are not empty, and short; a line has few of them. -/
theorem words_count : ∀ (s : List UInt8) (p : Nat) (cur : List UInt8), (wordsS s p cur).length ≤ s.length + 1
  | [], p, cur => by simp only [wordsS, flush]; split <;> simp
  | b :: r, p, cur => by
    simp only [wordsS]
    split
    · have := words_count r (p + 1) []
      simp only [flush, List.length_append, List.length_cons]
      split <;> simp <;> omega
    · have := words_count r (p + 1) (cur ++ [b])
      simp; omega
theorem lines_mem : ∀ (ps : List (List UInt8)) (p : Nat) (ln : List (Nat × List UInt8) × Nat), ln ∈ linesL ps p → ∃ x p', x ∈ ps ∧ ln = (wordsS (said x) p' [], p' + (said x).length)
  | [], p, ln, h => by simp [linesL] at h
  | x :: r, p, ln, h => by
    simp only [linesL, List.mem_cons] at h
    rcases h with h | h
    · exact ⟨x, p, by simp, h⟩
    · obtain ⟨y, p', h1, h2⟩ := lines_mem r _ ln h
      exact ⟨y, p', by simp [h1], h2⟩
theorem tot_mem : ∀ (ps : List (List UInt8)) (x : List UInt8), x ∈ ps → x.length + 1 ≤ tot ps
  | [], x, h => by simp at h
  | y :: r, x, h => by
    rw [tot_cons]
    simp only [List.mem_cons] at h
    rcases h with rfl | h
    · omega
    · have := tot_mem r x h; omega
theorem line_facts (s : List UInt8) (ln : List (Nat × List UInt8) × Nat) (h : ln ∈ linesT s) : ln.1.length ≤ s.length + 1 ∧ ∀ x ∈ ln.1, x.2 ≠ [] ∧ x.2.length ≤ s.length := by
  obtain ⟨x, p', h1, rfl⟩ := lines_mem _ _ ln h
  have h2 := tot_mem _ x h1
  rw [tot_split] at h2
  have h3 := said_len x
  have h4 := words_count (said x) p' []
  refine ⟨by simp; omega, fun y hy => ⟨words_ne _ _ _ y hy, ?_⟩⟩
  have := words_le _ _ _ y hy
  simp at this; omega
theorem linesT_ne (s : List UInt8) : 0 < (linesT s).length := by
  unfold linesT
  rw [linesL_len]
  cases s with
  | nil => simp [splitN0]
  | cons b r =>
    by_cases h : b = 10
    · simp [splitN0, h]
    · simp only [splitN0, h, if_false]
      cases splitN0 r <;> simp
theorem linesT_len (s : List UInt8) : (linesT s).length ≤ s.length + 1 := by
  unfold linesT
  rw [linesL_len, ← tot_split]
  exact tot_ge _

theorem flat2 {α : Type} (f g : α → Value) : ∀ (xs : List α) (j : Nat) (hj : j < xs.length), (xs.flatMap fun x => [f x, g x])[j * 2]? = some (f xs[j]) ∧ (xs.flatMap fun x => [f x, g x])[j * 2 + 1]? = some (g xs[j])
  | [], j, hj => by simp at hj
  | x :: xs, 0, _ => by simp
  | x :: xs, j + 1, hj => by
    have := flat2 f g xs j (by simpa using hj)
    rw [show (j + 1) * 2 = j * 2 + 2 from by omega]
    simpa using this
theorem add_off (g j : Nat) : (⟨g, 0, none⟩ : Addr).add j = ⟨g, j, none⟩ := by unfold Addr.add; split <;> simp_all
theorem word_get {w : World} {B g cap : Nat} {ws : List (Nat × List UInt8)} (h : w.ownsRow B 90 2 (.slice (some ⟨g, 0, none⟩) ws.length cap) ws.length (wcells ws)) (j : Nat) (hj : j < ws.length) :
    w.cell? ⟨g, j * 2, none⟩ = some (.int .i64 (ws[j].1 : Int)) ∧ w.cell? ⟨g, j * 2 + 1, none⟩ = some (.string ⟨ws[j].2.toArray⟩) := by
  have hc := h.cells (g := g) rfl
  obtain ⟨h1, h2⟩ := flat2 (fun x : Nat × List UInt8 => Value.int .i64 (x.1 : Int)) (fun x => Value.string ⟨x.2.toArray⟩) ws j hj
  exact ⟨by rw [← add_off]; exact hc _ _ h1, by rw [← add_off]; exact hc _ _ h2⟩
theorem line_get {w : World} {B g n cap : Nat} {ls : List (List (Nat × List UInt8) × Nat)} (h : LinesAt w B (.slice (some ⟨g, 0, none⟩) n cap) ls) (j : Nat) (hj : j < ls.length) :
    ∃ u, w.cell? ⟨g, j * 2, none⟩ = some u ∧ w.cell? ⟨g, j * 2 + 1, none⟩ = some (.int .i64 (ls[j].2 : Int)) ∧ w.ownsRow B 90 2 u ls[j].1.length (wcells ls[j].1) := by
  obtain ⟨vs, h1, h2, h3⟩ := h
  have hc := h2.cells (g := g) rfl
  have hz : j < (vs.zip (ls.map (·.2))).length := by simp; omega
  obtain ⟨e1, e2⟩ := flat2 (fun x : Value × Nat => x.1) (fun x => Value.int .i64 (x.2 : Int)) (vs.zip (ls.map (·.2))) j hz
  refine ⟨vs[j]'(by omega), ?_, ?_, ?_⟩
  · rw [← add_off]
    refine hc _ _ ?_
    simpa [lcells] using e1
  · rw [← add_off]
    refine hc _ _ ?_
    simpa [lcells] using e2
  · exact h3 j _ _ (List.getElem?_eq_getElem (by omega)) (List.getElem?_eq_getElem hj)
theorem LinesAt.but {w w' : World} {hb tb B : Nat} {v : Value} {ls : List (List (Nat × List UInt8) × Nat)} (h : LinesAt w B v ls) (hw : But hb tb w w') (h1 : hb < B) (h2 : tb < B) : LinesAt w' B v ls := by
  obtain ⟨vs, e1, e2, e3⟩ := h
  exact ⟨vs, e1, hw.row e2 h1 h2, fun i u l hu hl => hw.row (e3 i u l hu hl) h1 h2⟩

/-- What the variables hold. -/
structure Env (w : World) : Prop where
  G : Bnds w
  N : Names w
  m : ∃ mx, w.cell? ⟨7, 0, none⟩ = some (.int .i64 mx)
  r : ∃ tp q, w.var? Tryz.prog "strconv.ErrRange" = some #[.iface tp q]
  et : w.cell? ⟨5, 0, none⟩ = some (.iface 130 (.agg #[.pointer (some ⟨14, 33, none⟩)]))
theorem gRange : Tryz.prog.globalNamed "strconv.ErrRange" = some 11 := by kernel_rfl
theorem Env.of_blocks {w w' : World} (h : Env w) (hb : ∀ k, k < 14 → w'.heap[k]? = w.heap[k]?) (hs : w.heap.size ≤ w'.heap.size) : Env w' := by
  have c : ∀ b o, b < 14 → w'.cell? ⟨b, o, none⟩ = w.cell? ⟨b, o, none⟩ := fun b o hlt => World.cell?_of_block (w := w) (hb b hlt)
  obtain ⟨mx, hm⟩ := h.m
  obtain ⟨tp, q, hr⟩ := h.r
  refine ⟨⟨(c _ _ (by omega)).trans h.G.d0, (c _ _ (by omega)).trans h.G.d1, (c _ _ (by omega)).trans h.G.u0, (c _ _ (by omega)).trans h.G.u1, (c _ _ (by omega)).trans h.G.l0, (c _ _ (by omega)).trans h.G.l1, (c _ _ (by omega)).trans h.G.b0, (c _ _ (by omega)).trans h.G.b1, Nat.le_trans h.G.big hs⟩, ⟨fun k hk => (c _ _ (by omega)).trans (h.N.n k hk), Nat.le_trans h.N.big hs⟩, ⟨mx, (c _ _ (by omega)).trans hm⟩, ⟨tp, q, ?_⟩, (c _ _ (by omega)).trans h.et⟩
  unfold World.var? at hr ⊢
  rw [gRange] at hr ⊢
  simp only [Option.bind_some] at hr ⊢
  rw [hb 11 (by omega)]; exact hr
theorem Env.below {B : Nat} {w w' : World} (h : Env w) (hb : Below B w w') (hB : 14 ≤ B) : Env w' := h.of_blocks (fun k hk => hb.block k (by omega)) hb.size
theorem Env.but {hb tb : Nat} {w w' : World} (h : Env w) (hw : But hb tb w w') (h1 : 14 ≤ hb) (h2 : 14 ≤ tb) : Env w' := h.of_blocks (fun k hk => hw.block k (by have := h.G.big; omega) (by omega) (by omega)) hw.size

end Go.Proofs.YtgabnjiapkkjaaaGreatDoor.Tb
