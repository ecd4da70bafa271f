/- What the reference's Parse answers: the table, or the fault that comes first, read off the program by the walk. Conditions: none. -/
import Derived.Test.YtgabnjiapkkjaaaGreatDoorLq
import Derived.Test.YtgabnjiapkkjaaaGreatDoorLr
namespace Go.Proofs.YtgabnjiapkkjaaaGreatDoor.Tb
open Go.ChangeShapes Go.WideShapes Go.ChangeAt Go.RowKit

theorem rline_get {w : World} {B g n cap : Nat} {ls : Lns} (h : LinesR w B (.slice (some ⟨g, 0, none⟩) n cap) ls) (j : Nat) (hj : j < ls.length) :
    ∃ u, w.cell? ⟨g, j * 2, none⟩ = some u ∧ w.cell? ⟨g, j * 2 + 1, none⟩ = some (.int .i64 (ls[j].2 : Int)) ∧ w.ownsRow B 96 2 u ls[j].1.length (rcells ls[j].1) := by
  obtain ⟨vs, h1, h2, h3⟩ := h
  have hc := h2.cells (g := g) rfl
  have hz : j < (vs.zip (ls.map (·.2))).length := by simp; omega
  obtain ⟨e1, e2⟩ := flat2 (fun x : Value × Nat => x.1) (fun x => Value.int .i64 (x.2 : Int)) (vs.zip (ls.map (·.2))) j hz
  refine ⟨vs[j]'(by omega), ?_, ?_, ?_⟩
  · rw [← add_off]
    refine hc _ _ ?_
    simpa [lcells] using e1
  · rw [← add_off]
    refine hc _ _ ?_
    simpa [lcells] using e2
  · exact h3 j _ _ (List.getElem?_eq_getElem (by omega)) (List.getElem?_eq_getElem hj)
theorem LinesR.but {w w' : World} {hb tb B : Nat} {v : Value} {ls : Lns} (h : LinesR w B v ls) (hw : But hb tb w w') (h1 : hb < B) (h2 : tb < B) : LinesR w' B v ls := by
  obtain ⟨vs, e1, e2, e3⟩ := h
  exact ⟨vs, e1, hw.row e2 h1 h2, fun i u l hu hl => hw.row (e3 i u l hu hl) h1 h2⟩
theorem wsAt_of {w : World} {B g cap : Nat} {ws : List (Nat × List UInt8)} (h : w.ownsRow B 96 2 (.slice (some ⟨g, 0, none⟩) ws.length cap) ws.length (rcells ws)) : WsAt w g ws := by
  have hc := h.cells (g := g) rfl
  refine ⟨fun j hj => ?_, fun j hj => ?_, (h.lt g rfl).2⟩
  · obtain ⟨h1, h2⟩ := flat2 (fun x : Nat × List UInt8 => Value.string ⟨x.2.toArray⟩) (fun x => Value.int .i64 (x.1 : Int)) ws j hj
    rw [← add_off]; exact hc _ _ h1
  · obtain ⟨h1, h2⟩ := flat2 (fun x : Nat × List UInt8 => Value.string ⟨x.2.toArray⟩) (fun x => Value.int .i64 (x.1 : Int)) ws j hj
    rw [← add_off]; exact hc _ _ h2
theorem lines_form (s : ByteArray) (w : World) (hs : s.size ≤ 200000) :
    Calls Tryz.prog 25 #[.string s] w fun e w' => ∃ g cap, e = .returned (.slice (some ⟨g, 0, none⟩) (linesT s.data.toList).length cap) ∧ g < w'.heap.size ∧ w.heap.size < g ∧ LinesR w' (w.heap.size + 1) (.slice (some ⟨g, 0, none⟩) (linesT s.data.toList).length cap) (linesT s.data.toList) ∧ Below w.heap.size w w' := by
  refine (lines_any s w hs).mono ?_
  rintro e w' ⟨v, rfl, hL, hb⟩
  have hL' := hL
  obtain ⟨vs, h1, h2, h3⟩ := hL
  obtain ⟨g, cap, rfl, hg, hlt⟩ := h2.form (linesT_ne _)
  exact ⟨g, cap, rfl, hlt, by omega, hL', hb⟩

/-- The reader that holds nothing yet. -/
def rd0 (k : Nat) : Value := if k < 13 then .int .i64 0 else if k < 18 then .bool false else if k < 20 then .int .i64 0 else .string ⟨#[]⟩
def st0 : St := ⟨fun _ => false, tab0⟩
theorem rd0_c : CSt rd0 st0 := by
  refine ⟨fun k hk => ?_, fun k hk => ?_, fun k hk => ?_, rfl, fun k hk => ?_⟩
  · unfold rd0; rw [if_pos (by omega)]; rfl
  · unfold rd0; rw [if_pos (by omega)]; rfl
  · unfold rd0; rw [if_pos (by omega)]; rfl
  · unfold rd0; rw [if_neg (by omega), if_pos (by omega)]; rfl
theorem rd0_at (w : World) : RdC (w.alloc (.cells #[.int .i64 0, .int .i64 0, .int .i64 0, .int .i64 0, .int .i64 0, .int .i64 0, .int .i64 0, .int .i64 0, .int .i64 0, .int .i64 0, .int .i64 0, .int .i64 0, .int .i64 0, .bool false, .bool false, .bool false, .bool false, .bool false, .int .i64 0, .int .i64 0, .string ⟨#[]⟩] 66)) w.heap.size rd0 := by
  refine ⟨fun k hk => ?_, fun k hk => by simp, by simp⟩
  match k, hk with
  | 0, _ => simp [rd0]
  | 1, _ => simp [rd0]
  | 2, _ => simp [rd0]
  | 3, _ => simp [rd0]
  | 4, _ => simp [rd0]
  | 5, _ => simp [rd0]
  | 6, _ => simp [rd0]
  | 7, _ => simp [rd0]
  | 8, _ => simp [rd0]
  | 9, _ => simp [rd0]
  | 10, _ => simp [rd0]
  | 11, _ => simp [rd0]
  | 12, _ => simp [rd0]
  | 13, _ => simp [rd0]
  | 14, _ => simp [rd0]
  | 15, _ => simp [rd0]
  | 16, _ => simp [rd0]
  | 17, _ => simp [rd0]
  | 18, _ => simp [rd0]
  | 19, _ => simp [rd0]
  | 20, _ => simp [rd0]
  | _ + 21, h => exact absurd h (by omega)
theorem had_miss {st : St} {j : Nat} (hj : j < 5) (h : st.had j = false) : missB st = true := by
  unfold missB
  match j, hj, h with
  | 0, _, h => simp [h]
  | 1, _, h => simp [h]
  | 2, _, h => simp [h]
  | 3, _, h => simp [h]
  | 4, _, h => simp [h]
theorem had_all {st : St} (h : ∀ j, j < 5 → st.had j = true) : missB st = false := by
  unfold missB
  simp [h 0 (by omega), h 1 (by omega), h 2 (by omega), h 3 (by omega), h 4 (by omega)]
abbrev Res := Option (Int × Nat × List UInt8) × St
/-- A fault stands, and it is the answer. -/
def Dead (c : Nat → Value) (R : Res) : Prop := ∃ f st, FIs c (some f) ∧ CSt c st ∧ R.1 = some f
/-- No fault yet, and all lines are read. -/
def Live (c : Nat → Value) (n : Nat) (R : Res) (cc : Nat) : Prop := ∃ st, FIs c none ∧ CSt c st ∧ R = (if missB st then some (60, n, []) else none, st) ∧ ∀ j, j < cc → st.had j = true
/-- No fault yet, and lines from k on are still to come. -/
def Going (c : Nat → Value) (ls : Lns) (n : Nat) (R : Res) (k : Nat) : Prop := ∃ st, FIs c none ∧ CSt c st ∧ runL (ls.drop k) n st = R

set_option maxHeartbeats 1000000 in
theorem rparse_long (s : ByteArray) (w : World) (hs : 65536 < s.size) (hs2 : s.size ≤ 131072) : Calls Tryz.prog 15 #[.string s] w (RpPost (parseF s.data.toList) w) := by
  have hF : parseF s.data.toList = (some (3, 0, []), tab0) := by rw [parseF, if_pos (by show 65536 < s.size; exact hs)]
  rw [hF]
  clear hF
  go_enter Tryz.func15, Tryz.ntmps15
  go_wp2
  refine bodyPost_ret (v := .tuple #[tab0.val, .agg #[.int .i64 3, .int .i64 0, .string ⟨#[]⟩]]) (by simp [results, Tryz.results15, go_sem, tab0, Tab.val]) rfl ?_
  exact ⟨.inr ⟨(3, 0, []), rfl, rfl⟩, by go_grown⟩

set_option maxRecDepth 20000 in
set_option maxHeartbeats 8000000 in
theorem rparse_short (s : ByteArray) (w : World) (hs : s.size ≤ 65536) : Calls Tryz.prog 15 #[.string s] w (RpPost (parseF s.data.toList) w) := by
  have hF : parseF s.data.toList = ((runL (linesT s.data.toList) s.size st0).1, (runL (linesT s.data.toList) s.size st0).2.t) := by rw [parseF, if_neg (by show ¬ 65536 < s.size; omega)]; rfl
  obtain ⟨R, hR⟩ : ∃ R, R = runL (linesT s.data.toList) s.size st0 := ⟨_, rfl⟩
  rw [hF, ← hR]
  clear hF
  have HLn : Hid (∀ w, Calls Tryz.prog 25 #[.string s] w fun e w' => ∃ g cap, e = .returned (.slice (some ⟨g, 0, none⟩) (linesT s.data.toList).length cap) ∧ g < w'.heap.size ∧ w.heap.size < g ∧ LinesR w' (w.heap.size + 1) (.slice (some ⟨g, 0, none⟩) (linesT s.data.toList).length cap) (linesT s.data.toList) ∧ Below w.heap.size w w') := fun w => lines_form s w (by omega)
  have HFacts : Hid (∀ ln ∈ linesT s.data.toList, ln.1.length ≤ 200000 ∧ ∀ x ∈ ln.1, x.2 ≠ [] ∧ x.2.length ≤ 200000) := fun ln h => by
    obtain ⟨h1, h2⟩ := line_facts s.data.toList ln h
    have h3 : s.data.toList.length = s.size := rfl
    exact ⟨by omega, fun x hx => ⟨(h2 x hx).1, by have := (h2 x hx).2; omega⟩⟩
  have hlen : (linesT s.data.toList).length ≤ 65537 := by
    have := linesT_len s.data.toList
    have h3 : s.data.toList.length = s.size := rfl
    omega
  have HR0 : Hid (runL ((linesT s.data.toList).drop 0) s.size st0 = R) := hR.symm
  clear hR
  obtain ⟨ls, hls⟩ : ∃ ls, ls = linesT s.data.toList := ⟨_, rfl⟩
  rw [← hls] at HLn HFacts hlen HR0
  clear hls
  go_enter Tryz.func15, Tryz.ntmps15
  go_wp2_with (first | (go_at_call 25; refine Calls.mono (HLn.out _) ?_; rintro e w1 ⟨g, cap, rfl, hglt, hgn, hLR, hb1⟩; refine Hid.out ?_))
  refine Lib.hid ?_
  have HRd : Hid (RdC w1 (w.heap.size + 1 + 1) rd0) := by
    have h := (rd0_at ((w.alloc (.cells #[.int .i64 0, .int .i64 0, .int .i64 0, .int .i64 0, .int .i64 0, .int .i64 0, .int .i64 0, .int .i64 0, .int .i64 0, .int .i64 0, .int .i64 0, .int .i64 0, .int .i64 0] 24)).alloc (.cells #[.int .i64 0, .int .i64 0, .string ⟨#[]⟩] 37))).below hb1
    rw [show ((w.alloc (.cells #[.int .i64 0, .int .i64 0, .int .i64 0, .int .i64 0, .int .i64 0, .int .i64 0, .int .i64 0, .int .i64 0, .int .i64 0, .int .i64 0, .int .i64 0, .int .i64 0, .int .i64 0] 24)).alloc (.cells #[.int .i64 0, .int .i64 0, .string ⟨#[]⟩] 37)).heap.size = w.heap.size + 1 + 1 by simp] at h
    exact h
  have HBw : Hid (Below w.heap.size w w1) := Below.trans (by go_grown) (hb1.mono (by simp <;> omega))
  have HZ : Hid (∀ wz, But (w.heap.size + 1 + 1) (w.heap.size + 1 + 1) w1 wz → (∀ j, j < 13 → wz.cell? ⟨w.heap.size, j, none⟩ = some (.int .i64 0)) ∧ (∀ j, wz.frozen? ⟨w.heap.size, j, none⟩ = false) ∧ (wz.cell? ⟨w.heap.size + 1, 0, none⟩ = some (.int .i64 0) ∧ wz.cell? ⟨w.heap.size + 1, 1, none⟩ = some (.int .i64 0) ∧ wz.cell? ⟨w.heap.size + 1, 2, none⟩ = some (.string ⟨#[]⟩)) ∧ ∀ j, wz.frozen? ⟨w.heap.size + 1, j, none⟩ = false) := by
    intro wz hB
    have hz1 := hb1.size
    simp at hz1
    have b0 : ∀ j, wz.cell? ⟨w.heap.size, j, none⟩ = (w.alloc (.cells #[.int .i64 0, .int .i64 0, .int .i64 0, .int .i64 0, .int .i64 0, .int .i64 0, .int .i64 0, .int .i64 0, .int .i64 0, .int .i64 0, .int .i64 0, .int .i64 0, .int .i64 0] 24)).cell? ⟨w.heap.size, j, none⟩ := fun j => by
      rw [hB.cell (by omega) (by omega) (by omega), (bcell hb1).1 _ _ (by simp <;> omega)]
      exact (bcell (B := w.heap.size + 1) (W := w.alloc (.cells #[.int .i64 0, .int .i64 0, .int .i64 0, .int .i64 0, .int .i64 0, .int .i64 0, .int .i64 0, .int .i64 0, .int .i64 0, .int .i64 0, .int .i64 0, .int .i64 0, .int .i64 0] 24)) (by go_grown)).1 _ _ (by omega)
    have b1 : ∀ j, wz.cell? ⟨w.heap.size + 1, j, none⟩ = ((w.alloc (.cells #[.int .i64 0, .int .i64 0, .int .i64 0, .int .i64 0, .int .i64 0, .int .i64 0, .int .i64 0, .int .i64 0, .int .i64 0, .int .i64 0, .int .i64 0, .int .i64 0, .int .i64 0] 24)).alloc (.cells #[.int .i64 0, .int .i64 0, .string ⟨#[]⟩] 37)).cell? ⟨w.heap.size + 1, j, none⟩ := fun j => by
      rw [hB.cell (by omega) (by omega) (by omega), (bcell hb1).1 _ _ (by simp <;> omega)]
      exact (bcell (B := w.heap.size + 1 + 1) (W := ((w.alloc (.cells #[.int .i64 0, .int .i64 0, .int .i64 0, .int .i64 0, .int .i64 0, .int .i64 0, .int .i64 0, .int .i64 0, .int .i64 0, .int .i64 0, .int .i64 0, .int .i64 0, .int .i64 0] 24)).alloc (.cells #[.int .i64 0, .int .i64 0, .string ⟨#[]⟩] 37))) (by go_grown)).1 _ _ (by omega)
    have f0 : ∀ j, wz.frozen? ⟨w.heap.size, j, none⟩ = (w.alloc (.cells #[.int .i64 0, .int .i64 0, .int .i64 0, .int .i64 0, .int .i64 0, .int .i64 0, .int .i64 0, .int .i64 0, .int .i64 0, .int .i64 0, .int .i64 0, .int .i64 0, .int .i64 0] 24)).frozen? ⟨w.heap.size, j, none⟩ := fun j => by
      rw [World.frozen?_of_block (a := ⟨w.heap.size, j, none⟩) (hB.block w.heap.size (by omega) (by omega) (by omega)), (bcell hb1).2 _ _ (by simp <;> omega)]
      exact (bcell (B := w.heap.size + 1) (W := w.alloc (.cells #[.int .i64 0, .int .i64 0, .int .i64 0, .int .i64 0, .int .i64 0, .int .i64 0, .int .i64 0, .int .i64 0, .int .i64 0, .int .i64 0, .int .i64 0, .int .i64 0, .int .i64 0] 24)) (by go_grown)).2 _ _ (by omega)
    have f1 : ∀ j, wz.frozen? ⟨w.heap.size + 1, j, none⟩ = ((w.alloc (.cells #[.int .i64 0, .int .i64 0, .int .i64 0, .int .i64 0, .int .i64 0, .int .i64 0, .int .i64 0, .int .i64 0, .int .i64 0, .int .i64 0, .int .i64 0, .int .i64 0, .int .i64 0] 24)).alloc (.cells #[.int .i64 0, .int .i64 0, .string ⟨#[]⟩] 37)).frozen? ⟨w.heap.size + 1, j, none⟩ := fun j => by
      rw [World.frozen?_of_block (a := ⟨w.heap.size + 1, j, none⟩) (hB.block (w.heap.size + 1) (by omega) (by omega) (by omega)), (bcell hb1).2 _ _ (by simp <;> omega)]
      exact (bcell (B := w.heap.size + 1 + 1) (W := ((w.alloc (.cells #[.int .i64 0, .int .i64 0, .int .i64 0, .int .i64 0, .int .i64 0, .int .i64 0, .int .i64 0, .int .i64 0, .int .i64 0, .int .i64 0, .int .i64 0, .int .i64 0, .int .i64 0] 24)).alloc (.cells #[.int .i64 0, .int .i64 0, .string ⟨#[]⟩] 37))) (by go_grown)).2 _ _ (by omega)
    refine ⟨fun j hj => ?_, fun j => ?_, ⟨?_, ?_, ?_⟩, fun j => ?_⟩
    · rw [b0 j]
      match j, hj with
      | 0, _ => simp
      | 1, _ => simp
      | 2, _ => simp
      | 3, _ => simp
      | 4, _ => simp
      | 5, _ => simp
      | 6, _ => simp
      | 7, _ => simp
      | 8, _ => simp
      | 9, _ => simp
      | 10, _ => simp
      | 11, _ => simp
      | 12, _ => simp
      | _ + 13, h => exact absurd h (by omega)
    · rw [f0 j]; simp
    · rw [b1]; exact look [.cells #[.int .i64 0, .int .i64 0, .int .i64 0, .int .i64 0, .int .i64 0, .int .i64 0, .int .i64 0, .int .i64 0, .int .i64 0, .int .i64 0, .int .i64 0, .int .i64 0, .int .i64 0] 24, .cells #[.int .i64 0, .int .i64 0, .string ⟨#[]⟩] 37] w 1 _ _ _ _ _ rfl rfl rfl
    · rw [b1]; exact look [.cells #[.int .i64 0, .int .i64 0, .int .i64 0, .int .i64 0, .int .i64 0, .int .i64 0, .int .i64 0, .int .i64 0, .int .i64 0, .int .i64 0, .int .i64 0, .int .i64 0, .int .i64 0] 24, .cells #[.int .i64 0, .int .i64 0, .string ⟨#[]⟩] 37] w 1 _ _ _ _ _ rfl rfl rfl
    · rw [b1]; exact look [.cells #[.int .i64 0, .int .i64 0, .int .i64 0, .int .i64 0, .int .i64 0, .int .i64 0, .int .i64 0, .int .i64 0, .int .i64 0, .int .i64 0, .int .i64 0, .int .i64 0, .int .i64 0] 24, .cells #[.int .i64 0, .int .i64 0, .string ⟨#[]⟩] 37] w 1 _ _ _ _ _ rfl rfl rfl
    · rw [f1 j]
      have h := heap_alloc_new (w.alloc (.cells #[.int .i64 0, .int .i64 0, .int .i64 0, .int .i64 0, .int .i64 0, .int .i64 0, .int .i64 0, .int .i64 0, .int .i64 0, .int .i64 0, .int .i64 0, .int .i64 0, .int .i64 0] 24)) (.cells #[.int .i64 0, .int .i64 0, .string ⟨#[]⟩] 37)
      rw [show (w.alloc (.cells #[.int .i64 0, .int .i64 0, .int .i64 0, .int .i64 0, .int .i64 0, .int .i64 0, .int .i64 0, .int .i64 0, .int .i64 0, .int .i64 0, .int .i64 0, .int .i64 0, .int .i64 0] 24)).heap.size = w.heap.size + 1 by simp] at h
      simp
  have HLR : Hid (LinesR w1 (w.heap.size + 1 + 1 + 1 + 1) (.slice (some ⟨g, 0, none⟩) ls.length cap) ls ∧ w.heap.size + 1 + 1 + 1 < g) := by
    simp at hLR hgn
    exact ⟨hLR, hgn⟩
  have hz1 : w.heap.size + 1 + 1 + 1 ≤ w1.heap.size := by have := hb1.size; simp at this; omega
  clear hLR hb1 hgn
  obtain ⟨rb, hrb⟩ : ∃ rb, rb = w.heap.size + 1 + 1 := ⟨_, rfl⟩
  rw [← hrb] at HRd HZ HLR hz1
  rw [← hrb]
  have hrb1 : w.heap.size + 1 < rb := by omega
  have HRB : Hid (rb = w.heap.size + 1 + 1) := hrb
  clear hrb
  have HRl : Hid (∀ c' (st st' : St) k (hk : k < ls.length), CSt c' st' → runL (ls.drop k) s.size st = R → FIs c' (runW (wantsL ls[k].1) ls[k].1 ls[k].2 st).1 → ((runW (wantsL ls[k].1) ls[k].1 ls[k].2 st).1 = none → st' = (runW (wantsL ls[k].1) ls[k].1 ls[k].2 st).2) → Dead c' R ∨ Going c' ls s.size R (k + 1)) := by
    intro c' st st' k hk hC hr hF hs'
    cases hW : runW (wantsL ls[k].1) ls[k].1 ls[k].2 st with
    | mk f st2 =>
      rw [hW] at hF hs'
      cases f with
      | none =>
        right
        refine ⟨st', hF, hC, ?_⟩
        rw [← hr, runL_go hk (by rfl : ls[k] = (ls[k].1, ls[k].2)) hW, hs' rfl]
      | some f =>
        left
        refine ⟨f, st', hF, hC, ?_⟩
        rw [← hr, runL_stop hk (by rfl : ls[k] = (ls[k].1, ls[k].2)) hW]
  have HRe : Hid (∀ c' (st : St) k (hk : k < ls.length), FIs c' none → CSt c' st → runL (ls.drop k) s.size st = R → ls[k].1 = [] → Going c' ls s.size R (k + 1)) := by
    intro c' st k hk hF hC hr hl
    refine ⟨st, hF, hC, ?_⟩
    rw [← hr, runL_go (st' := st) hk (by rfl : ls[k] = (ls[k].1, ls[k].2)) (by rw [hl]; rfl)]
  go_wp2
  go_loopw [6] (fun i wr => ∃ (k : Nat) (c : Nat → Value), i = .int .i64 k ∧ k ≤ ls.length ∧ Hid (RdC wr rb c) ∧ Hid (But rb rb w1 wr) ∧ (Hid (Dead c R) ∨ Hid (Going c ls s.size R k))) (fun i _ => ls.length - (intOf i).toNat)
  case atStart => exact ⟨0, rd0, rfl, by omega, HRd, But.refl _ _ _, .inr ⟨st0, rfl, rd0_c, HR0.out⟩⟩
  case round =>
    rename_i wr
    obtain ⟨k, c, rfl, hk, HRc, HBu, hst⟩ := hrel
    have hzr : w1.heap.size ≤ wr.heap.size := HBu.out.size
    have hrlt := HRc.out.lt
    rcases hst with HD | HG
    · obtain ⟨f, st, hF, hC, hRf⟩ := HD.out
      have e18 : wr.cell? ⟨rb, 18, none⟩ = some (.int .i64 f.1) := by rw [HRc.out.c 18 (by omega), hF.1]
      have n18 : (f.1 == 0) = false := by simp; exact hF.2.1
      have HS2 : Hid (Dead c R ∨ Live c s.size R 0) := .inl HD.out
      clear hF hC hRf
      by_cases hlt : k < ls.length
      · have i1 : (k : Int) < (ls.length : Int) := by omega
        go_wp2
        go_loopw [7] (fun i wz => ∃ (cc : Nat) (c : Nat → Value), i = .int .i64 cc ∧ cc ≤ 5 ∧ Hid (RdC wz rb c) ∧ Hid (But rb rb w1 wz) ∧ Hid (Dead c R ∨ Live c s.size R cc)) (fun i _ => 5 - (intOf i).toNat)
        case atStart => exact ⟨0, c, rfl, by omega, HRc, HBu, HS2⟩
        case round =>
          rename World => wz
          obtain ⟨cc, c2, rfl, hcc, HR2, HB2, HS3⟩ := hrel
          have hz2 : w1.heap.size ≤ wz.heap.size := HB2.out.size
          have hrlt2 := HR2.out.lt
          clear HRc HBu HS2 hzr hrlt
          by_cases hlt2 : cc < 5
          · have j0 : (0 : Int) ≤ (cc : Int) := by omega
            have j1 : (cc : Int) ≤ 4 := by omega
            have j2 : (cc : Int) < 5 := by omega
            rcases HS3.out with hD | hL
            · obtain ⟨f2, st2, hF2, hC2, hR2⟩ := hD
              have m13 : wz.cell? ⟨rb, 13 + cc, none⟩ = some (.bool (st2.had cc)) := by rw [HR2.out.c (13 + cc) (by omega), hC2.h cc hlt2]
              have m18 : wz.cell? ⟨rb, 18, none⟩ = some (.int .i64 f2.1) := by rw [HR2.out.c 18 (by omega), hF2.1]
              have n18' : (f2.1 == 0) = false := by simp; exact hF2.2.1
              have HD2 : Hid (Dead c2 R ∨ Live c2 s.size R (cc + 1)) := .inl ⟨f2, st2, hF2, hC2, hR2⟩
              clear hF2 hC2 hR2 HS3
              cases hh : st2.had cc
              all_goals
                rw [hh] at m13
                go_wp2
                go_roundw
                case rel => exact ⟨cc + 1, c2, by go_num, by omega, HR2, HB2, HD2⟩
                case measure => (simp [intOf] <;> omega)
            · obtain ⟨st2, hF2, hC2, hRe, hAll⟩ := hL
              have m13 : wz.cell? ⟨rb, 13 + cc, none⟩ = some (.bool (st2.had cc)) := by rw [HR2.out.c (13 + cc) (by omega), hC2.h cc hlt2]
              have m18 : wz.cell? ⟨rb, 18, none⟩ = some (.int .i64 0) := by rw [HR2.out.c 18 (by omega), hF2]
              cases hh : st2.had cc
              · have HD2 : Hid (Dead (setF c2 60 (s.size : Int) ⟨#[]⟩) R ∨ Live (setF c2 60 (s.size : Int) ⟨#[]⟩) s.size R (cc + 1)) := .inl ⟨(60, s.size, []), st2, FIs.new c2 60 s.size [] (by decide), hC2.old (fun k hk => setF_old _ _ _ _ k hk), by rw [hRe, had_miss hlt2 hh]; rfl⟩
                have m19 := HR2.out.c 19 (by omega)
                have m20 := HR2.out.c 20 (by omega)
                have p18 := HR2.out.f 18 (by omega)
                have p19 := HR2.out.f 19 (by omega)
                have p20 := HR2.out.f 20 (by omega)
                have q1 : (⟨rb, 18, none⟩ : Addr) ≠ ⟨rb, 19, none⟩ := addr_ne (.inr (by omega))
                have q2 : (⟨rb, 18, none⟩ : Addr) ≠ ⟨rb, 20, none⟩ := addr_ne (.inr (by omega))
                have q3 : (⟨rb, 19, none⟩ : Addr) ≠ ⟨rb, 20, none⟩ := addr_ne (.inr (by omega))
                rw [hh] at m13
                clear hF2 hC2 hRe hAll HS3
                go_wp2
                go_roundw
                case rel => exact ⟨cc + 1, setF c2 60 (s.size : Int) ⟨#[]⟩, by go_num, by omega, ((HR2.out.set 18 _ (by omega)).set 19 _ (by omega)).set 20 _ (by omega), HB2.out.trans (((But.setCell _ (.inl rfl)).trans (But.setCell _ (.inl rfl))).trans (But.setCell _ (.inl rfl))), HD2⟩
                case measure => (simp [intOf] <;> omega)
              · have HL2 : Hid (Dead c2 R ∨ Live c2 s.size R (cc + 1)) := .inr ⟨st2, hF2, hC2, hRe, fun j hj => by
                  rcases Nat.lt_or_ge j cc with h | h
                  · exact hAll j h
                  · obtain rfl : j = cc := by omega
                    exact hh⟩
                rw [hh] at m13
                clear hF2 hC2 hRe hAll HS3
                go_wp2
                go_roundw
                case rel => exact ⟨cc + 1, c2, by go_num, by omega, HR2, HB2, HL2⟩
                case measure => (simp [intOf] <;> omega)
          · obtain rfl : cc = 5 := by omega
            obtain ⟨r0, r1, ⟨s0, s1, s2⟩, r3⟩ := HZ.out wz HB2.out
            have d0 := r0 0 (by omega)
            have d1 := r0 1 (by omega)
            have d2 := r0 2 (by omega)
            have d3 := r0 3 (by omega)
            have d4 := r0 4 (by omega)
            have d5 := r0 5 (by omega)
            have d6 := r0 6 (by omega)
            have d7 := r0 7 (by omega)
            have d8 := r0 8 (by omega)
            have d9 := r0 9 (by omega)
            have d10 := r0 10 (by omega)
            have d11 := r0 11 (by omega)
            have d12 := r0 12 (by omega)
            have hnl : w.heap.size < wz.heap.size := by omega
            have hnl1 : w.heap.size + 1 < wz.heap.size := by omega
            have nrb : w.heap.size ≠ rb := by omega
            have nrb1 : w.heap.size + 1 ≠ rb := by omega
            have HBf : Hid (Below w.heap.size w wz) := HBw.out.trans (HB2.out.to_below (by omega) (by omega) (by omega))
            clear r0
            rcases HS3.out with hD | hL
            · obtain ⟨f2, st2, hF2, hC2, hR2⟩ := hD
              have m18 : wz.cell? ⟨rb, 18, none⟩ = some (.int .i64 f2.1) := by rw [HR2.out.c 18 (by omega), hF2.1]
              have m19 : wz.cell? ⟨rb, 19, none⟩ = some (.int .i64 (f2.2.1 : Int)) := by rw [HR2.out.c 19 (by omega), hF2.2.2.1]
              have m20 : wz.cell? ⟨rb, 20, none⟩ = some (.string ⟨f2.2.2.toArray⟩) := by rw [HR2.out.c 20 (by omega), hF2.2.2.2]
              have n18' : (f2.1 == 0) = false := by simp; exact hF2.2.1
              have HRf : Hid (R.1 = some f2) := hR2
              clear hF2 hC2 hR2 HS3
              go_wp2
              go_region
              go_wp2
              refine bodyPost_ret (v := .tuple #[tab0.val, .agg #[.int .i64 f2.1, .int .i64 (f2.2.1 : Int), .string ⟨f2.2.2.toArray⟩]]) (by simp [results, Tryz.results15, go_sem, Tab.val, tab0, d0, d1, d2, d3, d4, d5, d6, d7, d8, d9, d10, d11, d12, s0, s1, s2]) rfl ?_
              refine ⟨.inr ⟨f2, HRf.out, rfl⟩, ?_⟩
              refine Below.drew ?_
              iterate 3 (refine Below.setCell (B := w.heap.size) (p := ⟨w.heap.size + 1, _, none⟩) ?_ (Nat.le_succ _) _)
              iterate 13 (refine Below.setCell (B := w.heap.size) (p := ⟨w.heap.size, _, none⟩) ?_ (Nat.le_refl _) _)
              exact HBf.out
            · obtain ⟨st2, hF2, hC2, hRe, hAll⟩ := hL
              have m18 : wz.cell? ⟨rb, 18, none⟩ = some (.int .i64 0) := by rw [HR2.out.c 18 (by omega), hF2]
              have HRf : Hid (R = (none, st2)) := by rw [hRe, had_all hAll]; rfl
              have t0 := (HR2.out.c 0 (by omega)).trans (congrArg some (hC2.u 0 (by omega)))
              have t1 := (HR2.out.c 1 (by omega)).trans (congrArg some (hC2.u 1 (by omega)))
              have t2 := (HR2.out.c 2 (by omega)).trans (congrArg some (hC2.u 2 (by omega)))
              have t3 := (HR2.out.c 3 (by omega)).trans (congrArg some (hC2.u 3 (by omega)))
              have t4 := (HR2.out.c 4 (by omega)).trans (congrArg some (hC2.l 0 (by omega)))
              have t5 := (HR2.out.c 5 (by omega)).trans (congrArg some (hC2.l 1 (by omega)))
              have t6 := (HR2.out.c 6 (by omega)).trans (congrArg some (hC2.l 2 (by omega)))
              have t7 := (HR2.out.c 7 (by omega)).trans (congrArg some (hC2.l 3 (by omega)))
              have t8 := (HR2.out.c 8 (by omega)).trans (congrArg some (hC2.b 0 (by omega)))
              have t9 := (HR2.out.c 9 (by omega)).trans (congrArg some (hC2.b 1 (by omega)))
              have t10 := (HR2.out.c 10 (by omega)).trans (congrArg some (hC2.b 2 (by omega)))
              have t11 := (HR2.out.c 11 (by omega)).trans (congrArg some (hC2.b 3 (by omega)))
              have t12 := (HR2.out.c 12 (by omega)).trans (congrArg some hC2.d)
              clear hF2 hC2 hRe hAll HS3
              go_wp2
              refine bodyPost_ret (v := .tuple #[st2.t.val, .agg #[.int .i64 0, .int .i64 0, .string ⟨#[]⟩]]) (by simp [results, Tryz.results15, go_sem, Tab.val, d0, d1, d2, d3, d4, d5, d6, d7, d8, d9, d10, d11, d12, s0, s1, s2]) rfl ?_
              rw [HRf.out]
              refine ⟨.inl ⟨rfl, rfl⟩, ?_⟩
              iterate 3 (refine Below.setCell (B := w.heap.size) (p := ⟨w.heap.size + 1, _, none⟩) ?_ (Nat.le_succ _) _)
              iterate 13 (refine Below.setCell (B := w.heap.size) (p := ⟨w.heap.size, _, none⟩) ?_ (Nat.le_refl _) _)
              exact HBf.out
      · have i1 : ¬ ((k : Int) < (ls.length : Int)) := by omega
        go_wp2
        go_loopw [7] (fun i wz => ∃ (cc : Nat) (c : Nat → Value), i = .int .i64 cc ∧ cc ≤ 5 ∧ Hid (RdC wz rb c) ∧ Hid (But rb rb w1 wz) ∧ Hid (Dead c R ∨ Live c s.size R cc)) (fun i _ => 5 - (intOf i).toNat)
        case atStart => exact ⟨0, c, rfl, by omega, HRc, HBu, HS2⟩
        case round =>
          rename World => wz
          obtain ⟨cc, c2, rfl, hcc, HR2, HB2, HS3⟩ := hrel
          have hz2 : w1.heap.size ≤ wz.heap.size := HB2.out.size
          have hrlt2 := HR2.out.lt
          clear HRc HBu HS2 hzr hrlt
          by_cases hlt2 : cc < 5
          · have j0 : (0 : Int) ≤ (cc : Int) := by omega
            have j1 : (cc : Int) ≤ 4 := by omega
            have j2 : (cc : Int) < 5 := by omega
            rcases HS3.out with hD | hL
            · obtain ⟨f2, st2, hF2, hC2, hR2⟩ := hD
              have m13 : wz.cell? ⟨rb, 13 + cc, none⟩ = some (.bool (st2.had cc)) := by rw [HR2.out.c (13 + cc) (by omega), hC2.h cc hlt2]
              have m18 : wz.cell? ⟨rb, 18, none⟩ = some (.int .i64 f2.1) := by rw [HR2.out.c 18 (by omega), hF2.1]
              have n18' : (f2.1 == 0) = false := by simp; exact hF2.2.1
              have HD2 : Hid (Dead c2 R ∨ Live c2 s.size R (cc + 1)) := .inl ⟨f2, st2, hF2, hC2, hR2⟩
              clear hF2 hC2 hR2 HS3
              cases hh : st2.had cc
              all_goals
                rw [hh] at m13
                go_wp2
                go_roundw
                case rel => exact ⟨cc + 1, c2, by go_num, by omega, HR2, HB2, HD2⟩
                case measure => (simp [intOf] <;> omega)
            · obtain ⟨st2, hF2, hC2, hRe, hAll⟩ := hL
              have m13 : wz.cell? ⟨rb, 13 + cc, none⟩ = some (.bool (st2.had cc)) := by rw [HR2.out.c (13 + cc) (by omega), hC2.h cc hlt2]
              have m18 : wz.cell? ⟨rb, 18, none⟩ = some (.int .i64 0) := by rw [HR2.out.c 18 (by omega), hF2]
              cases hh : st2.had cc
              · have HD2 : Hid (Dead (setF c2 60 (s.size : Int) ⟨#[]⟩) R ∨ Live (setF c2 60 (s.size : Int) ⟨#[]⟩) s.size R (cc + 1)) := .inl ⟨(60, s.size, []), st2, FIs.new c2 60 s.size [] (by decide), hC2.old (fun k hk => setF_old _ _ _ _ k hk), by rw [hRe, had_miss hlt2 hh]; rfl⟩
                have m19 := HR2.out.c 19 (by omega)
                have m20 := HR2.out.c 20 (by omega)
                have p18 := HR2.out.f 18 (by omega)
                have p19 := HR2.out.f 19 (by omega)
                have p20 := HR2.out.f 20 (by omega)
                have q1 : (⟨rb, 18, none⟩ : Addr) ≠ ⟨rb, 19, none⟩ := addr_ne (.inr (by omega))
                have q2 : (⟨rb, 18, none⟩ : Addr) ≠ ⟨rb, 20, none⟩ := addr_ne (.inr (by omega))
                have q3 : (⟨rb, 19, none⟩ : Addr) ≠ ⟨rb, 20, none⟩ := addr_ne (.inr (by omega))
                rw [hh] at m13
                clear hF2 hC2 hRe hAll HS3
                go_wp2
                go_roundw
                case rel => exact ⟨cc + 1, setF c2 60 (s.size : Int) ⟨#[]⟩, by go_num, by omega, ((HR2.out.set 18 _ (by omega)).set 19 _ (by omega)).set 20 _ (by omega), HB2.out.trans (((But.setCell _ (.inl rfl)).trans (But.setCell _ (.inl rfl))).trans (But.setCell _ (.inl rfl))), HD2⟩
                case measure => (simp [intOf] <;> omega)
              · have HL2 : Hid (Dead c2 R ∨ Live c2 s.size R (cc + 1)) := .inr ⟨st2, hF2, hC2, hRe, fun j hj => by
                  rcases Nat.lt_or_ge j cc with h | h
                  · exact hAll j h
                  · obtain rfl : j = cc := by omega
                    exact hh⟩
                rw [hh] at m13
                clear hF2 hC2 hRe hAll HS3
                go_wp2
                go_roundw
                case rel => exact ⟨cc + 1, c2, by go_num, by omega, HR2, HB2, HL2⟩
                case measure => (simp [intOf] <;> omega)
          · obtain rfl : cc = 5 := by omega
            obtain ⟨r0, r1, ⟨s0, s1, s2⟩, r3⟩ := HZ.out wz HB2.out
            have d0 := r0 0 (by omega)
            have d1 := r0 1 (by omega)
            have d2 := r0 2 (by omega)
            have d3 := r0 3 (by omega)
            have d4 := r0 4 (by omega)
            have d5 := r0 5 (by omega)
            have d6 := r0 6 (by omega)
            have d7 := r0 7 (by omega)
            have d8 := r0 8 (by omega)
            have d9 := r0 9 (by omega)
            have d10 := r0 10 (by omega)
            have d11 := r0 11 (by omega)
            have d12 := r0 12 (by omega)
            have hnl : w.heap.size < wz.heap.size := by omega
            have hnl1 : w.heap.size + 1 < wz.heap.size := by omega
            have nrb : w.heap.size ≠ rb := by omega
            have nrb1 : w.heap.size + 1 ≠ rb := by omega
            have HBf : Hid (Below w.heap.size w wz) := HBw.out.trans (HB2.out.to_below (by omega) (by omega) (by omega))
            clear r0
            rcases HS3.out with hD | hL
            · obtain ⟨f2, st2, hF2, hC2, hR2⟩ := hD
              have m18 : wz.cell? ⟨rb, 18, none⟩ = some (.int .i64 f2.1) := by rw [HR2.out.c 18 (by omega), hF2.1]
              have m19 : wz.cell? ⟨rb, 19, none⟩ = some (.int .i64 (f2.2.1 : Int)) := by rw [HR2.out.c 19 (by omega), hF2.2.2.1]
              have m20 : wz.cell? ⟨rb, 20, none⟩ = some (.string ⟨f2.2.2.toArray⟩) := by rw [HR2.out.c 20 (by omega), hF2.2.2.2]
              have n18' : (f2.1 == 0) = false := by simp; exact hF2.2.1
              have HRf : Hid (R.1 = some f2) := hR2
              clear hF2 hC2 hR2 HS3
              go_wp2
              go_region
              go_wp2
              refine bodyPost_ret (v := .tuple #[tab0.val, .agg #[.int .i64 f2.1, .int .i64 (f2.2.1 : Int), .string ⟨f2.2.2.toArray⟩]]) (by simp [results, Tryz.results15, go_sem, Tab.val, tab0, d0, d1, d2, d3, d4, d5, d6, d7, d8, d9, d10, d11, d12, s0, s1, s2]) rfl ?_
              refine ⟨.inr ⟨f2, HRf.out, rfl⟩, ?_⟩
              refine Below.drew ?_
              iterate 3 (refine Below.setCell (B := w.heap.size) (p := ⟨w.heap.size + 1, _, none⟩) ?_ (Nat.le_succ _) _)
              iterate 13 (refine Below.setCell (B := w.heap.size) (p := ⟨w.heap.size, _, none⟩) ?_ (Nat.le_refl _) _)
              exact HBf.out
            · obtain ⟨st2, hF2, hC2, hRe, hAll⟩ := hL
              have m18 : wz.cell? ⟨rb, 18, none⟩ = some (.int .i64 0) := by rw [HR2.out.c 18 (by omega), hF2]
              have HRf : Hid (R = (none, st2)) := by rw [hRe, had_all hAll]; rfl
              have t0 := (HR2.out.c 0 (by omega)).trans (congrArg some (hC2.u 0 (by omega)))
              have t1 := (HR2.out.c 1 (by omega)).trans (congrArg some (hC2.u 1 (by omega)))
              have t2 := (HR2.out.c 2 (by omega)).trans (congrArg some (hC2.u 2 (by omega)))
              have t3 := (HR2.out.c 3 (by omega)).trans (congrArg some (hC2.u 3 (by omega)))
              have t4 := (HR2.out.c 4 (by omega)).trans (congrArg some (hC2.l 0 (by omega)))
              have t5 := (HR2.out.c 5 (by omega)).trans (congrArg some (hC2.l 1 (by omega)))
              have t6 := (HR2.out.c 6 (by omega)).trans (congrArg some (hC2.l 2 (by omega)))
              have t7 := (HR2.out.c 7 (by omega)).trans (congrArg some (hC2.l 3 (by omega)))
              have t8 := (HR2.out.c 8 (by omega)).trans (congrArg some (hC2.b 0 (by omega)))
              have t9 := (HR2.out.c 9 (by omega)).trans (congrArg some (hC2.b 1 (by omega)))
              have t10 := (HR2.out.c 10 (by omega)).trans (congrArg some (hC2.b 2 (by omega)))
              have t11 := (HR2.out.c 11 (by omega)).trans (congrArg some (hC2.b 3 (by omega)))
              have t12 := (HR2.out.c 12 (by omega)).trans (congrArg some hC2.d)
              clear hF2 hC2 hRe hAll HS3
              go_wp2
              refine bodyPost_ret (v := .tuple #[st2.t.val, .agg #[.int .i64 0, .int .i64 0, .string ⟨#[]⟩]]) (by simp [results, Tryz.results15, go_sem, Tab.val, d0, d1, d2, d3, d4, d5, d6, d7, d8, d9, d10, d11, d12, s0, s1, s2]) rfl ?_
              rw [HRf.out]
              refine ⟨.inl ⟨rfl, rfl⟩, ?_⟩
              iterate 3 (refine Below.setCell (B := w.heap.size) (p := ⟨w.heap.size + 1, _, none⟩) ?_ (Nat.le_succ _) _)
              iterate 13 (refine Below.setCell (B := w.heap.size) (p := ⟨w.heap.size, _, none⟩) ?_ (Nat.le_refl _) _)
              exact HBf.out
    · obtain ⟨st, hF, hC, hRn⟩ := HG.out
      by_cases hlt : k < ls.length
      · have e18 : wr.cell? ⟨rb, 18, none⟩ = some (.int .i64 0) := by rw [HRc.out.c 18 (by omega), hF]
        have i1 : (k : Int) < (ls.length : Int) := by omega
        have i0 : (0 : Int) ≤ (k : Int) := by omega
        obtain ⟨u, hu1, hu2, hu3⟩ := rline_get (HLR.out.1.but HBu.out (by omega) (by omega)) k hlt
        have hgr : g < wr.heap.size := by omega
        obtain ⟨fl1, fl2⟩ := HFacts.out ls[k] (List.getElem_mem hlt)
        have HLl : Hid (ls[k].1.length ≤ 200000 ∧ ∀ x ∈ ls[k].1, x.2 ≠ [] ∧ x.2.length ≤ 200000) := ⟨fl1, fl2⟩
        by_cases hw0 : ls[k].1.length = 0
        · have hnil : ls[k].1 = [] := List.length_eq_zero_iff.1 hw0
          have HN : Hid (Going c ls s.size R (k + 1)) := HRe.out c st k hlt hF hC hRn hnil
          obtain ⟨p, cp, rfl⟩ : ∃ p cp, u = .slice p 0 cp := by
            rcases hu3.2 with ⟨rfl, _⟩ | ⟨g', cap', cur, rfl, _⟩
            · exact ⟨_, _, rfl⟩
            · rw [hw0]; exact ⟨_, _, rfl⟩
          clear hu3 fl1 fl2 hnil hF hC hRn hw0
          go_wp2
          go_roundw
          case rel => exact ⟨k + 1, c, by go_num, by omega, HRc, HBu, .inr HN⟩
          case measure => (simp [intOf] <;> omega)
        · obtain ⟨g2, cap2, rfl, hg2, hg2l⟩ := hu3.form (by omega)
          have hWs := wsAt_of hu3
          have Hln : Hid _ := line_any rb g2 cap2 ls[k].2 ls[k].1 c st wr HRc.out hF hC hWs (by omega) (by omega) HLl.out.1 HLl.out.2
          have HNx : Hid (∀ c' st', CSt c' st' → FIs c' (runW (wantsL ls[k].1) ls[k].1 ls[k].2 st).1 → ((runW (wantsL ls[k].1) ls[k].1 ls[k].2 st).1 = none → st' = (runW (wantsL ls[k].1) ls[k].1 ls[k].2 st).2) → Dead c' R ∨ Going c' ls s.size R (k + 1)) := fun c' st' h1 h2 h3 => HRl.out c' st st' k hlt h1 hRn h2 h3
          have i3 : (0 : Int) < (ls[k].1.length : Int) := by omega
          clear hu3 fl1 fl2 hF hC hRn hw0 hWs
          go_wp2_with (first | (go_at_call 26; refine Calls.mono Hln.out ?_; rintro e w2 ⟨rfl, c', st', hR', hF', hC', hN', hB'⟩; refine Hid.out ?_))
          refine Lib.hid ?_
          have HX := HNx.out c' st' hC' hF' hN'
          have HR' : Hid (RdC w2 rb c') := hR'
          have HB' : Hid (But rb rb w1 w2) := HBu.out.trans hB'
          clear hR' hF' hC' hN' hB'
          go_wp2
          go_roundw
          case rel => exact ⟨k + 1, c', by go_num, by omega, HR', HB', HX⟩
          case measure => (simp [intOf] <;> omega)
      · have hke : k = ls.length := by omega
        have i1 : ¬ ((k : Int) < (ls.length : Int)) := by omega
        have HS2 : Hid (Dead c R ∨ Live c s.size R 0) := by
          right
          refine ⟨st, hF, hC, ?_, fun j hj => by omega⟩
          rw [← hRn, hke, List.drop_length, runL]
        clear hF hC hRn
        go_wp2
        go_loopw [7] (fun i wz => ∃ (cc : Nat) (c : Nat → Value), i = .int .i64 cc ∧ cc ≤ 5 ∧ Hid (RdC wz rb c) ∧ Hid (But rb rb w1 wz) ∧ Hid (Dead c R ∨ Live c s.size R cc)) (fun i _ => 5 - (intOf i).toNat)
        case atStart => exact ⟨0, c, rfl, by omega, HRc, HBu, HS2⟩
        case round =>
          rename World => wz
          obtain ⟨cc, c2, rfl, hcc, HR2, HB2, HS3⟩ := hrel
          have hz2 : w1.heap.size ≤ wz.heap.size := HB2.out.size
          have hrlt2 := HR2.out.lt
          clear HRc HBu HS2 hzr hrlt
          by_cases hlt2 : cc < 5
          · have j0 : (0 : Int) ≤ (cc : Int) := by omega
            have j1 : (cc : Int) ≤ 4 := by omega
            have j2 : (cc : Int) < 5 := by omega
            rcases HS3.out with hD | hL
            · obtain ⟨f2, st2, hF2, hC2, hR2⟩ := hD
              have m13 : wz.cell? ⟨rb, 13 + cc, none⟩ = some (.bool (st2.had cc)) := by rw [HR2.out.c (13 + cc) (by omega), hC2.h cc hlt2]
              have m18 : wz.cell? ⟨rb, 18, none⟩ = some (.int .i64 f2.1) := by rw [HR2.out.c 18 (by omega), hF2.1]
              have n18' : (f2.1 == 0) = false := by simp; exact hF2.2.1
              have HD2 : Hid (Dead c2 R ∨ Live c2 s.size R (cc + 1)) := .inl ⟨f2, st2, hF2, hC2, hR2⟩
              clear hF2 hC2 hR2 HS3
              cases hh : st2.had cc
              all_goals
                rw [hh] at m13
                go_wp2
                go_roundw
                case rel => exact ⟨cc + 1, c2, by go_num, by omega, HR2, HB2, HD2⟩
                case measure => (simp [intOf] <;> omega)
            · obtain ⟨st2, hF2, hC2, hRe, hAll⟩ := hL
              have m13 : wz.cell? ⟨rb, 13 + cc, none⟩ = some (.bool (st2.had cc)) := by rw [HR2.out.c (13 + cc) (by omega), hC2.h cc hlt2]
              have m18 : wz.cell? ⟨rb, 18, none⟩ = some (.int .i64 0) := by rw [HR2.out.c 18 (by omega), hF2]
              cases hh : st2.had cc
              · have HD2 : Hid (Dead (setF c2 60 (s.size : Int) ⟨#[]⟩) R ∨ Live (setF c2 60 (s.size : Int) ⟨#[]⟩) s.size R (cc + 1)) := .inl ⟨(60, s.size, []), st2, FIs.new c2 60 s.size [] (by decide), hC2.old (fun k hk => setF_old _ _ _ _ k hk), by rw [hRe, had_miss hlt2 hh]; rfl⟩
                have m19 := HR2.out.c 19 (by omega)
                have m20 := HR2.out.c 20 (by omega)
                have p18 := HR2.out.f 18 (by omega)
                have p19 := HR2.out.f 19 (by omega)
                have p20 := HR2.out.f 20 (by omega)
                have q1 : (⟨rb, 18, none⟩ : Addr) ≠ ⟨rb, 19, none⟩ := addr_ne (.inr (by omega))
                have q2 : (⟨rb, 18, none⟩ : Addr) ≠ ⟨rb, 20, none⟩ := addr_ne (.inr (by omega))
                have q3 : (⟨rb, 19, none⟩ : Addr) ≠ ⟨rb, 20, none⟩ := addr_ne (.inr (by omega))
                rw [hh] at m13
                clear hF2 hC2 hRe hAll HS3
                go_wp2
                go_roundw
                case rel => exact ⟨cc + 1, setF c2 60 (s.size : Int) ⟨#[]⟩, by go_num, by omega, ((HR2.out.set 18 _ (by omega)).set 19 _ (by omega)).set 20 _ (by omega), HB2.out.trans (((But.setCell _ (.inl rfl)).trans (But.setCell _ (.inl rfl))).trans (But.setCell _ (.inl rfl))), HD2⟩
                case measure => (simp [intOf] <;> omega)
              · have HL2 : Hid (Dead c2 R ∨ Live c2 s.size R (cc + 1)) := .inr ⟨st2, hF2, hC2, hRe, fun j hj => by
                  rcases Nat.lt_or_ge j cc with h | h
                  · exact hAll j h
                  · obtain rfl : j = cc := by omega
                    exact hh⟩
                rw [hh] at m13
                clear hF2 hC2 hRe hAll HS3
                go_wp2
                go_roundw
                case rel => exact ⟨cc + 1, c2, by go_num, by omega, HR2, HB2, HL2⟩
                case measure => (simp [intOf] <;> omega)
          · obtain rfl : cc = 5 := by omega
            obtain ⟨r0, r1, ⟨s0, s1, s2⟩, r3⟩ := HZ.out wz HB2.out
            have d0 := r0 0 (by omega)
            have d1 := r0 1 (by omega)
            have d2 := r0 2 (by omega)
            have d3 := r0 3 (by omega)
            have d4 := r0 4 (by omega)
            have d5 := r0 5 (by omega)
            have d6 := r0 6 (by omega)
            have d7 := r0 7 (by omega)
            have d8 := r0 8 (by omega)
            have d9 := r0 9 (by omega)
            have d10 := r0 10 (by omega)
            have d11 := r0 11 (by omega)
            have d12 := r0 12 (by omega)
            have hnl : w.heap.size < wz.heap.size := by omega
            have hnl1 : w.heap.size + 1 < wz.heap.size := by omega
            have nrb : w.heap.size ≠ rb := by omega
            have nrb1 : w.heap.size + 1 ≠ rb := by omega
            have HBf : Hid (Below w.heap.size w wz) := HBw.out.trans (HB2.out.to_below (by omega) (by omega) (by omega))
            clear r0
            rcases HS3.out with hD | hL
            · obtain ⟨f2, st2, hF2, hC2, hR2⟩ := hD
              have m18 : wz.cell? ⟨rb, 18, none⟩ = some (.int .i64 f2.1) := by rw [HR2.out.c 18 (by omega), hF2.1]
              have m19 : wz.cell? ⟨rb, 19, none⟩ = some (.int .i64 (f2.2.1 : Int)) := by rw [HR2.out.c 19 (by omega), hF2.2.2.1]
              have m20 : wz.cell? ⟨rb, 20, none⟩ = some (.string ⟨f2.2.2.toArray⟩) := by rw [HR2.out.c 20 (by omega), hF2.2.2.2]
              have n18' : (f2.1 == 0) = false := by simp; exact hF2.2.1
              have HRf : Hid (R.1 = some f2) := hR2
              clear hF2 hC2 hR2 HS3
              go_wp2
              go_region
              go_wp2
              refine bodyPost_ret (v := .tuple #[tab0.val, .agg #[.int .i64 f2.1, .int .i64 (f2.2.1 : Int), .string ⟨f2.2.2.toArray⟩]]) (by simp [results, Tryz.results15, go_sem, Tab.val, tab0, d0, d1, d2, d3, d4, d5, d6, d7, d8, d9, d10, d11, d12, s0, s1, s2]) rfl ?_
              refine ⟨.inr ⟨f2, HRf.out, rfl⟩, ?_⟩
              refine Below.drew ?_
              iterate 3 (refine Below.setCell (B := w.heap.size) (p := ⟨w.heap.size + 1, _, none⟩) ?_ (Nat.le_succ _) _)
              iterate 13 (refine Below.setCell (B := w.heap.size) (p := ⟨w.heap.size, _, none⟩) ?_ (Nat.le_refl _) _)
              exact HBf.out
            · obtain ⟨st2, hF2, hC2, hRe, hAll⟩ := hL
              have m18 : wz.cell? ⟨rb, 18, none⟩ = some (.int .i64 0) := by rw [HR2.out.c 18 (by omega), hF2]
              have HRf : Hid (R = (none, st2)) := by rw [hRe, had_all hAll]; rfl
              have t0 := (HR2.out.c 0 (by omega)).trans (congrArg some (hC2.u 0 (by omega)))
              have t1 := (HR2.out.c 1 (by omega)).trans (congrArg some (hC2.u 1 (by omega)))
              have t2 := (HR2.out.c 2 (by omega)).trans (congrArg some (hC2.u 2 (by omega)))
              have t3 := (HR2.out.c 3 (by omega)).trans (congrArg some (hC2.u 3 (by omega)))
              have t4 := (HR2.out.c 4 (by omega)).trans (congrArg some (hC2.l 0 (by omega)))
              have t5 := (HR2.out.c 5 (by omega)).trans (congrArg some (hC2.l 1 (by omega)))
              have t6 := (HR2.out.c 6 (by omega)).trans (congrArg some (hC2.l 2 (by omega)))
              have t7 := (HR2.out.c 7 (by omega)).trans (congrArg some (hC2.l 3 (by omega)))
              have t8 := (HR2.out.c 8 (by omega)).trans (congrArg some (hC2.b 0 (by omega)))
              have t9 := (HR2.out.c 9 (by omega)).trans (congrArg some (hC2.b 1 (by omega)))
              have t10 := (HR2.out.c 10 (by omega)).trans (congrArg some (hC2.b 2 (by omega)))
              have t11 := (HR2.out.c 11 (by omega)).trans (congrArg some (hC2.b 3 (by omega)))
              have t12 := (HR2.out.c 12 (by omega)).trans (congrArg some hC2.d)
              clear hF2 hC2 hRe hAll HS3
              go_wp2
              refine bodyPost_ret (v := .tuple #[st2.t.val, .agg #[.int .i64 0, .int .i64 0, .string ⟨#[]⟩]]) (by simp [results, Tryz.results15, go_sem, Tab.val, d0, d1, d2, d3, d4, d5, d6, d7, d8, d9, d10, d11, d12, s0, s1, s2]) rfl ?_
              rw [HRf.out]
              refine ⟨.inl ⟨rfl, rfl⟩, ?_⟩
              iterate 3 (refine Below.setCell (B := w.heap.size) (p := ⟨w.heap.size + 1, _, none⟩) ?_ (Nat.le_succ _) _)
              iterate 13 (refine Below.setCell (B := w.heap.size) (p := ⟨w.heap.size, _, none⟩) ?_ (Nat.le_refl _) _)
              exact HBf.out

theorem rparse_any (s : ByteArray) (w : World) (hs : s.size ≤ 131072) : Calls Tryz.prog 15 #[.string s] w (RpPost (parseF s.data.toList) w) := by
  by_cases h : 65536 < s.size
  · exact rparse_long s w h hs
  · exact rparse_short s w (by omega)

end Go.Proofs.YtgabnjiapkkjaaaGreatDoor.Tb
