/- The document's Program: the lines of a text in memory, and what block answers whatever stands there. Conditions: the reader and the lines lie in memory. -/
import Derived.Test.YthfchelkfbboaaaGreatDoorDx
import Derived.Test.YthfchelkfbboaaaGreatDoorRe
namespace Go.Proofs.YthfchelkfbboaaaGreatDoor.Pr
open Go.ChangeShapes Go.WideShapes Go.ChangeAt Go.RowKit
open _root_.Go.Proofs.YthfchelkfbboaaaGreatDoor.Op
set_option maxRecDepth 20000

/-- block: one block. -/
theorem dblock_any (r k : Nat) (la : Option Addr) (ls : List Ln) (ps : List Pw) (lc nx m : Nat) (w : World) (h : Dr w r (.slice la ls.length lc) nx m none) (hl : DL w r la ls ps) (hn : nx ≤ ls.length) (hk : k ≤ 65537) :
    Calls Tryz.prog 15 #[.pointer (some ⟨r, 0, none⟩), .int .i64 k] w (DbPost w r la lc m ls ps (blockD k ls nx m)) := by
  have hB : blockD k ls nx m = (headD k ls nx m).bind fun _ => (opsD (ls.drop (nx + 1)) (nx + 1)).bind fun y => endD y.1 ls y.2 m := rfl
  generalize blockD k ls nx m = RES at *
  unfold headD at hB
  cases h1 : lnR [98, 108, 111, 99, 107] ls nx m with
  | no f => exact dblock_d1 r k la ls ps lc nx m none RES w h hl hn hk f h1 (by rw [hB, h1]; rfl)
  | ok l =>
    rw [h1, R.bind_ok] at hB
    cases h2 : wordR l 1 with
    | no f => exact dblock_d2 r k la ls ps lc nx m none RES w h hl hn hk l h1 f h2 (by rw [hB, h2]; rfl)
    | ok x =>
      rw [h2, R.bind_ok] at hB
      by_cases hne : x.2 = Lib.decDigits k ++ [58]
      · rw [show isR (Lib.decDigits k ++ [58]) x = .ok () by unfold isR; rw [if_pos hne], R.bind_ok] at hB
        have hB3 : Bh RES (stF (guardR none (endsR l 2))) ((opsD (ls.drop (nx + 1)) (nx + 1)).bind fun y => endD y.1 ls y.2 m) := Bh.step (fl := none) (v := ()) hB (fun _ _ => rfl)
        cases ho : guardR (stF (guardR none (endsR l 2))) (opsD (ls.drop (nx + 1)) (nx + 1)) with
        | no f => exact dblock_d4 r k la ls ps lc nx m none RES w h hl hn hk l h1 x h2 hne f ho (bh_no hB3 ho)
        | ok y =>
          have hB4 := bh_ok hB3 ho
          by_cases hL : y.2 < ls.length
          · exact dblock_l6 r k la ls ps lc nx m none RES w h hl hn hk l h1 x h2 hne y ho hL hB4
          · refine dblock_d5 r k la ls ps lc nx m none RES w h hl hn hk l h1 x h2 hne y ho hL ?_
            rw [hB4]
            unfold endD
            rw [List.getElem?_eq_none (by omega)]
      · exact dblock_d3 r k la ls ps lc nx m none RES w h hl hn hk l h1 x h2 hne (by rw [hB, show isR (Lib.decDigits k ++ [58]) x = .no x by unfold isR; rw [if_neg hne]]; rfl)

theorem emit_fit (st : Nat) (cur : List UInt8) (l : Ln) (hl : l ∈ emit st cur) : l.ws.length ≤ cur.length + 1 ∧ ∀ x ∈ l.ws, x.2.length ≤ cur.length := by
  unfold emit at hl
  split at hl
  · simp at hl
  · rw [List.mem_singleton.1 hl]
    exact ⟨wordsS_len _ _ _, fun x hx => by have := (wordsS_ok cur st [] (by simp) x hx).2; simpa using this⟩
/-- A line has no more words than the text has bytes, and none is longer. -/
theorem lines_fit : ∀ (s : List UInt8) (st : Nat) (cur : List UInt8), ∀ l ∈ linesS s st cur, l.ws.length ≤ cur.length + s.length + 1 ∧ ∀ x ∈ l.ws, x.2.length ≤ cur.length + s.length
  | [], st, cur, l, hl => emit_fit st cur l hl
  | b :: r, st, cur, l, hl => by
    unfold linesS at hl
    simp only [List.length_cons]
    split at hl
    · rcases List.mem_append.1 hl with h | h
      · obtain ⟨h1, h2⟩ := emit_fit _ _ l h
        exact ⟨by omega, fun x hx => by have := h2 x hx; omega⟩
      · obtain ⟨h1, h2⟩ := lines_fit r _ _ l h
        simp only [List.length_nil] at h1 h2
        exact ⟨by omega, fun x hx => by have := h2 x hx; omega⟩
    · obtain ⟨h1, h2⟩ := lines_fit r _ _ l hl
      simp only [List.length_append, List.length_singleton] at h1 h2
      exact ⟨by omega, fun x hx => by have := h2 x hx; omega⟩
theorem dcells_get (ws : List Wd') : ∀ (i : Nat) (h : i < ws.length), (dcells ws)[i * 2]? = some (.string ⟨ws[i].2.toArray⟩) ∧ (dcells ws)[i * 2 + 1]? = some (.int .i64 (ws[i].1 : Int)) := by
  induction ws with
  | nil => intro i h; simp at h
  | cons x r ih =>
    intro i h
    rw [show dcells (x :: r) = .string ⟨x.2.toArray⟩ :: .int .i64 (x.1 : Int) :: dcells r from rfl]
    cases i with
    | zero => exact ⟨rfl, rfl⟩
    | succ i =>
      have := ih i (by simpa using h)
      rw [show (i + 1) * 2 = i * 2 + 1 + 1 by omega]
      simpa using this
theorem lcells_at (ls : List Ln) : ∀ (ps : List Pw) (_ : ls.length = ps.length) (i : Nat) (h : i < ls.length) (h' : i < ps.length), (lcells ls ps)[i * 2]? = some (.slice ps[i].1 ls[i].ws.length ps[i].2) ∧ (lcells ls ps)[i * 2 + 1]? = some (.int .i64 (ls[i].en : Int)) := by
  induction ls with
  | nil => intro ps _ i h; simp at h
  | cons l r ih =>
    intro ps hl i h h'
    cases ps with
    | nil => simp at h'
    | cons p ps =>
      rw [show lcells (l :: r) (p :: ps) = .slice p.1 l.ws.length p.2 :: .int .i64 (l.en : Int) :: lcells r ps from rfl]
      cases i with
      | zero => exact ⟨rfl, rfl⟩
      | succ i =>
        have := ih ps (by simpa using hl) i (by simpa using h) (by simpa using h')
        rw [show (i + 1) * 2 = i * 2 + 1 + 1 by omega]
        simpa using this
/-- Words in a row, as the reader has them. -/
theorem WRow.dw {V : World} {B r : Nat} {p : Pw} {ws : List Wd'} (h : WRow V B p ws) (hr : V.heap.size ≤ r) (hl : ws.length ≤ 100000) : DW V r p ws := by
  refine ⟨hl, fun j hj => ?_⟩
  unfold WRow at h
  rcases h.2 with ⟨_, h0⟩ | ⟨g, cap, cur, e, _⟩
  · omega
  · injection e with e _ _
    rw [e] at h
    obtain ⟨d0, d1⟩ := dcells_get ws j hj
    have k : ∀ q u, (dcells ws)[q]? = some u → V.cell? ⟨g, 0 + q, none⟩ = some u := fun q u hq => by have := h.cells (g := g) rfl q u hq; rw [add_at] at this; exact this
    have k0 := k _ _ d0
    have k1 := k _ _ d1
    rw [Nat.zero_add] at k0 k1
    have := (h.lt g rfl).2
    exact ⟨g, e, by omega, k0, k1⟩
/-- The lines that were cut, as the reader has them. -/
theorem DLs.dl {w V : World} {r : Nat} {la : Option Addr} {lc : Nat} {s : List UInt8} {ps : List Pw} (h : DLs w V (.slice la (linesS s 0 []).length lc) (linesS s 0 []) ps) (hr : V.heap.size ≤ r) (hs : s.length ≤ 65536) : DL V r la (linesS s 0 []) ps := by
  have hf := lines_fit s 0 []
  have hn := lines_len s 0 []
  have hne := lines_ne s 0 []
  generalize linesS s 0 [] = ls at *
  refine ⟨h.len, by omega, hne, fun l hl x hx => by have := (hf l hl).2 x hx; simp at this; omega, fun i hi hi' => ?_⟩
  rcases h.row.2 with ⟨_, h0⟩ | ⟨g, cap, cur, e, _⟩
  · omega
  · injection e with e _ _
    obtain ⟨g0, g1⟩ := lcells_at ls ps h.len.symm i hi hi'
    have hrow := h.row
    rw [e] at hrow
    have k : ∀ q u, (lcells ls ps)[q]? = some u → V.cell? ⟨g, 0 + q, none⟩ = some u := fun q u hq => by have := hrow.cells (g := g) rfl q u hq; rw [add_at] at this; exact this
    have k0 := k _ _ g0
    have k1 := k _ _ g1
    rw [Nat.zero_add] at k0 k1
    have hz := (hrow.lt g rfl).2
    have hw := h.ins i ps[i] ls[i] (List.getElem?_eq_getElem hi') (List.getElem?_eq_getElem hi)
    have hlw := (hf ls[i] (List.getElem_mem hi)).1
    simp only [List.length_nil] at hlw
    exact ⟨g, e, by omega, k0, k1, hw.dw hr (by omega)⟩
theorem DW.new {V V' : World} {r : Nat} {p : Pw} {ws : List Wd'} (h : DW V r p ws) (hr : r ≤ V.heap.size) (hb : Below V.heap.size V V') : DW V' r p ws := by
  refine ⟨h.len, fun j hj => ?_⟩
  obtain ⟨b, e, z, h1, h2⟩ := h.is j hj
  exact ⟨b, e, z, by rw [(bcell hb).1 _ _ (by omega)]; exact h1, by rw [(bcell hb).1 _ _ (by omega)]; exact h2⟩
theorem DL.new {V V' : World} {r : Nat} {la : Option Addr} {ls : List Ln} {ps : List Pw} (h : DL V r la ls ps) (hr : r ≤ V.heap.size) (hb : Below V.heap.size V V') : DL V' r la ls ps := by
  refine ⟨h.len, h.n, h.ne, h.sh, fun i hi hi' => ?_⟩
  obtain ⟨b, e, z, h1, h2, h3⟩ := h.is i hi hi'
  exact ⟨b, e, z, by rw [(bcell hb).1 _ _ (by omega)]; exact h1, by rw [(bcell hb).1 _ _ (by omega)]; exact h2, h3.new hr hb⟩
/-- A program under way: the boxes of the answers, the reader, the blocks. -/
structure Pz (w V : World) (r : Nat) (la : Option Addr) (lc m : Nat) (ls : List Ln) (ps : List Pw) (n : Nat) (fl : Option Wd') (v : Value) (acc : List Bk) (pls : List Pl) : Prop where
  d : Dr V r (.slice la ls.length lc) n m fl
  l : DL V r la ls ps
  r0 : At V w.heap.size #[.slice none 0 0]
  r1 : At V (w.heap.size + 1) #[.int .i64 0, .int .i64 0, .string ⟨#[]⟩]
  p : At V (r + 1) #[v]
  row : V.ownsRow (r + 2) 60 6 v acc.length (bcells acc pls)
  len : pls.length = acc.length
  ins : ∀ (i : Nat) p x, pls[i]? = some p → acc[i]? = some x → LRow V (r + 2) p.oa p.oc x.ops ∧ LRow V (r + 2) p.ba p.bc x.body
  b : Below w.heap.size w V
  h1 : w.heap.size + 1 < r
section
variable {w V V' : World} {r : Nat} {la : Option Addr} {lc m : Nat} {ls : List Ln} {ps : List Pw} {n n' : Nat} {fl fl' : Option Wd'} {v v' : Value} {acc : List Bk} {pls : List Pl}
theorem Pz.go (h : Pz w V r la lc m ls ps n fl v acc pls) (hd : Dr V' r (.slice la ls.length lc) n' m fl') (hf : Fr (One r) V V') : Pz w V' r la lc m ls ps n' fl' v acc pls :=
  have h1 := h.h1
  have hs := h.b.size
  have hd1 := h.d.lt
  ⟨hd, h.l.fr hf h.d.lt, at_fr h.r0 hf (by show ¬ _ = _; omega), at_fr h.r1 hf (by show ¬ _ = _; omega), at_fr h.p hf (by show ¬ _ = _; omega), row_old h.row hf (by omega), h.len, fun i p x hp hx => ⟨row_old (h.ins i p x hp hx).1 hf (by omega), row_old (h.ins i p x hp hx).2 hf (by omega)⟩, h.b.trans (hf.below (by omega) (fun k hk => by show ¬ _ = _; omega)), h1⟩
theorem Pz.up (h : Pz w V r la lc m ls ps n fl v acc pls) (hb : Below V.heap.size V V') : Pz w V' r la lc m ls ps n fl v acc pls := h.go (h.d.below hb) (Fr.of hb)
/-- A block is appended. -/
theorem Pz.put {x : Bk} {p : Pl} {ob : Obj} (h : Pz w V r la lc m ls ps n fl v acc pls) (ho : LRow V (r + 2) p.oa p.oc x.ops) (hy : LRow V (r + 2) p.ba p.bc x.body)
    (hown : V'.ownsRow (r + 2) 60 6 v' (acc.length + 1) (bcells acc pls ++ [.slice p.oa x.ops.length p.oc, .int .i8 x.fin, .int .u8 x.a, .slice p.ba x.body.length p.bc, .int .i64 x.thn, .int .i64 x.els])) (hg : (V.alloc ob).grownBy V' v.ownBlock) :
    At V' (r + 1) #[v] ∧ Pz w (V'.setCell ⟨r + 1, 0, none⟩ v') r la lc m ls ps n fl v' (acc ++ [x]) (pls ++ [p]) := by
  have h1 := h.h1
  have hs := h.b.size
  have hd1 := h.d.lt
  have hp1 := h.p.lt
  have hb : Below (r + 2) V V' := ((Below.refl _ _).alloc (by omega) _).grown hg (by simp; omega) fun b hb => (h.row.lt b hb).1
  have hp := h.p.below hb (by omega)
  have hF : Fr (fun k => r + 2 ≤ k) V V' := ⟨hb.os, hb.tape, hb.output, hb.size, fun k hk hx => hb.block k (by omega)⟩
  have hG : Fr (One (r + 1)) V' (V'.setCell ⟨r + 1, 0, none⟩ v') := (Fr.refl (One (r + 1)) V').setCell (.inr rfl) _ _
  have far : ∀ {a : Option Addr} {c : Nat} {xs : List O}, LRow V (r + 2) a c xs → LRow (V'.setCell ⟨r + 1, 0, none⟩ v') (r + 2) a c xs := fun hl => row_set (row_far (World.ownsRow.alloc hl ob) (h.row.alloc ob) (by decide) hg) (by omega) _
  have hd2 : Dr V' r (.slice la ls.length lc) n m fl := ⟨h.d.a.below hb (by omega)⟩
  have hl2 : DL V' r la ls ps := h.l.frX hF h.d.lt (fun q hq => by omega)
  refine ⟨hp, ⟨hd2.fr hG (by omega), hl2.frX hG hd2.lt (fun q hq => by show ¬ _ = _; omega), at_fr (h.r0.below hb (by omega)) hG (by show ¬ _ = _; omega), at_fr (h.r1.below hb (by omega)) hG (by show ¬ _ = _; omega), at_set hp (j := 0) (by simp) _, ?_, by simp [h.len], ?_, (h.b.trans (hb.mono (by omega))).trans ((hG.below (B := w.heap.size) (by have := hb.size; omega) (fun k hk => by show ¬ _ = _; omega))), h1⟩⟩
  · rw [bcells_snoc _ _ _ _ h.len.symm, List.length_append]
    exact row_set hown (by omega) _
  · intro i p' x' hp' hx'
    rcases Nat.lt_or_ge i acc.length with hlt | hge
    · rw [List.getElem?_append_left (by rw [h.len]; exact hlt)] at hp'
      rw [List.getElem?_append_left hlt] at hx'
      obtain ⟨i1, i2⟩ := h.ins i p' x' hp' hx'
      exact ⟨far i1, far i2⟩
    · have hi : i = acc.length := by
        rcases Nat.lt_or_ge acc.length i with h' | h'
        · rw [List.getElem?_eq_none (by simp; omega)] at hx'; cases hx'
        · omega
      subst hi
      rw [← h.len, List.getElem?_append_right (Nat.le_refl _)] at hp'
      rw [List.getElem?_append_right (Nat.le_refl _)] at hx'
      simp at hp' hx'
      subst hp' hx'
      exact ⟨far ho, far hy⟩
end
theorem Pz.start {w w1 : World} {la : Option Addr} {lc m : Nat} {s : List UInt8} {ps : List Pw} (h : DLs ((w.alloc (.cells #[.slice none 0 0] 24)).alloc (.cells #[.int .i64 0, .int .i64 0, .string ⟨#[]⟩] 31)) w1 (.slice la (linesS s 0 []).length lc) (linesS s 0 []) ps) (hs : s.length ≤ 65536) :
    Pz w ((w1.alloc (.cells #[.slice la (linesS s 0 []).length lc, .int .i64 0, .int .i64 (m : Int), .int .i64 0, .int .i64 0, .string ⟨#[]⟩] 56)).alloc (.cells #[.slice none 0 0] 24)) w1.heap.size la lc m (linesS s 0 []) ps 0 none (.slice none 0 0) [] [] := by
  obtain ⟨a1, a2, hb0, _, hz⟩ := two_new w _ _ 24 31 h.b
  have hlt := a2.lt
  have hB : Below w1.heap.size w1 ((w1.alloc (.cells #[.slice la (linesS s 0 []).length lc, .int .i64 0, .int .i64 (m : Int), .int .i64 0, .int .i64 0, .string ⟨#[]⟩] 56)).alloc (.cells #[.slice none 0 0] 24)) := ((Below.refl _ _).alloc (Nat.le_refl _) _).alloc (by simp) _
  have hl := (h.dl (Nat.le_refl _) hs).new (Nat.le_refl _) hB
  have hp := At.new (w1.alloc (.cells #[.slice la (linesS s 0 []).length lc, .int .i64 0, .int .i64 (m : Int), .int .i64 0, .int .i64 0, .string ⟨#[]⟩] 56)) #[.slice none 0 0] 24
  rw [World.size_alloc] at hp
  exact ⟨⟨(At.new w1 _ 56).alloc _⟩, hl, a1.below hB a1.lt, a2.below hB a2.lt, hp, World.ownsRow_nil _ _ _ _, rfl, fun i p x hp' => by simp at hp', hb0.trans (hB.mono hb0.size), by omega⟩
/-- What is left: nothing behind a fault. -/
def leftP (w : World) (r L : Nat) : Nat := match w.cell? ⟨r, 3, none⟩ with
  | some (.int _ 0) => L - (match w.cell? ⟨r, 1, none⟩ with | some (.int _ n) => n.toNat | _ => 0) + 1
  | _ => 0
theorem Dr.leftN {V : World} {r : Nat} {lv : Value} {nx m : Nat} (h : Dr V r lv nx m none) (L : Nat) : leftP V r L = L - nx + 1 := by
  have h1 := h.a.c 1 _ rfl
  have h3 := h.a.c 3 _ rfl
  unfold leftP
  rw [h3, h1]
  simp
theorem Dr.leftS {V : World} {r : Nat} {lv : Value} {nx m : Nat} {f : Wd'} (h : Dr V r lv nx m (some f)) (L : Nat) : leftP V r L = 0 := by
  have h3 : V.cell? ⟨r, 3, none⟩ = some (.int .i64 60) := h.a.c 3 _ rfl
  unfold leftP
  rw [h3]
  rfl
end Go.Proofs.YthfchelkfbboaaaGreatDoor.Pr
