/- The document's reader: what block answers: read off the program by the walk. Conditions: the reader and the lines lie in memory. -/
import Derived.Test.YthfchelkfbboaaaGreatDoorDw
import Derived.Deep.DeepCutAuto
namespace Go.Proofs.YthfchelkfbboaaaGreatDoor.Pr
open Go.ChangeShapes Go.WideShapes Go.ChangeAt Go.RowKit
open _root_.Go.Proofs.YthfchelkfbboaaaGreatDoor.Op
set_option maxRecDepth 20000

abbrev Z60 : Array Value := #[.slice none 0 0, .int .i8 0, .int .u8 0, .slice none 0 0, .int .i64 0, .int .i64 0]
/-- A block under way: the boxes of the answer and of the line. -/
structure Bq (w V : World) (r lb : Nat) (la : Option Addr) (lc m : Nat) (ls : List Ln) (ps : List Pw) (n : Nat) (fl : Option Wd') (lx : Array Value) : Prop where
  d : Dr V r (.slice la ls.length lc) n m fl
  l : DL V r la ls ps
  res : At V w.heap.size #[.slice none 0 0, .int .i8 0, .int .u8 0, .slice none 0 0, .int .i64 0, .int .i64 0]
  x : At V lb lx
  f : Fr (One r) w V
  h1 : r < w.heap.size
  h2 : w.heap.size < lb
/-- And the block itself, with its operations. -/
structure Dz (w V : World) (r lb bb : Nat) (la : Option Addr) (lc m : Nat) (ls : List Ln) (ps : List Pw) (n : Nat) (fl : Option Wd') (lx cs : Array Value) (oa : Option Addr) (oc : Nat) (os : List O) : Prop where
  q : Bq w V r lb la lc m ls ps n fl lx
  b : At V bb cs
  row : V.ownsRow (w.heap.size + 1) 67 5 (.slice oa os.length oc) os.length (ocells os)
  h3 : lb < bb
  h4 : ∀ g, (Value.slice oa os.length oc).ownBlock = some g → g ≠ bb
section
variable {w V V' : World} {r lb bb : Nat} {la : Option Addr} {lc m : Nat} {ls : List Ln} {ps : List Pw} {n n' : Nat} {fl fl' : Option Wd'} {lx cs : Array Value} {oa : Option Addr} {oc : Nat} {os : List O}
theorem Bq.go (h : Bq w V r lb la lc m ls ps n fl lx) (hd : Dr V' r (.slice la ls.length lc) n' m fl') (hf : Fr (One r) V V') : Bq w V' r lb la lc m ls ps n' fl' lx :=
  have h1 := h.h1
  have h2 := h.h2
  ⟨hd, h.l.fr hf h.d.lt, at_fr h.res hf (by show ¬ _ = _; omega), at_fr h.x hf (by show ¬ _ = _; omega), h.f.same hf, h1, h2⟩
theorem Bq.up (h : Bq w V r lb la lc m ls ps n fl lx) (hb : Below V.heap.size V V') : Bq w V' r lb la lc m ls ps n fl lx := h.go (h.d.below hb) (Fr.of hb)
/-- Another line in the box. -/
theorem Bq.line (h : Bq w V r lb la lc m ls ps n fl #[.slice none 0 0, .int .i64 0]) (u0 u1 : Value) : Bq w ((V.setCell ⟨lb, 0, none⟩ u0).setCell ⟨lb, 1, none⟩ u1) r lb la lc m ls ps n fl #[u0, u1] :=
  have h1 := h.h1
  have h2 := h.h2
  have hg : Fr (One lb) V ((V.setCell ⟨lb, 0, none⟩ u0).setCell ⟨lb, 1, none⟩ u1) := ((Fr.refl (One lb) V).setCell (.inr rfl) _ _).setCell (.inr rfl) _ _
  ⟨h.d.fr hg (by omega), h.l.frX hg h.d.lt (fun q hq => by show ¬ _ = _; omega), at_fr h.res hg (by show ¬ _ = _; omega), at_set (at_set h.x (j := 0) (by simp) u0) (j := 1) (by simp) u1, h.f.new hg (by omega), h1, h2⟩
theorem Dz.go (h : Dz w V r lb bb la lc m ls ps n fl lx cs oa oc os) (hd : Dr V' r (.slice la ls.length lc) n' m fl') (hf : Fr (One r) V V') : Dz w V' r lb bb la lc m ls ps n' fl' lx cs oa oc os :=
  have h1 := h.q.h1
  have h2 := h.q.h2
  have h3 := h.h3
  ⟨h.q.go hd hf, at_fr h.b hf (by show ¬ _ = _; omega), row_old h.row hf (by omega), h3, h.h4⟩
theorem Dz.up (h : Dz w V r lb bb la lc m ls ps n fl lx cs oa oc os) (hb : Below V.heap.size V V') : Dz w V' r lb bb la lc m ls ps n fl lx cs oa oc os := h.go (h.q.d.below hb) (Fr.of hb)
theorem Dz.set (h : Dz w V r lb bb la lc m ls ps n fl lx cs oa oc os) (j : Nat) (hj : j < cs.size) (v : Value) : Dz w (V.setCell ⟨bb, j, none⟩ v) r lb bb la lc m ls ps n fl lx (cs.setIfInBounds j v) oa oc os :=
  have h1 := h.q.h1
  have h2 := h.q.h2
  have h3 := h.h3
  have hg : Fr (One bb) V (V.setCell ⟨bb, j, none⟩ v) := (Fr.refl (One bb) V).setCell (.inr rfl) _ _
  ⟨⟨h.q.d.fr hg (by omega), h.q.l.frX hg h.q.d.lt (fun q hq => by show ¬ _ = _; omega), at_fr h.q.res hg (by show ¬ _ = _; omega), at_fr h.q.x hg (by show ¬ _ = _; omega), h.q.f.new hg (by omega), h1, h2⟩, at_set h.b hj v, row_fr h.row hg (fun g hg' e => h.h4 g hg' e), h3, h.h4⟩
theorem Dz.line {a0 a1 : Value} (h : Dz w V r lb bb la lc m ls ps n fl #[a0, a1] cs oa oc os) (u0 u1 : Value) (hlb : ∀ g, (Value.slice oa os.length oc).ownBlock = some g → g ≠ lb) : Dz w ((V.setCell ⟨lb, 0, none⟩ u0).setCell ⟨lb, 1, none⟩ u1) r lb bb la lc m ls ps n fl #[u0, u1] cs oa oc os :=
  have h1 := h.q.h1
  have h2 := h.q.h2
  have h3 := h.h3
  have hg : Fr (One lb) V ((V.setCell ⟨lb, 0, none⟩ u0).setCell ⟨lb, 1, none⟩ u1) := ((Fr.refl (One lb) V).setCell (.inr rfl) _ _).setCell (.inr rfl) _ _
  ⟨⟨h.q.d.fr hg (by omega), h.q.l.frX hg h.q.d.lt (fun q hq => by show ¬ _ = _; omega), at_fr h.q.res hg (by show ¬ _ = _; omega), at_set (at_set h.q.x (j := 0) (by simp) u0) (j := 1) (by simp) u1, h.q.f.new hg (by omega), h1, h2⟩, at_fr h.b hg (by show ¬ _ = _; omega), row_fr h.row hg (fun g hg' e => hlb g hg' e), h3, h.h4⟩
/-- The block is laid behind its operations. -/
theorem Bq.ops {F : Option Wd'} (h : Bq w V r lb la lc m ls ps n F lx) (hd : Ds V V' r la lc m ls ps n' fl' (.slice oa os.length oc) os) : Dz w (V'.alloc (.cells #[.slice oa os.length oc, .int .i8 0, .int .u8 0, .slice none 0 0, .int .i64 0, .int .i64 0] 60)) r lb V'.heap.size la lc m ls ps n' fl' lx #[.slice oa os.length oc, .int .i8 0, .int .u8 0, .slice none 0 0, .int .i64 0, .int .i64 0] oa oc os ∧ ∀ g, (Value.slice oa os.length oc).ownBlock = some g → g ≠ lb := by
  have hx := h.x.lt
  have h2 := h.h2
  have hz := hd.f.size
  have g := h.go hd.d hd.f
  have hr := hd.row
  refine ⟨⟨g.up ((Below.refl _ _).alloc (Nat.le_refl _) _), At.new _ _ _, row_below (row_le hr (by omega)) ((Below.refl _ _).alloc (Nat.le_refl _) _), by omega, fun q hq e => ?_⟩, fun q hq e => ?_⟩
  · have := (hr.lt q hq).2; omega
  · have := (hr.lt q hq).1; omega
end
/-- What block leaves. -/
def DbPost (w : World) (r : Nat) (la : Option Addr) (lc m : Nat) (ls : List Ln) (ps : List Pw) (RES : R (Bk × Nat)) (e : Ending) (w' : World) : Prop :=
  ∃ (b : Bk) (pl : Pl) (n : Nat), e = .returned (b.val pl) ∧ Dr w' r (.slice la ls.length lc) n m (stF RES) ∧ DL w' r la ls ps ∧ LRow w' w.heap.size pl.oa pl.oc b.ops ∧ LRow w' w.heap.size pl.ba pl.bc b.body ∧ Fr (One r) w w' ∧ ∀ z, RES = .ok z → z = (b, n)

theorem six_at {V : World} {q : Nat} {a0 a1 a2 a3 a4 a5 : Value} (h : At V q #[a0, a1, a2, a3, a4, a5]) (c0 c1 c2 c3 c4 c5 : Value) : At ((((((V.setCell ⟨q, 0, none⟩ c0).setCell ⟨q, 1, none⟩ c1).setCell ⟨q, 2, none⟩ c2).setCell ⟨q, 3, none⟩ c3).setCell ⟨q, 4, none⟩ c4).setCell ⟨q, 5, none⟩ c5) q #[c0, c1, c2, c3, c4, c5] :=
  at_set (at_set (at_set (at_set (at_set (at_set h (j := 0) (by simp) c0) (j := 1) (by simp) c1) (j := 2) (by simp) c2) (j := 3) (by simp) c3) (j := 4) (by simp) c4) (j := 5) (by simp) c5
theorem Dz.done {w V : World} {r lb bb : Nat} {la : Option Addr} {lc m : Nat} {ls : List Ln} {ps : List Pw} {n : Nat} {fl : Option Wd'} {lx cs : Array Value} {oa : Option Addr} {oc : Nat} {os : List O} {fi a t el : Int} {ba : Option Addr} {bc : Nat} {bd : List O} {RES : R (Bk × Nat)} (h : Dz w V r lb bb la lc m ls ps n fl lx cs oa oc os) (hbd : V.ownsRow (w.heap.size + 1) 67 5 (.slice ba bd.length bc) bd.length (ocells bd)) (hB : Bh RES fl (.ok (⟨os, fi, a, bd, t, el⟩, n))) :
    DbPost w r la lc m ls ps RES (.returned (.agg #[.slice oa os.length oc, .int .i8 fi, .int .u8 a, .slice ba bd.length bc, .int .i64 t, .int .i64 el])) ((((((V.setCell ⟨w.heap.size, 0, none⟩ (.slice oa os.length oc)).setCell ⟨w.heap.size, 1, none⟩ (.int .i8 fi)).setCell ⟨w.heap.size, 2, none⟩ (.int .u8 a)).setCell ⟨w.heap.size, 3, none⟩ (.slice ba bd.length bc)).setCell ⟨w.heap.size, 4, none⟩ (.int .i64 t)).setCell ⟨w.heap.size, 5, none⟩ (.int .i64 el)) := by
  obtain ⟨h1, h2⟩ := hB.done
  have k1 := h.q.h1
  have hg : Fr (One w.heap.size) V ((((((V.setCell ⟨w.heap.size, 0, none⟩ (.slice oa os.length oc)).setCell ⟨w.heap.size, 1, none⟩ (.int .i8 fi)).setCell ⟨w.heap.size, 2, none⟩ (.int .u8 a)).setCell ⟨w.heap.size, 3, none⟩ (.slice ba bd.length bc)).setCell ⟨w.heap.size, 4, none⟩ (.int .i64 t)).setCell ⟨w.heap.size, 5, none⟩ (.int .i64 el)) := ((((((Fr.refl (One w.heap.size) V).setCell (.inr rfl) _ _).setCell (.inr rfl) _ _).setCell (.inr rfl) _ _).setCell (.inr rfl) _ _).setCell (.inr rfl) _ _).setCell (.inr rfl) _ _
  generalize ((((((V.setCell ⟨w.heap.size, 0, none⟩ (.slice oa os.length oc)).setCell ⟨w.heap.size, 1, none⟩ (.int .i8 fi)).setCell ⟨w.heap.size, 2, none⟩ (.int .u8 a)).setCell ⟨w.heap.size, 3, none⟩ (.slice ba bd.length bc)).setCell ⟨w.heap.size, 4, none⟩ (.int .i64 t)).setCell ⟨w.heap.size, 5, none⟩ (.int .i64 el)) = W at *
  refine ⟨⟨os, fi, a, bd, t, el⟩, ⟨oa, oc, ba, bc⟩, n, rfl, by rw [h1]; exact h.q.d.fr hg (by omega), h.q.l.frX hg h.q.d.lt (fun q hq => by show ¬ _ = _; omega), ?_, ?_, h.q.f.new hg (Nat.le_refl _), h2⟩
  · exact row_le (row_fr h.row hg (fun g hg' e => by have := (h.row.lt g hg').1; have e : g = w.heap.size := e; omega)) (Nat.le_succ _)
  · exact row_le (row_fr hbd hg (fun g hg' e => by have := (hbd.lt g hg').1; have e : g = w.heap.size := e; omega)) (Nat.le_succ _)
theorem DL.look {V : World} {r : Nat} {la : Option Addr} {ls : List Ln} {ps : List Pw} (h : DL V r la ls ps) {n : Nat} (hn : n < ls.length) : ∃ (l : Ln) (pc g b : Nat) (x : Wd') (t : List Wd'), ls[n]? = some l ∧ ps[n]? = some (some ⟨b, 0, none⟩, pc) ∧ la = some ⟨g, 0, none⟩ ∧ g < r ∧ b < r ∧ l.ws = x :: t ∧ V.cell? ⟨g, n * 2, none⟩ = some (.slice (some ⟨b, 0, none⟩) l.ws.length pc) ∧ V.cell? ⟨g, n * 2 + 1, none⟩ = some (.int .i64 (l.en : Int)) ∧ V.cell? ⟨b, 0, none⟩ = some (.string ⟨x.2.toArray⟩) ∧ V.cell? ⟨b, 1, none⟩ = some (.int .i64 (x.1 : Int)) ∧ 0 < l.ws.length := by
  have hn' : n < ps.length := by rw [h.len]; exact hn
  obtain ⟨g, hla, hg, k0, k1, hw⟩ := h.is n hn hn'
  have hne := h.ne ls[n] (List.getElem_mem hn)
  cases hws : ls[n].ws with
  | nil => exact absurd hws hne
  | cons x t =>
    have hpos : 0 < ls[n].ws.length := by rw [hws]; simp
    obtain ⟨b, hpb, hb, w0, w1⟩ := hw.is 0 hpos
    have hx0 : ls[n].ws[0] = x := by simp [hws]
    rw [hx0] at w0 w1
    refine ⟨ls[n], ps[n].2, g, b, x, t, List.getElem?_eq_getElem hn, ?_, hla, hg, hb, hws, by rw [← hpb]; exact k0, k1, w0, w1, hpos⟩
    rw [List.getElem?_eq_getElem hn', ← hpb]
theorem DL.word0 {V : World} {r : Nat} {la : Option Addr} {ls : List Ln} {ps : List Pw} {n b pc : Nat} {l : Ln} {x : Wd'} {t : List Wd'} (h : DL V r la ls ps) (hi : ls[n]? = some l) (hp : ps[n]? = some (some ⟨b, 0, none⟩, pc)) (hw : l.ws = x :: t) : V.cell? ⟨b, 0, none⟩ = some (.string ⟨x.2.toArray⟩) ∧ V.cell? ⟨b, 1, none⟩ = some (.int .i64 (x.1 : Int)) := by
  have hd := h.dw hi hp
  have hpos : 0 < l.ws.length := by rw [hw]; simp
  obtain ⟨b', e, _, w0, w1⟩ := hd.is 0 hpos
  have hx0 : l.ws[0] = x := by simp [hw]
  rw [hx0] at w0 w1
  have e : some (⟨b, 0, none⟩ : Addr) = some ⟨b', 0, none⟩ := e
  injection e with e
  injection e with e _ _
  subst e
  exact ⟨w0, w1⟩
theorem Dz.next {w V : World} {r lb bb : Nat} {la : Option Addr} {lc m : Nat} {ls : List Ln} {ps : List Pw} {n : Nat} {lx cs : Array Value} {oa : Option Addr} {oc : Nat} {os : List O} (h : Dz w V r lb bb la lc m ls ps n none lx cs oa oc os) : Dz w (V.setCell ⟨r, 1, none⟩ (.int .i64 ((n : Int) + 1))).drew r lb bb la lc m ls ps (n + 1) none lx cs oa oc os :=
  Dz.up (h.go ⟨at_set h.q.d.a (j := 1) (by simp) (.int .i64 ((n : Int) + 1))⟩ ((Fr.refl (One r) V).setCell (.inr rfl) _ _)) (Below.refl _ _).drew
theorem Dz.loop {w V V' : World} {r lb bb : Nat} {la : Option Addr} {lc m : Nat} {ls : List Ln} {ps : List Pw} {n n' : Nat} {fl fl' : Option Wd'} {lx cs cs' : Array Value} {oa : Option Addr} {oc : Nat} {os : List O} (h : Dz w V r lb bb la lc m ls ps n fl lx cs oa oc os) (hd : Dr V' r (.slice la ls.length lc) n' m fl') (hl : DL V' r la ls ps) (hb : At V' bb cs') (hf : Fr (Two r bb) V V') : Dz w V' r lb bb la lc m ls ps n' fl' lx cs' oa oc os :=
  have h1 := h.q.h1
  have h2 := h.q.h2
  have h3 := h.h3
  ⟨⟨hd, hl, at_fr h.q.res hf (by show ¬ (_ = _ ∨ _ = _); omega), at_fr h.q.x hf (by show ¬ (_ = _ ∨ _ = _); omega), h.q.f.trans hf (fun k hk hy => by rcases hy with hy | hy; exact hy; omega), h1, h2⟩, hb, row_fr h.row hf (fun g hg hy => by
    have := (h.row.lt g hg).1
    rcases hy with hy | hy
    · omega
    · exact h.h4 g hg hy), h3, h.h4⟩
theorem dhave_dead (r : Nat) (la : Option Addr) (L lc nx m : Nat) (f : Wd') (w : World) (h : Dr w r (.slice la L lc) nx m (some f)) :
    Calls Tryz.prog 14 #[.pointer (some ⟨r, 0, none⟩)] w fun e w' => e = .returned (.bool false) ∧ Dr w' r (.slice la L lc) nx m (some f) ∧ Fr (One r) w w' := dhave_any r la L lc nx m (some f) w h
theorem dhave_no (r : Nat) (la : Option Addr) (L lc nx m : Nat) (w : World) (h : Dr w r (.slice la L lc) nx m none) (hn : ¬ nx < L) :
    Calls Tryz.prog 14 #[.pointer (some ⟨r, 0, none⟩)] w fun e w' => e = .returned (.bool false) ∧ Dr w' r (.slice la L lc) nx m (some (m, [])) ∧ Fr (One r) w w' := by
  have := dhave_any r la L lc nx m none w h
  rw [show guardR none (haveR L nx m) = .no (m, []) by simp only [guardR, haveR]; rw [if_neg hn]] at this
  exact this
theorem dhave_yes (r : Nat) (la : Option Addr) (L lc nx m : Nat) (w : World) (h : Dr w r (.slice la L lc) nx m none) (hn : nx < L) :
    Calls Tryz.prog 14 #[.pointer (some ⟨r, 0, none⟩)] w fun e w' => e = .returned (.bool true) ∧ Dr w' r (.slice la L lc) nx m none ∧ Fr (One r) w w' := by
  have := dhave_any r la L lc nx m none w h
  rw [show guardR none (haveR L nx m) = .ok () by simp only [guardR, haveR]; rw [if_pos hn]] at this
  exact this
theorem row_none (w : World) (B : Nat) : w.ownsRow B 67 5 (.slice none ([] : List O).length 0) ([] : List O).length (ocells []) := World.ownsRow_nil _ _ _ _
set_option maxHeartbeats 4000000 in
theorem dblock_d1 (r k : Nat) (la : Option Addr) (ls : List Ln) (ps : List Pw) (lc nx m : Nat) (fl : Option Wd') (RES : R (Bk × Nat)) (w : World) (h : Dr w r (.slice la ls.length lc) nx m fl) (hl : DL w r la ls ps) (hn : nx ≤ ls.length) (_hk : k ≤ 65537)
    (f : Wd') (h1 : guardR fl (lnR [98, 108, 111, 99, 107] ls nx m) = .no f) (hres : RES = .no f) : Calls Tryz.prog 15 #[.pointer (some ⟨r, 0, none⟩), .int .i64 k] w (DbPost w r la lc m ls ps RES) := by
  have hr := h.lt
  have hB0 : Below w.heap.size w (w.alloc (.cells #[.slice none 0 0, .int .i8 0, .int .u8 0, .slice none 0 0, .int .i64 0, .int .i64 0] 60)) := (Below.refl _ _).alloc (Nat.le_refl _) _
  have HD0 : Hid (Dr (w.alloc (.cells #[.slice none 0 0, .int .i8 0, .int .u8 0, .slice none 0 0, .int .i64 0, .int .i64 0] 60)) r (.slice la ls.length lc) nx m fl ∧ DL (w.alloc (.cells #[.slice none 0 0, .int .i8 0, .int .u8 0, .slice none 0 0, .int .i64 0, .int .i64 0] 60)) r la ls ps ∧ At (w.alloc (.cells #[.slice none 0 0, .int .i8 0, .int .u8 0, .slice none 0 0, .int .i64 0, .int .i64 0] 60)) w.heap.size #[.slice none 0 0, .int .i8 0, .int .u8 0, .slice none 0 0, .int .i64 0, .int .i64 0] ∧ Fr (One r) w (w.alloc (.cells #[.slice none 0 0, .int .i8 0, .int .u8 0, .slice none 0 0, .int .i64 0, .int .i64 0] 60))) := ⟨h.below hB0, hl.fr (Fr.of hB0) h.lt, At.new _ _ _, Fr.of hB0⟩
  have H1 : Hid _ := h1
  have HR : Hid _ := hres
  have HN : Hid _ := hn
  clear h hl hn hB0 hres h1
  go_enter Tryz.func15, Tryz.ntmps15
  go_wp2_with (first
    | (go_at_call 27; refine Calls.mono (dline_any r [98, 108, 111, 99, 107] la ls ps lc nx m fl _ HD0.out.1 HD0.out.2.1) ?_; rw [H1.out]; rintro e u0 ⟨rfl, hd, hf⟩; have HS1 : Hid (Bq w (u0.alloc (.cells #[.slice none 0 0, .int .i64 0] 45)) r u0.heap.size la lc m ls ps nx (some f) #[.slice none 0 0, .int .i64 0]) := ⟨hd.below ((Below.refl _ _).alloc (Nat.le_refl _) _), (HD0.out.2.1.fr hf HD0.out.1.lt).fr (Fr.of ((Below.refl _ _).alloc (Nat.le_refl _) _)) hd.lt, (at_fr HD0.out.2.2.1 hf (by show ¬ _ = _; omega)).alloc _, At.new _ _ _, (HD0.out.2.2.2.same hf).alloc _, hr, (by have h9 := hf.size; simp at h9; omega)⟩; clear hd hf HD0)
    | (go_at_call 31; refine Calls.mono (dops_any r la ls ps lc nx m (some f) _ HS1.out.d HS1.out.l HN.out) ?_; rintro e u4 ⟨v, os, n, rfl, hds, hn4, hv4⟩; obtain ⟨oa, oc, rfl⟩ := row_slice hds.row; have HZ0 : Hid ((Dz w (u4.alloc (.cells #[.slice oa os.length oc, .int .i8 0, .int .u8 0, .slice none 0 0, .int .i64 0, .int .i64 0] 60)) r u0.heap.size u4.heap.size la lc m ls ps n (some f) #[.slice none 0 0, .int .i64 0] #[.slice oa os.length oc, .int .i8 0, .int .u8 0, .slice none 0 0, .int .i64 0, .int .i64 0] oa oc os) ∧ _) := HS1.out.ops hds; have HN4 : Hid _ := hn4; clear hds hn4 hv4 HS1)
    | (go_at_call 14; refine Calls.mono (dhave_dead r la ls.length lc n m f _ HZ0.out.1.q.d) ?_; rintro e u5 ⟨rfl, hd, hf⟩; have HZ1 : Hid (Dz w (u5) r u0.heap.size u4.heap.size la lc m ls ps n (some f) #[.slice none 0 0, .int .i64 0] #[.slice oa os.length oc, .int .i8 0, .int .u8 0, .slice none 0 0, .int .i64 0, .int .i64 0] oa oc os) := HZ0.out.1.go hd hf; clear hd hf HZ0; have x0 := HZ1.out.b.c 0 _ rfl; have x1 := HZ1.out.b.c 1 _ rfl; have x2 := HZ1.out.b.c 2 _ rfl; have x3 := HZ1.out.b.c 3 _ rfl; have x4 := HZ1.out.b.c 4 _ rfl; have x5 := HZ1.out.b.c 5 _ rfl; have y0 := HZ1.out.q.res.c 0 _ rfl; have y1 := HZ1.out.q.res.c 1 _ rfl; have y2 := HZ1.out.q.res.c 2 _ rfl; have y3 := HZ1.out.q.res.c 3 _ rfl; have y4 := HZ1.out.q.res.c 4 _ rfl; have y5 := HZ1.out.q.res.c 5 _ rfl; have yf := HZ1.out.q.res.f))
  have hx := HZ1.out
  have kk := six_at hx.q.res (.slice oa os.length oc) (.int .i8 0) (.int .u8 0) (.slice none 0 0) (.int .i64 0) (.int .i64 0)
  have g0 : ((((((u5.setCell ⟨w.heap.size, 0, none⟩ (.slice oa os.length oc)).setCell ⟨w.heap.size, 1, none⟩ (.int .i8 0)).setCell ⟨w.heap.size, 2, none⟩ (.int .u8 0)).setCell ⟨w.heap.size, 3, none⟩ (.slice none 0 0)).setCell ⟨w.heap.size, 4, none⟩ (.int .i64 0)).setCell ⟨w.heap.size, 5, none⟩ (.int .i64 0)).cell? ⟨w.heap.size, 0, none⟩ = some (.slice oa os.length oc) := kk.c 0 _ rfl
  have g1 : ((((((u5.setCell ⟨w.heap.size, 0, none⟩ (.slice oa os.length oc)).setCell ⟨w.heap.size, 1, none⟩ (.int .i8 0)).setCell ⟨w.heap.size, 2, none⟩ (.int .u8 0)).setCell ⟨w.heap.size, 3, none⟩ (.slice none 0 0)).setCell ⟨w.heap.size, 4, none⟩ (.int .i64 0)).setCell ⟨w.heap.size, 5, none⟩ (.int .i64 0)).cell? ⟨w.heap.size, 1, none⟩ = some (.int .i8 0) := kk.c 1 _ rfl
  have g2 : ((((((u5.setCell ⟨w.heap.size, 0, none⟩ (.slice oa os.length oc)).setCell ⟨w.heap.size, 1, none⟩ (.int .i8 0)).setCell ⟨w.heap.size, 2, none⟩ (.int .u8 0)).setCell ⟨w.heap.size, 3, none⟩ (.slice none 0 0)).setCell ⟨w.heap.size, 4, none⟩ (.int .i64 0)).setCell ⟨w.heap.size, 5, none⟩ (.int .i64 0)).cell? ⟨w.heap.size, 2, none⟩ = some (.int .u8 0) := kk.c 2 _ rfl
  have g3 : ((((((u5.setCell ⟨w.heap.size, 0, none⟩ (.slice oa os.length oc)).setCell ⟨w.heap.size, 1, none⟩ (.int .i8 0)).setCell ⟨w.heap.size, 2, none⟩ (.int .u8 0)).setCell ⟨w.heap.size, 3, none⟩ (.slice none 0 0)).setCell ⟨w.heap.size, 4, none⟩ (.int .i64 0)).setCell ⟨w.heap.size, 5, none⟩ (.int .i64 0)).cell? ⟨w.heap.size, 3, none⟩ = some (.slice none 0 0) := kk.c 3 _ rfl
  have g4 : ((((((u5.setCell ⟨w.heap.size, 0, none⟩ (.slice oa os.length oc)).setCell ⟨w.heap.size, 1, none⟩ (.int .i8 0)).setCell ⟨w.heap.size, 2, none⟩ (.int .u8 0)).setCell ⟨w.heap.size, 3, none⟩ (.slice none 0 0)).setCell ⟨w.heap.size, 4, none⟩ (.int .i64 0)).setCell ⟨w.heap.size, 5, none⟩ (.int .i64 0)).cell? ⟨w.heap.size, 4, none⟩ = some (.int .i64 0) := kk.c 4 _ rfl
  have g5 : ((((((u5.setCell ⟨w.heap.size, 0, none⟩ (.slice oa os.length oc)).setCell ⟨w.heap.size, 1, none⟩ (.int .i8 0)).setCell ⟨w.heap.size, 2, none⟩ (.int .u8 0)).setCell ⟨w.heap.size, 3, none⟩ (.slice none 0 0)).setCell ⟨w.heap.size, 4, none⟩ (.int .i64 0)).setCell ⟨w.heap.size, 5, none⟩ (.int .i64 0)).cell? ⟨w.heap.size, 5, none⟩ = some (.int .i64 0) := kk.c 5 _ rfl
  refine bodyPost_ret (v := .agg #[.slice oa os.length oc, .int .i8 0, .int .u8 0, .slice none 0 0, .int .i64 0, .int .i64 0]) (by simp [results, Tryz.results15, go_sem, g0, g1, g2, g3, g4, g5]) rfl (hx.done (row_none _ _) HR.out)
set_option maxHeartbeats 4000000 in
theorem dblock_d2 (r k : Nat) (la : Option Addr) (ls : List Ln) (ps : List Pw) (lc nx m : Nat) (fl : Option Wd') (RES : R (Bk × Nat)) (w : World) (h : Dr w r (.slice la ls.length lc) nx m fl) (hl : DL w r la ls ps) (hn : nx ≤ ls.length) (_hk : k ≤ 65537)
    (l : Ln) (h1 : guardR fl (lnR [98, 108, 111, 99, 107] ls nx m) = .ok l) (f : Wd') (h2 : wordR l 1 = .no f) (hres : RES = .no f) : Calls Tryz.prog 15 #[.pointer (some ⟨r, 0, none⟩), .int .i64 k] w (DbPost w r la lc m ls ps RES) := by
  have hr := h.lt
  have hB0 : Below w.heap.size w (w.alloc (.cells #[.slice none 0 0, .int .i8 0, .int .u8 0, .slice none 0 0, .int .i64 0, .int .i64 0] 60)) := (Below.refl _ _).alloc (Nat.le_refl _) _
  have HD0 : Hid (Dr (w.alloc (.cells #[.slice none 0 0, .int .i8 0, .int .u8 0, .slice none 0 0, .int .i64 0, .int .i64 0] 60)) r (.slice la ls.length lc) nx m fl ∧ DL (w.alloc (.cells #[.slice none 0 0, .int .i8 0, .int .u8 0, .slice none 0 0, .int .i64 0, .int .i64 0] 60)) r la ls ps ∧ At (w.alloc (.cells #[.slice none 0 0, .int .i8 0, .int .u8 0, .slice none 0 0, .int .i64 0, .int .i64 0] 60)) w.heap.size #[.slice none 0 0, .int .i8 0, .int .u8 0, .slice none 0 0, .int .i64 0, .int .i64 0] ∧ Fr (One r) w (w.alloc (.cells #[.slice none 0 0, .int .i8 0, .int .u8 0, .slice none 0 0, .int .i64 0, .int .i64 0] 60))) := ⟨h.below hB0, hl.fr (Fr.of hB0) h.lt, At.new _ _ _, Fr.of hB0⟩
  have H1 : Hid _ := h1
  have H2 : Hid _ := h2
  have HR : Hid _ := hres
  have HN : Hid _ := hn
  have HI : Hid (ls[nx]? = some l) := (ln_some (by cases fl with | some f => cases h1 | none => exact h1)).1
  have HN1 : Hid (nx + 1 ≤ ls.length) := (List.getElem?_eq_some_iff.1 HI.out).1
  clear h hl hn hB0 hres h1 h2
  go_enter Tryz.func15, Tryz.ntmps15
  go_wp2_with (first
    | (go_at_call 27; refine Calls.mono (dline_any r [98, 108, 111, 99, 107] la ls ps lc nx m fl _ HD0.out.1 HD0.out.2.1) ?_; rw [H1.out]; rintro e u0 ⟨p, hp, hi, rfl, hd, hf⟩; have HS1 : Hid (Bq w (u0.alloc (.cells #[.slice p.1 l.ws.length p.2, .int .i64 (l.en : Int)] 45)) r u0.heap.size la lc m ls ps (nx + 1) (none) #[.slice p.1 l.ws.length p.2, .int .i64 (l.en : Int)]) := ⟨hd.below ((Below.refl _ _).alloc (Nat.le_refl _) _), (HD0.out.2.1.fr hf HD0.out.1.lt).fr (Fr.of ((Below.refl _ _).alloc (Nat.le_refl _) _)) hd.lt, (at_fr HD0.out.2.2.1 hf (by show ¬ _ = _; omega)).alloc _, At.new _ _ _, (HD0.out.2.2.2.same hf).alloc _, hr, (by have h9 := hf.size; simp at h9; omega)⟩; have HP : Hid _ := hp; have q0 := HS1.out.x.c 0 _ rfl; have q1 := HS1.out.x.c 1 _ rfl; clear hd hf HD0 hp hi)
    | (go_at_call 28; refine Calls.mono (dword_any r 1 p l _ (nx + 1) m none _ HS1.out.d (HS1.out.l.dw HI.out HP.out)) ?_; rw [show guardR none (wordR l 1) = .no f from H2.out]; rintro e u1 ⟨rfl, hd, hf⟩; have HS2 : Hid (Bq w (u1.alloc (.cells #[.string ⟨#[]⟩, .int .i64 0] 47)) r u0.heap.size la lc m ls ps (nx + 1) (some f) #[.slice p.1 l.ws.length p.2, .int .i64 (l.en : Int)]) := (HS1.out.go hd hf).up ((Below.refl _ _).alloc (Nat.le_refl _) _); clear hd hf HS1 q0 q1; have q2 := HS2.out.x.c 0 _ rfl; have q3 := HS2.out.x.c 1 _ rfl; simp only [wordV, isOk]))
  go_quiet (fail)
  have HS3 : Hid (Bq w ((u1.alloc (.cells #[.string ⟨#[]⟩, .int .i64 0] 47)).drewN nq) r u0.heap.size la lc m ls ps (nx + 1) (some f) #[.slice p.1 l.ws.length p.2, .int .i64 (l.en : Int)]) := HS2.out.up (drewN_below (Below.refl _ _) nq)
  have HTb : Hid (At ((u1.alloc (.cells #[.string ⟨#[]⟩, .int .i64 0] 47)).drewN nq) u1.heap.size #[.string ⟨#[]⟩, .int .i64 0]) := (At.new u1 #[.string ⟨#[]⟩, .int .i64 0] 47).below (drewN_below (Below.refl _ _) nq) (At.new u1 #[.string ⟨#[]⟩, .int .i64 0] 47).lt
  clear HS2 q2 q3
  generalize (u1.alloc (.cells #[.string ⟨#[]⟩, .int .i64 0] 47)).drewN nq = U at *
  have q4 := HS3.out.x.c 0 _ rfl
  have q5 := HS3.out.x.c 1 _ rfl
  have t0 := HTb.out.c 0 _ rfl
  have t1 := HTb.out.c 1 _ rfl
  have tl := HTb.out.lt
  go_wp2_with (first
    | (go_at_call 30; refine Calls.mono (dend_any r 2 p l _ (nx + 1) m (some f) _ HS3.out.d (HS3.out.l.dw HI.out HP.out)) ?_; rintro e u3 ⟨rfl, hd, hf⟩; have HS5 : Hid (Bq w (u3) r u0.heap.size la lc m ls ps (nx + 1) (some f) #[.slice p.1 l.ws.length p.2, .int .i64 (l.en : Int)]) := HS3.out.go hd hf; clear hd hf HS3 q4 q5)
    | (go_at_call 31; refine Calls.mono (dops_any r la ls ps lc (nx + 1) m (some f) _ HS5.out.d HS5.out.l HN1.out) ?_; rintro e u4 ⟨v, os, n, rfl, hds, hn4, hv4⟩; obtain ⟨oa, oc, rfl⟩ := row_slice hds.row; have HZ0 : Hid ((Dz w (u4.alloc (.cells #[.slice oa os.length oc, .int .i8 0, .int .u8 0, .slice none 0 0, .int .i64 0, .int .i64 0] 60)) r u0.heap.size u4.heap.size la lc m ls ps n (some f) #[.slice p.1 l.ws.length p.2, .int .i64 (l.en : Int)] #[.slice oa os.length oc, .int .i8 0, .int .u8 0, .slice none 0 0, .int .i64 0, .int .i64 0] oa oc os) ∧ _) := HS5.out.ops hds; have HN4 : Hid _ := hn4; clear hds hn4 hv4 HS5)
    | (go_at_call 14; refine Calls.mono (dhave_dead r la ls.length lc n m f _ HZ0.out.1.q.d) ?_; rintro e u5 ⟨rfl, hd, hf⟩; have HZ1 : Hid (Dz w (u5) r u0.heap.size u4.heap.size la lc m ls ps n (some f) #[.slice p.1 l.ws.length p.2, .int .i64 (l.en : Int)] #[.slice oa os.length oc, .int .i8 0, .int .u8 0, .slice none 0 0, .int .i64 0, .int .i64 0] oa oc os) := HZ0.out.1.go hd hf; clear hd hf HZ0; have x0 := HZ1.out.b.c 0 _ rfl; have x1 := HZ1.out.b.c 1 _ rfl; have x2 := HZ1.out.b.c 2 _ rfl; have x3 := HZ1.out.b.c 3 _ rfl; have x4 := HZ1.out.b.c 4 _ rfl; have x5 := HZ1.out.b.c 5 _ rfl; have y0 := HZ1.out.q.res.c 0 _ rfl; have y1 := HZ1.out.q.res.c 1 _ rfl; have y2 := HZ1.out.q.res.c 2 _ rfl; have y3 := HZ1.out.q.res.c 3 _ rfl; have y4 := HZ1.out.q.res.c 4 _ rfl; have y5 := HZ1.out.q.res.c 5 _ rfl; have yf := HZ1.out.q.res.f))
  have hx := HZ1.out
  have kk := six_at hx.q.res (.slice oa os.length oc) (.int .i8 0) (.int .u8 0) (.slice none 0 0) (.int .i64 0) (.int .i64 0)
  have g0 : ((((((u5.setCell ⟨w.heap.size, 0, none⟩ (.slice oa os.length oc)).setCell ⟨w.heap.size, 1, none⟩ (.int .i8 0)).setCell ⟨w.heap.size, 2, none⟩ (.int .u8 0)).setCell ⟨w.heap.size, 3, none⟩ (.slice none 0 0)).setCell ⟨w.heap.size, 4, none⟩ (.int .i64 0)).setCell ⟨w.heap.size, 5, none⟩ (.int .i64 0)).cell? ⟨w.heap.size, 0, none⟩ = some (.slice oa os.length oc) := kk.c 0 _ rfl
  have g1 : ((((((u5.setCell ⟨w.heap.size, 0, none⟩ (.slice oa os.length oc)).setCell ⟨w.heap.size, 1, none⟩ (.int .i8 0)).setCell ⟨w.heap.size, 2, none⟩ (.int .u8 0)).setCell ⟨w.heap.size, 3, none⟩ (.slice none 0 0)).setCell ⟨w.heap.size, 4, none⟩ (.int .i64 0)).setCell ⟨w.heap.size, 5, none⟩ (.int .i64 0)).cell? ⟨w.heap.size, 1, none⟩ = some (.int .i8 0) := kk.c 1 _ rfl
  have g2 : ((((((u5.setCell ⟨w.heap.size, 0, none⟩ (.slice oa os.length oc)).setCell ⟨w.heap.size, 1, none⟩ (.int .i8 0)).setCell ⟨w.heap.size, 2, none⟩ (.int .u8 0)).setCell ⟨w.heap.size, 3, none⟩ (.slice none 0 0)).setCell ⟨w.heap.size, 4, none⟩ (.int .i64 0)).setCell ⟨w.heap.size, 5, none⟩ (.int .i64 0)).cell? ⟨w.heap.size, 2, none⟩ = some (.int .u8 0) := kk.c 2 _ rfl
  have g3 : ((((((u5.setCell ⟨w.heap.size, 0, none⟩ (.slice oa os.length oc)).setCell ⟨w.heap.size, 1, none⟩ (.int .i8 0)).setCell ⟨w.heap.size, 2, none⟩ (.int .u8 0)).setCell ⟨w.heap.size, 3, none⟩ (.slice none 0 0)).setCell ⟨w.heap.size, 4, none⟩ (.int .i64 0)).setCell ⟨w.heap.size, 5, none⟩ (.int .i64 0)).cell? ⟨w.heap.size, 3, none⟩ = some (.slice none 0 0) := kk.c 3 _ rfl
  have g4 : ((((((u5.setCell ⟨w.heap.size, 0, none⟩ (.slice oa os.length oc)).setCell ⟨w.heap.size, 1, none⟩ (.int .i8 0)).setCell ⟨w.heap.size, 2, none⟩ (.int .u8 0)).setCell ⟨w.heap.size, 3, none⟩ (.slice none 0 0)).setCell ⟨w.heap.size, 4, none⟩ (.int .i64 0)).setCell ⟨w.heap.size, 5, none⟩ (.int .i64 0)).cell? ⟨w.heap.size, 4, none⟩ = some (.int .i64 0) := kk.c 4 _ rfl
  have g5 : ((((((u5.setCell ⟨w.heap.size, 0, none⟩ (.slice oa os.length oc)).setCell ⟨w.heap.size, 1, none⟩ (.int .i8 0)).setCell ⟨w.heap.size, 2, none⟩ (.int .u8 0)).setCell ⟨w.heap.size, 3, none⟩ (.slice none 0 0)).setCell ⟨w.heap.size, 4, none⟩ (.int .i64 0)).setCell ⟨w.heap.size, 5, none⟩ (.int .i64 0)).cell? ⟨w.heap.size, 5, none⟩ = some (.int .i64 0) := kk.c 5 _ rfl
  refine bodyPost_ret (v := .agg #[.slice oa os.length oc, .int .i8 0, .int .u8 0, .slice none 0 0, .int .i64 0, .int .i64 0]) (by simp [results, Tryz.results15, go_sem, g0, g1, g2, g3, g4, g5]) rfl (hx.done (row_none _ _) HR.out)
set_option maxHeartbeats 4000000 in
theorem dblock_d3 (r k : Nat) (la : Option Addr) (ls : List Ln) (ps : List Pw) (lc nx m : Nat) (fl : Option Wd') (RES : R (Bk × Nat)) (w : World) (h : Dr w r (.slice la ls.length lc) nx m fl) (hl : DL w r la ls ps) (hn : nx ≤ ls.length) (hk : k ≤ 65537)
    (l : Ln) (h1 : guardR fl (lnR [98, 108, 111, 99, 107] ls nx m) = .ok l) (x : Wd') (h2 : wordR l 1 = .ok x) (hne : x.2 ≠ Lib.decDigits k ++ [58]) (hres : RES = .no x) : Calls Tryz.prog 15 #[.pointer (some ⟨r, 0, none⟩), .int .i64 k] w (DbPost w r la lc m ls ps RES) := by
  have hr := h.lt
  have hB0 : Below w.heap.size w (w.alloc (.cells #[.slice none 0 0, .int .i8 0, .int .u8 0, .slice none 0 0, .int .i64 0, .int .i64 0] 60)) := (Below.refl _ _).alloc (Nat.le_refl _) _
  have HD0 : Hid (Dr (w.alloc (.cells #[.slice none 0 0, .int .i8 0, .int .u8 0, .slice none 0 0, .int .i64 0, .int .i64 0] 60)) r (.slice la ls.length lc) nx m fl ∧ DL (w.alloc (.cells #[.slice none 0 0, .int .i8 0, .int .u8 0, .slice none 0 0, .int .i64 0, .int .i64 0] 60)) r la ls ps ∧ At (w.alloc (.cells #[.slice none 0 0, .int .i8 0, .int .u8 0, .slice none 0 0, .int .i64 0, .int .i64 0] 60)) w.heap.size #[.slice none 0 0, .int .i8 0, .int .u8 0, .slice none 0 0, .int .i64 0, .int .i64 0] ∧ Fr (One r) w (w.alloc (.cells #[.slice none 0 0, .int .i8 0, .int .u8 0, .slice none 0 0, .int .i64 0, .int .i64 0] 60))) := ⟨h.below hB0, hl.fr (Fr.of hB0) h.lt, At.new _ _ _, Fr.of hB0⟩
  have H1 : Hid _ := h1
  have H2 : Hid _ := h2
  have HR : Hid _ := hres
  have HN : Hid _ := hn
  have HI : Hid (ls[nx]? = some l) := (ln_some (by cases fl with | some f => cases h1 | none => exact h1)).1
  have HN1 : Hid (nx + 1 ≤ ls.length) := (List.getElem?_eq_some_iff.1 HI.out).1
  have hIt : itS k = ⟨(Lib.decDigits k).toArray⟩ := by unfold itS Lib.itoa; rw [if_neg (by omega)]; rfl
  have HDg : Hid (∀ W, Calls Tryz.prog 29 #[.int .i64 (k : Int)] W fun e w' => e = .returned (.string ⟨(Lib.decDigits k).toArray⟩) ∧ w' = W) := fun W => by rw [← hIt]; exact digits_nat k W (by omega)
  have hLen : (Lib.decDigits k).length ≤ 19 := dec_len 18 k (by omega)
  have hcat : ∀ w', (Op.stringOp .add ⟨(Lib.decDigits k).toArray⟩ ⟨#[58]⟩).run Tryz.prog w' = .ok (.string ⟨(Lib.decDigits k ++ [58]).toArray⟩) w' := fun w' => cat_list _ [58] (by simp; omega) w'
  have hne1 : (x.2 == Lib.decDigits k ++ [58]) = false := by simpa using hne
  have hne2 : (x.2 != Lib.decDigits k ++ [58]) = true := by simpa using hne
  clear hIt hLen hne
  generalize Lib.decDigits k ++ [58] = dg at *
  generalize Lib.decDigits k = dd at *
  clear h hl hn hB0 hres h1 h2
  go_enter Tryz.func15, Tryz.ntmps15
  go_wp2_with (first
    | (go_at_call 27; refine Calls.mono (dline_any r [98, 108, 111, 99, 107] la ls ps lc nx m fl _ HD0.out.1 HD0.out.2.1) ?_; rw [H1.out]; rintro e u0 ⟨p, hp, hi, rfl, hd, hf⟩; have HS1 : Hid (Bq w (u0.alloc (.cells #[.slice p.1 l.ws.length p.2, .int .i64 (l.en : Int)] 45)) r u0.heap.size la lc m ls ps (nx + 1) (none) #[.slice p.1 l.ws.length p.2, .int .i64 (l.en : Int)]) := ⟨hd.below ((Below.refl _ _).alloc (Nat.le_refl _) _), (HD0.out.2.1.fr hf HD0.out.1.lt).fr (Fr.of ((Below.refl _ _).alloc (Nat.le_refl _) _)) hd.lt, (at_fr HD0.out.2.2.1 hf (by show ¬ _ = _; omega)).alloc _, At.new _ _ _, (HD0.out.2.2.2.same hf).alloc _, hr, (by have h9 := hf.size; simp at h9; omega)⟩; have HP : Hid _ := hp; have q0 := HS1.out.x.c 0 _ rfl; have q1 := HS1.out.x.c 1 _ rfl; clear hd hf HD0 hp hi)
    | (go_at_call 28; refine Calls.mono (dword_any r 1 p l _ (nx + 1) m none _ HS1.out.d (HS1.out.l.dw HI.out HP.out)) ?_; rw [show guardR none (wordR l 1) = .ok x from H2.out]; rintro e u1 ⟨rfl, hd, hf⟩; have HS2 : Hid (Bq w (u1.alloc (.cells #[.string ⟨x.2.toArray⟩, .int .i64 (x.1 : Int)] 47)) r u0.heap.size la lc m ls ps (nx + 1) (none) #[.slice p.1 l.ws.length p.2, .int .i64 (l.en : Int)]) := (HS1.out.go hd hf).up ((Below.refl _ _).alloc (Nat.le_refl _) _); clear hd hf HS1 q0 q1; have q2 := HS2.out.x.c 0 _ rfl; have q3 := HS2.out.x.c 1 _ rfl; simp only [wordV, isOk]))
  go_quiet (first | (go_at_call 29; refine Calls.quiet_of_same (HDg.out _)))
  have HS3 : Hid (Bq w ((u1.alloc (.cells #[.string ⟨x.2.toArray⟩, .int .i64 (x.1 : Int)] 47)).drewN nq) r u0.heap.size la lc m ls ps (nx + 1) (none) #[.slice p.1 l.ws.length p.2, .int .i64 (l.en : Int)]) := HS2.out.up (drewN_below (Below.refl _ _) nq)
  have HTb : Hid (At ((u1.alloc (.cells #[.string ⟨x.2.toArray⟩, .int .i64 (x.1 : Int)] 47)).drewN nq) u1.heap.size #[.string ⟨x.2.toArray⟩, .int .i64 (x.1 : Int)]) := (At.new u1 #[.string ⟨x.2.toArray⟩, .int .i64 (x.1 : Int)] 47).below (drewN_below (Below.refl _ _) nq) (At.new u1 #[.string ⟨x.2.toArray⟩, .int .i64 (x.1 : Int)] 47).lt
  clear HS2 q2 q3
  generalize (u1.alloc (.cells #[.string ⟨x.2.toArray⟩, .int .i64 (x.1 : Int)] 47)).drewN nq = U at *
  have q4 := HS3.out.x.c 0 _ rfl
  have q5 := HS3.out.x.c 1 _ rfl
  have t0 := HTb.out.c 0 _ rfl
  have t1 := HTb.out.c 1 _ rfl
  have tl := HTb.out.lt
  go_wp2_with (first
    | (go_at_call 26; refine Calls.mono (dfail_any r x.1 x.2 _ (nx + 1) m none _ HS3.out.d) ?_; rintro e u2 ⟨rfl, hd, hf⟩; have HS4 : Hid (Bq w (u2) r u0.heap.size la lc m ls ps (nx + 1) (some x) #[.slice p.1 l.ws.length p.2, .int .i64 (l.en : Int)]) := HS3.out.go hd hf; clear hd hf HS3 q4 q5 t0 t1 tl HTb; have q4 := HS4.out.x.c 0 _ rfl; have q5 := HS4.out.x.c 1 _ rfl)
    | (go_at_call 30; refine Calls.mono (dend_any r 2 p l _ (nx + 1) m (some x) _ HS4.out.d (HS4.out.l.dw HI.out HP.out)) ?_; rintro e u3 ⟨rfl, hd, hf⟩; have HS5 : Hid (Bq w (u3) r u0.heap.size la lc m ls ps (nx + 1) (some x) #[.slice p.1 l.ws.length p.2, .int .i64 (l.en : Int)]) := HS4.out.go hd hf; clear hd hf HS4 q4 q5)
    | (go_at_call 31; refine Calls.mono (dops_any r la ls ps lc (nx + 1) m (some x) _ HS5.out.d HS5.out.l HN1.out) ?_; rintro e u4 ⟨v, os, n, rfl, hds, hn4, hv4⟩; obtain ⟨oa, oc, rfl⟩ := row_slice hds.row; have HZ0 : Hid ((Dz w (u4.alloc (.cells #[.slice oa os.length oc, .int .i8 0, .int .u8 0, .slice none 0 0, .int .i64 0, .int .i64 0] 60)) r u0.heap.size u4.heap.size la lc m ls ps n (some x) #[.slice p.1 l.ws.length p.2, .int .i64 (l.en : Int)] #[.slice oa os.length oc, .int .i8 0, .int .u8 0, .slice none 0 0, .int .i64 0, .int .i64 0] oa oc os) ∧ _) := HS5.out.ops hds; have HN4 : Hid _ := hn4; clear hds hn4 hv4 HS5)
    | (go_at_call 14; refine Calls.mono (dhave_dead r la ls.length lc n m x _ HZ0.out.1.q.d) ?_; rintro e u5 ⟨rfl, hd, hf⟩; have HZ1 : Hid (Dz w (u5) r u0.heap.size u4.heap.size la lc m ls ps n (some x) #[.slice p.1 l.ws.length p.2, .int .i64 (l.en : Int)] #[.slice oa os.length oc, .int .i8 0, .int .u8 0, .slice none 0 0, .int .i64 0, .int .i64 0] oa oc os) := HZ0.out.1.go hd hf; clear hd hf HZ0; have x0 := HZ1.out.b.c 0 _ rfl; have x1 := HZ1.out.b.c 1 _ rfl; have x2 := HZ1.out.b.c 2 _ rfl; have x3 := HZ1.out.b.c 3 _ rfl; have x4 := HZ1.out.b.c 4 _ rfl; have x5 := HZ1.out.b.c 5 _ rfl; have y0 := HZ1.out.q.res.c 0 _ rfl; have y1 := HZ1.out.q.res.c 1 _ rfl; have y2 := HZ1.out.q.res.c 2 _ rfl; have y3 := HZ1.out.q.res.c 3 _ rfl; have y4 := HZ1.out.q.res.c 4 _ rfl; have y5 := HZ1.out.q.res.c 5 _ rfl; have yf := HZ1.out.q.res.f))
  have hx := HZ1.out
  have kk := six_at hx.q.res (.slice oa os.length oc) (.int .i8 0) (.int .u8 0) (.slice none 0 0) (.int .i64 0) (.int .i64 0)
  have g0 : ((((((u5.setCell ⟨w.heap.size, 0, none⟩ (.slice oa os.length oc)).setCell ⟨w.heap.size, 1, none⟩ (.int .i8 0)).setCell ⟨w.heap.size, 2, none⟩ (.int .u8 0)).setCell ⟨w.heap.size, 3, none⟩ (.slice none 0 0)).setCell ⟨w.heap.size, 4, none⟩ (.int .i64 0)).setCell ⟨w.heap.size, 5, none⟩ (.int .i64 0)).cell? ⟨w.heap.size, 0, none⟩ = some (.slice oa os.length oc) := kk.c 0 _ rfl
  have g1 : ((((((u5.setCell ⟨w.heap.size, 0, none⟩ (.slice oa os.length oc)).setCell ⟨w.heap.size, 1, none⟩ (.int .i8 0)).setCell ⟨w.heap.size, 2, none⟩ (.int .u8 0)).setCell ⟨w.heap.size, 3, none⟩ (.slice none 0 0)).setCell ⟨w.heap.size, 4, none⟩ (.int .i64 0)).setCell ⟨w.heap.size, 5, none⟩ (.int .i64 0)).cell? ⟨w.heap.size, 1, none⟩ = some (.int .i8 0) := kk.c 1 _ rfl
  have g2 : ((((((u5.setCell ⟨w.heap.size, 0, none⟩ (.slice oa os.length oc)).setCell ⟨w.heap.size, 1, none⟩ (.int .i8 0)).setCell ⟨w.heap.size, 2, none⟩ (.int .u8 0)).setCell ⟨w.heap.size, 3, none⟩ (.slice none 0 0)).setCell ⟨w.heap.size, 4, none⟩ (.int .i64 0)).setCell ⟨w.heap.size, 5, none⟩ (.int .i64 0)).cell? ⟨w.heap.size, 2, none⟩ = some (.int .u8 0) := kk.c 2 _ rfl
  have g3 : ((((((u5.setCell ⟨w.heap.size, 0, none⟩ (.slice oa os.length oc)).setCell ⟨w.heap.size, 1, none⟩ (.int .i8 0)).setCell ⟨w.heap.size, 2, none⟩ (.int .u8 0)).setCell ⟨w.heap.size, 3, none⟩ (.slice none 0 0)).setCell ⟨w.heap.size, 4, none⟩ (.int .i64 0)).setCell ⟨w.heap.size, 5, none⟩ (.int .i64 0)).cell? ⟨w.heap.size, 3, none⟩ = some (.slice none 0 0) := kk.c 3 _ rfl
  have g4 : ((((((u5.setCell ⟨w.heap.size, 0, none⟩ (.slice oa os.length oc)).setCell ⟨w.heap.size, 1, none⟩ (.int .i8 0)).setCell ⟨w.heap.size, 2, none⟩ (.int .u8 0)).setCell ⟨w.heap.size, 3, none⟩ (.slice none 0 0)).setCell ⟨w.heap.size, 4, none⟩ (.int .i64 0)).setCell ⟨w.heap.size, 5, none⟩ (.int .i64 0)).cell? ⟨w.heap.size, 4, none⟩ = some (.int .i64 0) := kk.c 4 _ rfl
  have g5 : ((((((u5.setCell ⟨w.heap.size, 0, none⟩ (.slice oa os.length oc)).setCell ⟨w.heap.size, 1, none⟩ (.int .i8 0)).setCell ⟨w.heap.size, 2, none⟩ (.int .u8 0)).setCell ⟨w.heap.size, 3, none⟩ (.slice none 0 0)).setCell ⟨w.heap.size, 4, none⟩ (.int .i64 0)).setCell ⟨w.heap.size, 5, none⟩ (.int .i64 0)).cell? ⟨w.heap.size, 5, none⟩ = some (.int .i64 0) := kk.c 5 _ rfl
  refine bodyPost_ret (v := .agg #[.slice oa os.length oc, .int .i8 0, .int .u8 0, .slice none 0 0, .int .i64 0, .int .i64 0]) (by simp [results, Tryz.results15, go_sem, g0, g1, g2, g3, g4, g5]) rfl (hx.done (row_none _ _) HR.out)
set_option maxHeartbeats 4000000 in
theorem dblock_d4 (r k : Nat) (la : Option Addr) (ls : List Ln) (ps : List Pw) (lc nx m : Nat) (fl : Option Wd') (RES : R (Bk × Nat)) (w : World) (h : Dr w r (.slice la ls.length lc) nx m fl) (hl : DL w r la ls ps) (hn : nx ≤ ls.length) (hk : k ≤ 65537)
    (l : Ln) (h1 : guardR fl (lnR [98, 108, 111, 99, 107] ls nx m) = .ok l) (x : Wd') (h2 : wordR l 1 = .ok x) (hne : x.2 = Lib.decDigits k ++ [58]) (f : Wd') (ho : guardR (stF (guardR none (endsR l 2))) (opsD (ls.drop (nx + 1)) (nx + 1)) = .no f) (hres : RES = .no f) : Calls Tryz.prog 15 #[.pointer (some ⟨r, 0, none⟩), .int .i64 k] w (DbPost w r la lc m ls ps RES) := by
  have hr := h.lt
  have hB0 : Below w.heap.size w (w.alloc (.cells #[.slice none 0 0, .int .i8 0, .int .u8 0, .slice none 0 0, .int .i64 0, .int .i64 0] 60)) := (Below.refl _ _).alloc (Nat.le_refl _) _
  have HD0 : Hid (Dr (w.alloc (.cells #[.slice none 0 0, .int .i8 0, .int .u8 0, .slice none 0 0, .int .i64 0, .int .i64 0] 60)) r (.slice la ls.length lc) nx m fl ∧ DL (w.alloc (.cells #[.slice none 0 0, .int .i8 0, .int .u8 0, .slice none 0 0, .int .i64 0, .int .i64 0] 60)) r la ls ps ∧ At (w.alloc (.cells #[.slice none 0 0, .int .i8 0, .int .u8 0, .slice none 0 0, .int .i64 0, .int .i64 0] 60)) w.heap.size #[.slice none 0 0, .int .i8 0, .int .u8 0, .slice none 0 0, .int .i64 0, .int .i64 0] ∧ Fr (One r) w (w.alloc (.cells #[.slice none 0 0, .int .i8 0, .int .u8 0, .slice none 0 0, .int .i64 0, .int .i64 0] 60))) := ⟨h.below hB0, hl.fr (Fr.of hB0) h.lt, At.new _ _ _, Fr.of hB0⟩
  have H1 : Hid _ := h1
  have HO : Hid _ := ho
  have HR : Hid _ := hres
  have HN : Hid _ := hn
  have HI : Hid (ls[nx]? = some l) := (ln_some (by cases fl with | some f => cases h1 | none => exact h1)).1
  have HN1 : Hid (nx + 1 ≤ ls.length) := (List.getElem?_eq_some_iff.1 HI.out).1
  have hIt : itS k = ⟨(Lib.decDigits k).toArray⟩ := by unfold itS Lib.itoa; rw [if_neg (by omega)]; rfl
  have HDg : Hid (∀ W, Calls Tryz.prog 29 #[.int .i64 (k : Int)] W fun e w' => e = .returned (.string ⟨(Lib.decDigits k).toArray⟩) ∧ w' = W) := fun W => by rw [← hIt]; exact digits_nat k W (by omega)
  have hLen : (Lib.decDigits k).length ≤ 19 := dec_len 18 k (by omega)
  have hcat : ∀ w', (Op.stringOp .add ⟨(Lib.decDigits k).toArray⟩ ⟨#[58]⟩).run Tryz.prog w' = .ok (.string ⟨(Lib.decDigits k ++ [58]).toArray⟩) w' := fun w' => cat_list _ [58] (by simp; omega) w'
  obtain ⟨xa, xs⟩ := x
  simp only at hne
  subst hne
  clear hIt hLen
  have HDD : Hid _ := hcat
  generalize hdg : Lib.decDigits k ++ [58] = dg at *
  generalize hdd : Lib.decDigits k = dd at *
  clear hdg hdd HDD
  have H2 : Hid _ := h2
  clear h hl hn hB0 hres h1 h2 ho
  go_enter Tryz.func15, Tryz.ntmps15
  go_wp2_with (first
    | (go_at_call 27; refine Calls.mono (dline_any r [98, 108, 111, 99, 107] la ls ps lc nx m fl _ HD0.out.1 HD0.out.2.1) ?_; rw [H1.out]; rintro e u0 ⟨p, hp, hi, rfl, hd, hf⟩; have HS1 : Hid (Bq w (u0.alloc (.cells #[.slice p.1 l.ws.length p.2, .int .i64 (l.en : Int)] 45)) r u0.heap.size la lc m ls ps (nx + 1) (none) #[.slice p.1 l.ws.length p.2, .int .i64 (l.en : Int)]) := ⟨hd.below ((Below.refl _ _).alloc (Nat.le_refl _) _), (HD0.out.2.1.fr hf HD0.out.1.lt).fr (Fr.of ((Below.refl _ _).alloc (Nat.le_refl _) _)) hd.lt, (at_fr HD0.out.2.2.1 hf (by show ¬ _ = _; omega)).alloc _, At.new _ _ _, (HD0.out.2.2.2.same hf).alloc _, hr, (by have h9 := hf.size; simp at h9; omega)⟩; have HP : Hid _ := hp; have q0 := HS1.out.x.c 0 _ rfl; have q1 := HS1.out.x.c 1 _ rfl; clear hd hf HD0 hp hi)
    | (go_at_call 28; refine Calls.mono (dword_any r 1 p l _ (nx + 1) m none _ HS1.out.d (HS1.out.l.dw HI.out HP.out)) ?_; rw [show guardR none (wordR l 1) = .ok (xa, dg) from H2.out]; rintro e u1 ⟨rfl, hd, hf⟩; have HS2 : Hid (Bq w (u1.alloc (.cells #[.string ⟨dg.toArray⟩, .int .i64 (xa : Int)] 47)) r u0.heap.size la lc m ls ps (nx + 1) (none) #[.slice p.1 l.ws.length p.2, .int .i64 (l.en : Int)]) := (HS1.out.go hd hf).up ((Below.refl _ _).alloc (Nat.le_refl _) _); clear hd hf HS1 q0 q1; have q2 := HS2.out.x.c 0 _ rfl; have q3 := HS2.out.x.c 1 _ rfl; simp only [wordV, isOk]))
  go_quiet (first | (go_at_call 29; refine Calls.quiet_of_same (HDg.out _)))
  have HS3 : Hid (Bq w ((u1.alloc (.cells #[.string ⟨dg.toArray⟩, .int .i64 (xa : Int)] 47)).drewN nq) r u0.heap.size la lc m ls ps (nx + 1) (none) #[.slice p.1 l.ws.length p.2, .int .i64 (l.en : Int)]) := HS2.out.up (drewN_below (Below.refl _ _) nq)
  have HTb : Hid (At ((u1.alloc (.cells #[.string ⟨dg.toArray⟩, .int .i64 (xa : Int)] 47)).drewN nq) u1.heap.size #[.string ⟨dg.toArray⟩, .int .i64 (xa : Int)]) := (At.new u1 #[.string ⟨dg.toArray⟩, .int .i64 (xa : Int)] 47).below (drewN_below (Below.refl _ _) nq) (At.new u1 #[.string ⟨dg.toArray⟩, .int .i64 (xa : Int)] 47).lt
  clear HS2 q2 q3
  generalize (u1.alloc (.cells #[.string ⟨dg.toArray⟩, .int .i64 (xa : Int)] 47)).drewN nq = U at *
  have q4 := HS3.out.x.c 0 _ rfl
  have q5 := HS3.out.x.c 1 _ rfl
  have t0 := HTb.out.c 0 _ rfl
  have t1 := HTb.out.c 1 _ rfl
  have tl := HTb.out.lt
  go_wp2_with (first
    | (go_at_call 30; refine Calls.mono (dend_any r 2 p l _ (nx + 1) m (none) _ HS3.out.d (HS3.out.l.dw HI.out HP.out)) ?_; rintro e u3 ⟨rfl, hd, hf⟩; have HS5 : Hid (Bq w (u3) r u0.heap.size la lc m ls ps (nx + 1) (stF (guardR none (endsR l 2))) #[.slice p.1 l.ws.length p.2, .int .i64 (l.en : Int)]) := HS3.out.go hd hf; clear hd hf HS3 q4 q5)
    | (go_at_call 31; refine Calls.mono (dops_any r la ls ps lc (nx + 1) m (stF (guardR none (endsR l 2))) _ HS5.out.d HS5.out.l HN1.out) ?_; rintro e u4 ⟨v, os, n, rfl, hds, hn4, hv4⟩; rw [HO.out] at hds; obtain ⟨oa, oc, rfl⟩ := row_slice hds.row; have HZ0 : Hid ((Dz w (u4.alloc (.cells #[.slice oa os.length oc, .int .i8 0, .int .u8 0, .slice none 0 0, .int .i64 0, .int .i64 0] 60)) r u0.heap.size u4.heap.size la lc m ls ps n (some f) #[.slice p.1 l.ws.length p.2, .int .i64 (l.en : Int)] #[.slice oa os.length oc, .int .i8 0, .int .u8 0, .slice none 0 0, .int .i64 0, .int .i64 0] oa oc os) ∧ _) := HS5.out.ops hds; have HN4 : Hid _ := hn4; clear hds hn4 hv4 HS5)
    | (go_at_call 14; refine Calls.mono (dhave_dead r la ls.length lc n m f _ HZ0.out.1.q.d) ?_; rintro e u5 ⟨rfl, hd, hf⟩; have HZ1 : Hid (Dz w (u5) r u0.heap.size u4.heap.size la lc m ls ps n (some f) #[.slice p.1 l.ws.length p.2, .int .i64 (l.en : Int)] #[.slice oa os.length oc, .int .i8 0, .int .u8 0, .slice none 0 0, .int .i64 0, .int .i64 0] oa oc os) := HZ0.out.1.go hd hf; clear hd hf HZ0; have x0 := HZ1.out.b.c 0 _ rfl; have x1 := HZ1.out.b.c 1 _ rfl; have x2 := HZ1.out.b.c 2 _ rfl; have x3 := HZ1.out.b.c 3 _ rfl; have x4 := HZ1.out.b.c 4 _ rfl; have x5 := HZ1.out.b.c 5 _ rfl; have y0 := HZ1.out.q.res.c 0 _ rfl; have y1 := HZ1.out.q.res.c 1 _ rfl; have y2 := HZ1.out.q.res.c 2 _ rfl; have y3 := HZ1.out.q.res.c 3 _ rfl; have y4 := HZ1.out.q.res.c 4 _ rfl; have y5 := HZ1.out.q.res.c 5 _ rfl; have yf := HZ1.out.q.res.f))
  have hx := HZ1.out
  have kk := six_at hx.q.res (.slice oa os.length oc) (.int .i8 0) (.int .u8 0) (.slice none 0 0) (.int .i64 0) (.int .i64 0)
  have g0 : ((((((u5.setCell ⟨w.heap.size, 0, none⟩ (.slice oa os.length oc)).setCell ⟨w.heap.size, 1, none⟩ (.int .i8 0)).setCell ⟨w.heap.size, 2, none⟩ (.int .u8 0)).setCell ⟨w.heap.size, 3, none⟩ (.slice none 0 0)).setCell ⟨w.heap.size, 4, none⟩ (.int .i64 0)).setCell ⟨w.heap.size, 5, none⟩ (.int .i64 0)).cell? ⟨w.heap.size, 0, none⟩ = some (.slice oa os.length oc) := kk.c 0 _ rfl
  have g1 : ((((((u5.setCell ⟨w.heap.size, 0, none⟩ (.slice oa os.length oc)).setCell ⟨w.heap.size, 1, none⟩ (.int .i8 0)).setCell ⟨w.heap.size, 2, none⟩ (.int .u8 0)).setCell ⟨w.heap.size, 3, none⟩ (.slice none 0 0)).setCell ⟨w.heap.size, 4, none⟩ (.int .i64 0)).setCell ⟨w.heap.size, 5, none⟩ (.int .i64 0)).cell? ⟨w.heap.size, 1, none⟩ = some (.int .i8 0) := kk.c 1 _ rfl
  have g2 : ((((((u5.setCell ⟨w.heap.size, 0, none⟩ (.slice oa os.length oc)).setCell ⟨w.heap.size, 1, none⟩ (.int .i8 0)).setCell ⟨w.heap.size, 2, none⟩ (.int .u8 0)).setCell ⟨w.heap.size, 3, none⟩ (.slice none 0 0)).setCell ⟨w.heap.size, 4, none⟩ (.int .i64 0)).setCell ⟨w.heap.size, 5, none⟩ (.int .i64 0)).cell? ⟨w.heap.size, 2, none⟩ = some (.int .u8 0) := kk.c 2 _ rfl
  have g3 : ((((((u5.setCell ⟨w.heap.size, 0, none⟩ (.slice oa os.length oc)).setCell ⟨w.heap.size, 1, none⟩ (.int .i8 0)).setCell ⟨w.heap.size, 2, none⟩ (.int .u8 0)).setCell ⟨w.heap.size, 3, none⟩ (.slice none 0 0)).setCell ⟨w.heap.size, 4, none⟩ (.int .i64 0)).setCell ⟨w.heap.size, 5, none⟩ (.int .i64 0)).cell? ⟨w.heap.size, 3, none⟩ = some (.slice none 0 0) := kk.c 3 _ rfl
  have g4 : ((((((u5.setCell ⟨w.heap.size, 0, none⟩ (.slice oa os.length oc)).setCell ⟨w.heap.size, 1, none⟩ (.int .i8 0)).setCell ⟨w.heap.size, 2, none⟩ (.int .u8 0)).setCell ⟨w.heap.size, 3, none⟩ (.slice none 0 0)).setCell ⟨w.heap.size, 4, none⟩ (.int .i64 0)).setCell ⟨w.heap.size, 5, none⟩ (.int .i64 0)).cell? ⟨w.heap.size, 4, none⟩ = some (.int .i64 0) := kk.c 4 _ rfl
  have g5 : ((((((u5.setCell ⟨w.heap.size, 0, none⟩ (.slice oa os.length oc)).setCell ⟨w.heap.size, 1, none⟩ (.int .i8 0)).setCell ⟨w.heap.size, 2, none⟩ (.int .u8 0)).setCell ⟨w.heap.size, 3, none⟩ (.slice none 0 0)).setCell ⟨w.heap.size, 4, none⟩ (.int .i64 0)).setCell ⟨w.heap.size, 5, none⟩ (.int .i64 0)).cell? ⟨w.heap.size, 5, none⟩ = some (.int .i64 0) := kk.c 5 _ rfl
  refine bodyPost_ret (v := .agg #[.slice oa os.length oc, .int .i8 0, .int .u8 0, .slice none 0 0, .int .i64 0, .int .i64 0]) (by simp [results, Tryz.results15, go_sem, g0, g1, g2, g3, g4, g5]) rfl (hx.done (row_none _ _) HR.out)
set_option maxHeartbeats 4000000 in
theorem dblock_d5 (r k : Nat) (la : Option Addr) (ls : List Ln) (ps : List Pw) (lc nx m : Nat) (fl : Option Wd') (RES : R (Bk × Nat)) (w : World) (h : Dr w r (.slice la ls.length lc) nx m fl) (hl : DL w r la ls ps) (hn : nx ≤ ls.length) (hk : k ≤ 65537)
    (l : Ln) (h1 : guardR fl (lnR [98, 108, 111, 99, 107] ls nx m) = .ok l) (x : Wd') (h2 : wordR l 1 = .ok x) (hne : x.2 = Lib.decDigits k ++ [58]) (y : List O × Nat) (ho : guardR (stF (guardR none (endsR l 2))) (opsD (ls.drop (nx + 1)) (nx + 1)) = .ok y) (hL : ¬ y.2 < ls.length) (hres : RES = .no (m, [])) : Calls Tryz.prog 15 #[.pointer (some ⟨r, 0, none⟩), .int .i64 k] w (DbPost w r la lc m ls ps RES) := by
  have hr := h.lt
  have hB0 : Below w.heap.size w (w.alloc (.cells #[.slice none 0 0, .int .i8 0, .int .u8 0, .slice none 0 0, .int .i64 0, .int .i64 0] 60)) := (Below.refl _ _).alloc (Nat.le_refl _) _
  have HD0 : Hid (Dr (w.alloc (.cells #[.slice none 0 0, .int .i8 0, .int .u8 0, .slice none 0 0, .int .i64 0, .int .i64 0] 60)) r (.slice la ls.length lc) nx m fl ∧ DL (w.alloc (.cells #[.slice none 0 0, .int .i8 0, .int .u8 0, .slice none 0 0, .int .i64 0, .int .i64 0] 60)) r la ls ps ∧ At (w.alloc (.cells #[.slice none 0 0, .int .i8 0, .int .u8 0, .slice none 0 0, .int .i64 0, .int .i64 0] 60)) w.heap.size #[.slice none 0 0, .int .i8 0, .int .u8 0, .slice none 0 0, .int .i64 0, .int .i64 0] ∧ Fr (One r) w (w.alloc (.cells #[.slice none 0 0, .int .i8 0, .int .u8 0, .slice none 0 0, .int .i64 0, .int .i64 0] 60))) := ⟨h.below hB0, hl.fr (Fr.of hB0) h.lt, At.new _ _ _, Fr.of hB0⟩
  have H1 : Hid _ := h1
  have HO : Hid _ := ho
  have HLn : Hid _ := hL
  have HR : Hid _ := hres
  have HN : Hid _ := hn
  have HI : Hid (ls[nx]? = some l) := (ln_some (by cases fl with | some f => cases h1 | none => exact h1)).1
  have HN1 : Hid (nx + 1 ≤ ls.length) := (List.getElem?_eq_some_iff.1 HI.out).1
  have hIt : itS k = ⟨(Lib.decDigits k).toArray⟩ := by unfold itS Lib.itoa; rw [if_neg (by omega)]; rfl
  have HDg : Hid (∀ W, Calls Tryz.prog 29 #[.int .i64 (k : Int)] W fun e w' => e = .returned (.string ⟨(Lib.decDigits k).toArray⟩) ∧ w' = W) := fun W => by rw [← hIt]; exact digits_nat k W (by omega)
  have hLen : (Lib.decDigits k).length ≤ 19 := dec_len 18 k (by omega)
  have hcat : ∀ w', (Op.stringOp .add ⟨(Lib.decDigits k).toArray⟩ ⟨#[58]⟩).run Tryz.prog w' = .ok (.string ⟨(Lib.decDigits k ++ [58]).toArray⟩) w' := fun w' => cat_list _ [58] (by simp; omega) w'
  obtain ⟨xa, xs⟩ := x
  simp only at hne
  subst hne
  clear hIt hLen
  have HDD : Hid _ := hcat
  generalize hdg : Lib.decDigits k ++ [58] = dg at *
  generalize hdd : Lib.decDigits k = dd at *
  clear hdg hdd HDD
  have H2 : Hid _ := h2
  clear h hl hn hB0 hres h1 h2 ho hL
  go_enter Tryz.func15, Tryz.ntmps15
  go_wp2_with (first
    | (go_at_call 27; refine Calls.mono (dline_any r [98, 108, 111, 99, 107] la ls ps lc nx m fl _ HD0.out.1 HD0.out.2.1) ?_; rw [H1.out]; rintro e u0 ⟨p, hp, hi, rfl, hd, hf⟩; have HS1 : Hid (Bq w (u0.alloc (.cells #[.slice p.1 l.ws.length p.2, .int .i64 (l.en : Int)] 45)) r u0.heap.size la lc m ls ps (nx + 1) (none) #[.slice p.1 l.ws.length p.2, .int .i64 (l.en : Int)]) := ⟨hd.below ((Below.refl _ _).alloc (Nat.le_refl _) _), (HD0.out.2.1.fr hf HD0.out.1.lt).fr (Fr.of ((Below.refl _ _).alloc (Nat.le_refl _) _)) hd.lt, (at_fr HD0.out.2.2.1 hf (by show ¬ _ = _; omega)).alloc _, At.new _ _ _, (HD0.out.2.2.2.same hf).alloc _, hr, (by have h9 := hf.size; simp at h9; omega)⟩; have HP : Hid _ := hp; have q0 := HS1.out.x.c 0 _ rfl; have q1 := HS1.out.x.c 1 _ rfl; clear hd hf HD0 hp hi)
    | (go_at_call 28; refine Calls.mono (dword_any r 1 p l _ (nx + 1) m none _ HS1.out.d (HS1.out.l.dw HI.out HP.out)) ?_; rw [show guardR none (wordR l 1) = .ok (xa, dg) from H2.out]; rintro e u1 ⟨rfl, hd, hf⟩; have HS2 : Hid (Bq w (u1.alloc (.cells #[.string ⟨dg.toArray⟩, .int .i64 (xa : Int)] 47)) r u0.heap.size la lc m ls ps (nx + 1) (none) #[.slice p.1 l.ws.length p.2, .int .i64 (l.en : Int)]) := (HS1.out.go hd hf).up ((Below.refl _ _).alloc (Nat.le_refl _) _); clear hd hf HS1 q0 q1; have q2 := HS2.out.x.c 0 _ rfl; have q3 := HS2.out.x.c 1 _ rfl; simp only [wordV, isOk]))
  go_quiet (first | (go_at_call 29; refine Calls.quiet_of_same (HDg.out _)))
  have HS3 : Hid (Bq w ((u1.alloc (.cells #[.string ⟨dg.toArray⟩, .int .i64 (xa : Int)] 47)).drewN nq) r u0.heap.size la lc m ls ps (nx + 1) (none) #[.slice p.1 l.ws.length p.2, .int .i64 (l.en : Int)]) := HS2.out.up (drewN_below (Below.refl _ _) nq)
  have HTb : Hid (At ((u1.alloc (.cells #[.string ⟨dg.toArray⟩, .int .i64 (xa : Int)] 47)).drewN nq) u1.heap.size #[.string ⟨dg.toArray⟩, .int .i64 (xa : Int)]) := (At.new u1 #[.string ⟨dg.toArray⟩, .int .i64 (xa : Int)] 47).below (drewN_below (Below.refl _ _) nq) (At.new u1 #[.string ⟨dg.toArray⟩, .int .i64 (xa : Int)] 47).lt
  clear HS2 q2 q3
  generalize (u1.alloc (.cells #[.string ⟨dg.toArray⟩, .int .i64 (xa : Int)] 47)).drewN nq = U at *
  have q4 := HS3.out.x.c 0 _ rfl
  have q5 := HS3.out.x.c 1 _ rfl
  have t0 := HTb.out.c 0 _ rfl
  have t1 := HTb.out.c 1 _ rfl
  have tl := HTb.out.lt
  go_wp2_with (first
    | (go_at_call 30; refine Calls.mono (dend_any r 2 p l _ (nx + 1) m (none) _ HS3.out.d (HS3.out.l.dw HI.out HP.out)) ?_; rintro e u3 ⟨rfl, hd, hf⟩; have HS5 : Hid (Bq w (u3) r u0.heap.size la lc m ls ps (nx + 1) (stF (guardR none (endsR l 2))) #[.slice p.1 l.ws.length p.2, .int .i64 (l.en : Int)]) := HS3.out.go hd hf; clear hd hf HS3 q4 q5)
    | (go_at_call 31; refine Calls.mono (dops_any r la ls ps lc (nx + 1) m (stF (guardR none (endsR l 2))) _ HS5.out.d HS5.out.l HN1.out) ?_; rintro e u4 ⟨v, os, n, rfl, hds, hn4, hv4⟩; rw [HO.out] at hds; obtain ⟨rfl, rfl⟩ := hv4 y HO.out; obtain ⟨oa, oc, rfl⟩ := row_slice hds.row; have HZ0 : Hid ((Dz w (u4.alloc (.cells #[.slice oa y.1.length oc, .int .i8 0, .int .u8 0, .slice none 0 0, .int .i64 0, .int .i64 0] 60)) r u0.heap.size u4.heap.size la lc m ls ps y.2 (none) #[.slice p.1 l.ws.length p.2, .int .i64 (l.en : Int)] #[.slice oa y.1.length oc, .int .i8 0, .int .u8 0, .slice none 0 0, .int .i64 0, .int .i64 0] oa oc y.1) ∧ _) := HS5.out.ops hds; have HN4 : Hid _ := hn4; clear hds hn4 hv4 HS5)
    | (go_at_call 14; refine Calls.mono (dhave_no r la ls.length lc y.2 m _ HZ0.out.1.q.d HLn.out) ?_; rintro e u5 ⟨rfl, hd, hf⟩; have HZ1 : Hid (Dz w (u5) r u0.heap.size u4.heap.size la lc m ls ps y.2 (some (m, [])) #[.slice p.1 l.ws.length p.2, .int .i64 (l.en : Int)] #[.slice oa y.1.length oc, .int .i8 0, .int .u8 0, .slice none 0 0, .int .i64 0, .int .i64 0] oa oc y.1) := HZ0.out.1.go hd hf; clear hd hf HZ0; have x0 := HZ1.out.b.c 0 _ rfl; have x1 := HZ1.out.b.c 1 _ rfl; have x2 := HZ1.out.b.c 2 _ rfl; have x3 := HZ1.out.b.c 3 _ rfl; have x4 := HZ1.out.b.c 4 _ rfl; have x5 := HZ1.out.b.c 5 _ rfl; have y0 := HZ1.out.q.res.c 0 _ rfl; have y1 := HZ1.out.q.res.c 1 _ rfl; have y2 := HZ1.out.q.res.c 2 _ rfl; have y3 := HZ1.out.q.res.c 3 _ rfl; have y4 := HZ1.out.q.res.c 4 _ rfl; have y5 := HZ1.out.q.res.c 5 _ rfl; have yf := HZ1.out.q.res.f))
  have hx := HZ1.out
  have kk := six_at hx.q.res (.slice oa y.1.length oc) (.int .i8 0) (.int .u8 0) (.slice none 0 0) (.int .i64 0) (.int .i64 0)
  have g0 : ((((((u5.setCell ⟨w.heap.size, 0, none⟩ (.slice oa y.1.length oc)).setCell ⟨w.heap.size, 1, none⟩ (.int .i8 0)).setCell ⟨w.heap.size, 2, none⟩ (.int .u8 0)).setCell ⟨w.heap.size, 3, none⟩ (.slice none 0 0)).setCell ⟨w.heap.size, 4, none⟩ (.int .i64 0)).setCell ⟨w.heap.size, 5, none⟩ (.int .i64 0)).cell? ⟨w.heap.size, 0, none⟩ = some (.slice oa y.1.length oc) := kk.c 0 _ rfl
  have g1 : ((((((u5.setCell ⟨w.heap.size, 0, none⟩ (.slice oa y.1.length oc)).setCell ⟨w.heap.size, 1, none⟩ (.int .i8 0)).setCell ⟨w.heap.size, 2, none⟩ (.int .u8 0)).setCell ⟨w.heap.size, 3, none⟩ (.slice none 0 0)).setCell ⟨w.heap.size, 4, none⟩ (.int .i64 0)).setCell ⟨w.heap.size, 5, none⟩ (.int .i64 0)).cell? ⟨w.heap.size, 1, none⟩ = some (.int .i8 0) := kk.c 1 _ rfl
  have g2 : ((((((u5.setCell ⟨w.heap.size, 0, none⟩ (.slice oa y.1.length oc)).setCell ⟨w.heap.size, 1, none⟩ (.int .i8 0)).setCell ⟨w.heap.size, 2, none⟩ (.int .u8 0)).setCell ⟨w.heap.size, 3, none⟩ (.slice none 0 0)).setCell ⟨w.heap.size, 4, none⟩ (.int .i64 0)).setCell ⟨w.heap.size, 5, none⟩ (.int .i64 0)).cell? ⟨w.heap.size, 2, none⟩ = some (.int .u8 0) := kk.c 2 _ rfl
  have g3 : ((((((u5.setCell ⟨w.heap.size, 0, none⟩ (.slice oa y.1.length oc)).setCell ⟨w.heap.size, 1, none⟩ (.int .i8 0)).setCell ⟨w.heap.size, 2, none⟩ (.int .u8 0)).setCell ⟨w.heap.size, 3, none⟩ (.slice none 0 0)).setCell ⟨w.heap.size, 4, none⟩ (.int .i64 0)).setCell ⟨w.heap.size, 5, none⟩ (.int .i64 0)).cell? ⟨w.heap.size, 3, none⟩ = some (.slice none 0 0) := kk.c 3 _ rfl
  have g4 : ((((((u5.setCell ⟨w.heap.size, 0, none⟩ (.slice oa y.1.length oc)).setCell ⟨w.heap.size, 1, none⟩ (.int .i8 0)).setCell ⟨w.heap.size, 2, none⟩ (.int .u8 0)).setCell ⟨w.heap.size, 3, none⟩ (.slice none 0 0)).setCell ⟨w.heap.size, 4, none⟩ (.int .i64 0)).setCell ⟨w.heap.size, 5, none⟩ (.int .i64 0)).cell? ⟨w.heap.size, 4, none⟩ = some (.int .i64 0) := kk.c 4 _ rfl
  have g5 : ((((((u5.setCell ⟨w.heap.size, 0, none⟩ (.slice oa y.1.length oc)).setCell ⟨w.heap.size, 1, none⟩ (.int .i8 0)).setCell ⟨w.heap.size, 2, none⟩ (.int .u8 0)).setCell ⟨w.heap.size, 3, none⟩ (.slice none 0 0)).setCell ⟨w.heap.size, 4, none⟩ (.int .i64 0)).setCell ⟨w.heap.size, 5, none⟩ (.int .i64 0)).cell? ⟨w.heap.size, 5, none⟩ = some (.int .i64 0) := kk.c 5 _ rfl
  refine bodyPost_ret (v := .agg #[.slice oa y.1.length oc, .int .i8 0, .int .u8 0, .slice none 0 0, .int .i64 0, .int .i64 0]) (by simp [results, Tryz.results15, go_sem, g0, g1, g2, g3, g4, g5]) rfl (hx.done (row_none _ _) HR.out)
set_option maxHeartbeats 4000000 in
theorem dblock_l6 (r k : Nat) (la : Option Addr) (ls : List Ln) (ps : List Pw) (lc nx m : Nat) (fl : Option Wd') (RES : R (Bk × Nat)) (w : World) (h : Dr w r (.slice la ls.length lc) nx m fl) (hl : DL w r la ls ps) (hn : nx ≤ ls.length) (hk : k ≤ 65537)
    (l : Ln) (h1 : guardR fl (lnR [98, 108, 111, 99, 107] ls nx m) = .ok l) (x : Wd') (h2 : wordR l 1 = .ok x) (hne : x.2 = Lib.decDigits k ++ [58]) (y : List O × Nat) (ho : guardR (stF (guardR none (endsR l 2))) (opsD (ls.drop (nx + 1)) (nx + 1)) = .ok y) (hL : y.2 < ls.length) (hres : RES = endD y.1 ls y.2 m) : Calls Tryz.prog 15 #[.pointer (some ⟨r, 0, none⟩), .int .i64 k] w (DbPost w r la lc m ls ps RES) := by
  have hr := h.lt
  have hB0 : Below w.heap.size w (w.alloc (.cells #[.slice none 0 0, .int .i8 0, .int .u8 0, .slice none 0 0, .int .i64 0, .int .i64 0] 60)) := (Below.refl _ _).alloc (Nat.le_refl _) _
  have HD0 : Hid (Dr (w.alloc (.cells #[.slice none 0 0, .int .i8 0, .int .u8 0, .slice none 0 0, .int .i64 0, .int .i64 0] 60)) r (.slice la ls.length lc) nx m fl ∧ DL (w.alloc (.cells #[.slice none 0 0, .int .i8 0, .int .u8 0, .slice none 0 0, .int .i64 0, .int .i64 0] 60)) r la ls ps ∧ At (w.alloc (.cells #[.slice none 0 0, .int .i8 0, .int .u8 0, .slice none 0 0, .int .i64 0, .int .i64 0] 60)) w.heap.size #[.slice none 0 0, .int .i8 0, .int .u8 0, .slice none 0 0, .int .i64 0, .int .i64 0] ∧ Fr (One r) w (w.alloc (.cells #[.slice none 0 0, .int .i8 0, .int .u8 0, .slice none 0 0, .int .i64 0, .int .i64 0] 60))) := ⟨h.below hB0, hl.fr (Fr.of hB0) h.lt, At.new _ _ _, Fr.of hB0⟩
  have H1 : Hid _ := h1
  have HO : Hid _ := ho
  have HLn : Hid _ := hL
  have HR : Hid _ := hres
  have HN : Hid _ := hn
  have HI : Hid (ls[nx]? = some l) := (ln_some (by cases fl with | some f => cases h1 | none => exact h1)).1
  have HN1 : Hid (nx + 1 ≤ ls.length) := (List.getElem?_eq_some_iff.1 HI.out).1
  have hIt : itS k = ⟨(Lib.decDigits k).toArray⟩ := by unfold itS Lib.itoa; rw [if_neg (by omega)]; rfl
  have HDg : Hid (∀ W, Calls Tryz.prog 29 #[.int .i64 (k : Int)] W fun e w' => e = .returned (.string ⟨(Lib.decDigits k).toArray⟩) ∧ w' = W) := fun W => by rw [← hIt]; exact digits_nat k W (by omega)
  have hLen : (Lib.decDigits k).length ≤ 19 := dec_len 18 k (by omega)
  have hcat : ∀ w', (Op.stringOp .add ⟨(Lib.decDigits k).toArray⟩ ⟨#[58]⟩).run Tryz.prog w' = .ok (.string ⟨(Lib.decDigits k ++ [58]).toArray⟩) w' := fun w' => cat_list _ [58] (by simp; omega) w'
  obtain ⟨xa, xs⟩ := x
  simp only at hne
  subst hne
  clear hIt hLen
  have HDD : Hid _ := hcat
  generalize hdg : Lib.decDigits k ++ [58] = dg at *
  generalize hdd : Lib.decDigits k = dd at *
  clear hdg hdd HDD
  have H2 : Hid _ := h2
  clear h hl hn hB0 hres h1 h2 ho hL
  go_enter Tryz.func15, Tryz.ntmps15
  go_wp2_with (first
    | (go_at_call 27; refine Calls.mono (dline_any r [98, 108, 111, 99, 107] la ls ps lc nx m fl _ HD0.out.1 HD0.out.2.1) ?_; rw [H1.out]; rintro e u0 ⟨p, hp, hi, rfl, hd, hf⟩; have HS1 : Hid (Bq w (u0.alloc (.cells #[.slice p.1 l.ws.length p.2, .int .i64 (l.en : Int)] 45)) r u0.heap.size la lc m ls ps (nx + 1) (none) #[.slice p.1 l.ws.length p.2, .int .i64 (l.en : Int)]) := ⟨hd.below ((Below.refl _ _).alloc (Nat.le_refl _) _), (HD0.out.2.1.fr hf HD0.out.1.lt).fr (Fr.of ((Below.refl _ _).alloc (Nat.le_refl _) _)) hd.lt, (at_fr HD0.out.2.2.1 hf (by show ¬ _ = _; omega)).alloc _, At.new _ _ _, (HD0.out.2.2.2.same hf).alloc _, hr, (by have h9 := hf.size; simp at h9; omega)⟩; have HP : Hid _ := hp; have q0 := HS1.out.x.c 0 _ rfl; have q1 := HS1.out.x.c 1 _ rfl; clear hd hf HD0 hp hi)
    | (go_at_call 28; refine Calls.mono (dword_any r 1 p l _ (nx + 1) m none _ HS1.out.d (HS1.out.l.dw HI.out HP.out)) ?_; rw [show guardR none (wordR l 1) = .ok (xa, dg) from H2.out]; rintro e u1 ⟨rfl, hd, hf⟩; have HS2 : Hid (Bq w (u1.alloc (.cells #[.string ⟨dg.toArray⟩, .int .i64 (xa : Int)] 47)) r u0.heap.size la lc m ls ps (nx + 1) (none) #[.slice p.1 l.ws.length p.2, .int .i64 (l.en : Int)]) := (HS1.out.go hd hf).up ((Below.refl _ _).alloc (Nat.le_refl _) _); clear hd hf HS1 q0 q1; have q2 := HS2.out.x.c 0 _ rfl; have q3 := HS2.out.x.c 1 _ rfl; simp only [wordV, isOk]))
  go_quiet (first | (go_at_call 29; refine Calls.quiet_of_same (HDg.out _)))
  have HS3 : Hid (Bq w ((u1.alloc (.cells #[.string ⟨dg.toArray⟩, .int .i64 (xa : Int)] 47)).drewN nq) r u0.heap.size la lc m ls ps (nx + 1) (none) #[.slice p.1 l.ws.length p.2, .int .i64 (l.en : Int)]) := HS2.out.up (drewN_below (Below.refl _ _) nq)
  have HTb : Hid (At ((u1.alloc (.cells #[.string ⟨dg.toArray⟩, .int .i64 (xa : Int)] 47)).drewN nq) u1.heap.size #[.string ⟨dg.toArray⟩, .int .i64 (xa : Int)]) := (At.new u1 #[.string ⟨dg.toArray⟩, .int .i64 (xa : Int)] 47).below (drewN_below (Below.refl _ _) nq) (At.new u1 #[.string ⟨dg.toArray⟩, .int .i64 (xa : Int)] 47).lt
  clear HS2 q2 q3
  generalize (u1.alloc (.cells #[.string ⟨dg.toArray⟩, .int .i64 (xa : Int)] 47)).drewN nq = U at *
  have q4 := HS3.out.x.c 0 _ rfl
  have q5 := HS3.out.x.c 1 _ rfl
  have t0 := HTb.out.c 0 _ rfl
  have t1 := HTb.out.c 1 _ rfl
  have tl := HTb.out.lt
  go_wp2_with (first
    | (go_at_call 30; refine Calls.mono (dend_any r 2 p l _ (nx + 1) m (none) _ HS3.out.d (HS3.out.l.dw HI.out HP.out)) ?_; rintro e u3 ⟨rfl, hd, hf⟩; have HS5 : Hid (Bq w (u3) r u0.heap.size la lc m ls ps (nx + 1) (stF (guardR none (endsR l 2))) #[.slice p.1 l.ws.length p.2, .int .i64 (l.en : Int)]) := HS3.out.go hd hf; clear hd hf HS3 q4 q5)
    | (go_at_call 31; refine Calls.mono (dops_any r la ls ps lc (nx + 1) m (stF (guardR none (endsR l 2))) _ HS5.out.d HS5.out.l HN1.out) ?_; rintro e u4 ⟨v, os, n, rfl, hds, hn4, hv4⟩; rw [HO.out] at hds; obtain ⟨rfl, rfl⟩ := hv4 y HO.out; obtain ⟨oa, oc, rfl⟩ := row_slice hds.row; have HZ0 : Hid ((Dz w (u4.alloc (.cells #[.slice oa y.1.length oc, .int .i8 0, .int .u8 0, .slice none 0 0, .int .i64 0, .int .i64 0] 60)) r u0.heap.size u4.heap.size la lc m ls ps y.2 (none) #[.slice p.1 l.ws.length p.2, .int .i64 (l.en : Int)] #[.slice oa y.1.length oc, .int .i8 0, .int .u8 0, .slice none 0 0, .int .i64 0, .int .i64 0] oa oc y.1) ∧ _) := HS5.out.ops hds; have HN4 : Hid _ := hn4; clear hds hn4 hv4 HS5)
    | (go_at_call 14; refine Calls.mono (dhave_yes r la ls.length lc y.2 m _ HZ0.out.1.q.d HLn.out) ?_; rintro e u5 ⟨rfl, hd, hf⟩; have HZ1 : Hid ((Dz w (u5) r u0.heap.size u4.heap.size la lc m ls ps y.2 (none) #[.slice p.1 l.ws.length p.2, .int .i64 (l.en : Int)] #[.slice oa y.1.length oc, .int .i8 0, .int .u8 0, .slice none 0 0, .int .i64 0, .int .i64 0] oa oc y.1) ∧ _) := ⟨HZ0.out.1.go hd hf, HZ0.out.2⟩; clear hd hf HZ0))
  have hz := HZ1.out
  obtain ⟨l2, pc, g, b, x2, t2, hi2, hp2, hla, hg, hb, hws, k0, k1, w0, w1, hpos⟩ := hz.1.q.l.look HLn.out
  have HE : Hid (RES = endW y.1 ls y.2 m l2 x2) := by show _ = _; rw [HR.out]; exact endD_cons hi2 hws
  have HW2 : Hid _ := hws
  have HI2 : Hid _ := hi2
  have HP2 : Hid _ := hp2
  have HNL : Hid (ls.length ≤ 65537) := hz.1.q.l.n
  subst hla
  have l0 := hz.1.q.d.a.c 0 _ rfl
  have l1 := hz.1.q.d.a.c 1 _ rfl
  have lf := hz.1.q.d.a.f
  have a0 := hz.1.q.x.c 0 _ rfl
  have a1 := hz.1.q.x.c 1 _ rfl
  have af := hz.1.q.x.f
  have zr := hz.1.q.d.lt
  have za := hz.1.q.x.lt
  have e1 := hz.1.q.h1
  have e2 := hz.1.q.h2
  have e3 := hz.1.h3
  have zg : g < u5.heap.size := by omega
  have zb : b < u5.heap.size := by omega
  have hlt := HLn.out
  have hl65 := HNL.out
  clear hz hi2 hp2 hws H1 HO HN HI HN1 HDg hcat H2 HP HTb t0 t1 tl HR HN4
  generalize u0.heap.size = lb at *
  generalize u4.heap.size = bb at *
  go_region
  go_upto_region 12 with fail
  have HZ2 : Hid (Dz w ((((u5.setCell ⟨lb, 0, none⟩ (.slice (some ⟨b, 0, none⟩) l2.ws.length pc)).setCell ⟨lb, 1, none⟩ (.int .i64 (l2.en : Int))).setCell ⟨r, 1, none⟩ (.int .i64 ((y.2 : Int) + 1))).drew) r lb bb (some ⟨g, 0, none⟩) lc m ls ps (y.2 + 1) (none) #[.slice (some ⟨b, 0, none⟩) l2.ws.length pc, .int .i64 (l2.en : Int)] #[.slice oa y.1.length oc, .int .i8 0, .int .u8 0, .slice none 0 0, .int .i64 0, .int .i64 0] oa oc y.1) := (HZ1.out.1.line _ _ HZ1.out.2).next
  clear HZ1 l0 l1 lf a0 a1 af k0 k1 w0 w1 zr za zg zb
  generalize (((u5.setCell ⟨lb, 0, none⟩ (.slice (some ⟨b, 0, none⟩) l2.ws.length pc)).setCell ⟨lb, 1, none⟩ (.int .i64 (l2.en : Int))).setCell ⟨r, 1, none⟩ (.int .i64 ((y.2 : Int) + 1))).drew = V at *
  obtain ⟨v0, v1⟩ := HZ2.out.q.l.word0 HI2.out HP2.out HW2.out
  have q0 := HZ2.out.q.x.c 0 _ rfl
  have q1 := HZ2.out.q.x.c 1 _ rfl
  have zr := HZ2.out.q.d.lt
  have zb : b < V.heap.size := by omega
  have HSH : Hid (ShortW l2) := HZ2.out.q.l.short HI2.out
  have HRE := HE.out
  unfold endW at HRE
  clear HE HW2
  by_cases hj : x2.2 = [106, 117, 109, 112]
  · rw [if_pos hj] at HRE
    have HB0 : Hid (Bh RES none _) := HRE
    rw [hj] at v0
    clear HRE hj
    go_wp2_with (first
      | (go_at_call_of 32 (Value.int .i64 1); refine Calls.mono (dnum_any r 1 (some ⟨b, 0, none⟩, pc) l2 _ (y.2 + 1) m (none) _ HZ2.out.q.d (HZ2.out.q.l.dw HI2.out HP2.out) HSH.out) ?_; rintro e u6 ⟨t, rfl, hv, hd, hf⟩; have HZ3 : Hid _ := HZ2.out.go hd hf; have HZ4 : Hid (Dz w (u6.setCell ⟨bb, 4, none⟩ (.int .i64 t)) r lb bb (some ⟨g, 0, none⟩) lc m ls ps (y.2 + 1) (stF (guardR none (numAt l2 1))) #[.slice (some ⟨b, 0, none⟩) l2.ws.length pc, .int .i64 (l2.en : Int)] #[.slice oa y.1.length oc, .int .i8 0, .int .u8 0, .slice none 0 0, .int .i64 t, .int .i64 0] oa oc y.1) := HZ3.out.set 4 (by simp) _; have HT : Hid _ := hv; clear hv hd hf HZ2 q0 q1; have ct := HZ3.out.b.c 4 _ rfl; have ft := HZ3.out.b.f; have pt := HZ4.out.q.x.c 0 _ rfl; have rt := HZ4.out.q.x.c 1 _ rfl; have lbt := HZ3.out.q.x.lt; have bbt := HZ3.out.b.lt)
      | (go_at_call 30; refine Calls.mono (dend_any r 2 (some ⟨b, 0, none⟩, pc) l2 _ (y.2 + 1) m (stF (guardR none (numAt l2 1))) _ HZ4.out.q.d (HZ4.out.q.l.dw HI2.out HP2.out)) ?_; rintro e u7 ⟨rfl, hd, hf⟩; have HZ5 : Hid (Dz w (u7) r lb bb (some ⟨g, 0, none⟩) lc m ls ps (y.2 + 1) (stF (guardR (stF (guardR none (numAt l2 1))) (endsR l2 2))) #[.slice (some ⟨b, 0, none⟩) l2.ws.length pc, .int .i64 (l2.en : Int)] #[.slice oa y.1.length oc, .int .i8 0, .int .u8 0, .slice none 0 0, .int .i64 t, .int .i64 0] oa oc y.1) := HZ4.out.go hd hf; clear hd hf HZ4; have x0 := HZ5.out.b.c 0 _ rfl; have x1 := HZ5.out.b.c 1 _ rfl; have x2 := HZ5.out.b.c 2 _ rfl; have x3 := HZ5.out.b.c 3 _ rfl; have x4 := HZ5.out.b.c 4 _ rfl; have x5 := HZ5.out.b.c 5 _ rfl; have y0 := HZ5.out.q.res.c 0 _ rfl; have y1 := HZ5.out.q.res.c 1 _ rfl; have y2 := HZ5.out.q.res.c 2 _ rfl; have y3 := HZ5.out.q.res.c 3 _ rfl; have y4 := HZ5.out.q.res.c 4 _ rfl; have y5 := HZ5.out.q.res.c 5 _ rfl; have yf := HZ5.out.q.res.f))
    have hx := HZ5.out
    have kk := six_at hx.q.res (.slice oa y.1.length oc) (.int .i8 0) (.int .u8 0) (.slice none 0 0) (.int .i64 t) (.int .i64 0)
    have g0 : ((((((u7.setCell ⟨w.heap.size, 0, none⟩ (.slice oa y.1.length oc)).setCell ⟨w.heap.size, 1, none⟩ (.int .i8 0)).setCell ⟨w.heap.size, 2, none⟩ (.int .u8 0)).setCell ⟨w.heap.size, 3, none⟩ (.slice none 0 0)).setCell ⟨w.heap.size, 4, none⟩ (.int .i64 t)).setCell ⟨w.heap.size, 5, none⟩ (.int .i64 0)).cell? ⟨w.heap.size, 0, none⟩ = some (.slice oa y.1.length oc) := kk.c 0 _ rfl
    have g1 : ((((((u7.setCell ⟨w.heap.size, 0, none⟩ (.slice oa y.1.length oc)).setCell ⟨w.heap.size, 1, none⟩ (.int .i8 0)).setCell ⟨w.heap.size, 2, none⟩ (.int .u8 0)).setCell ⟨w.heap.size, 3, none⟩ (.slice none 0 0)).setCell ⟨w.heap.size, 4, none⟩ (.int .i64 t)).setCell ⟨w.heap.size, 5, none⟩ (.int .i64 0)).cell? ⟨w.heap.size, 1, none⟩ = some (.int .i8 0) := kk.c 1 _ rfl
    have g2 : ((((((u7.setCell ⟨w.heap.size, 0, none⟩ (.slice oa y.1.length oc)).setCell ⟨w.heap.size, 1, none⟩ (.int .i8 0)).setCell ⟨w.heap.size, 2, none⟩ (.int .u8 0)).setCell ⟨w.heap.size, 3, none⟩ (.slice none 0 0)).setCell ⟨w.heap.size, 4, none⟩ (.int .i64 t)).setCell ⟨w.heap.size, 5, none⟩ (.int .i64 0)).cell? ⟨w.heap.size, 2, none⟩ = some (.int .u8 0) := kk.c 2 _ rfl
    have g3 : ((((((u7.setCell ⟨w.heap.size, 0, none⟩ (.slice oa y.1.length oc)).setCell ⟨w.heap.size, 1, none⟩ (.int .i8 0)).setCell ⟨w.heap.size, 2, none⟩ (.int .u8 0)).setCell ⟨w.heap.size, 3, none⟩ (.slice none 0 0)).setCell ⟨w.heap.size, 4, none⟩ (.int .i64 t)).setCell ⟨w.heap.size, 5, none⟩ (.int .i64 0)).cell? ⟨w.heap.size, 3, none⟩ = some (.slice none 0 0) := kk.c 3 _ rfl
    have g4 : ((((((u7.setCell ⟨w.heap.size, 0, none⟩ (.slice oa y.1.length oc)).setCell ⟨w.heap.size, 1, none⟩ (.int .i8 0)).setCell ⟨w.heap.size, 2, none⟩ (.int .u8 0)).setCell ⟨w.heap.size, 3, none⟩ (.slice none 0 0)).setCell ⟨w.heap.size, 4, none⟩ (.int .i64 t)).setCell ⟨w.heap.size, 5, none⟩ (.int .i64 0)).cell? ⟨w.heap.size, 4, none⟩ = some (.int .i64 t) := kk.c 4 _ rfl
    have g5 : ((((((u7.setCell ⟨w.heap.size, 0, none⟩ (.slice oa y.1.length oc)).setCell ⟨w.heap.size, 1, none⟩ (.int .i8 0)).setCell ⟨w.heap.size, 2, none⟩ (.int .u8 0)).setCell ⟨w.heap.size, 3, none⟩ (.slice none 0 0)).setCell ⟨w.heap.size, 4, none⟩ (.int .i64 t)).setCell ⟨w.heap.size, 5, none⟩ (.int .i64 0)).cell? ⟨w.heap.size, 5, none⟩ = some (.int .i64 0) := kk.c 5 _ rfl
    refine bodyPost_ret (v := .agg #[.slice oa y.1.length oc, .int .i8 0, .int .u8 0, .slice none 0 0, .int .i64 t, .int .i64 0]) (by simp [results, Tryz.results15, go_sem, g0, g1, g2, g3, g4, g5]) rfl (hx.done (row_none _ _) ((HB0.out.step (v := t) HT.out).step (v := ()) (fun _ _ => rfl)))
  rw [if_neg hj] at HRE
  have hj1 : (x2.2 == [106, 117, 109, 112]) = false := by simpa using hj
  by_cases hbr : x2.2 = [98, 114, 97, 110, 99, 104]
  · rw [if_pos hbr] at HRE
    have HB0 : Hid (Bh RES none _) := HRE
    rw [hbr] at v0
    clear HRE hj hj1 hbr
    have HA0 : Hid (Dz w (V.setCell ⟨bb, 1, none⟩ (.int .i8 1)) r lb bb (some ⟨g, 0, none⟩) lc m ls ps (y.2 + 1) (none) #[.slice (some ⟨b, 0, none⟩) l2.ws.length pc, .int .i64 (l2.en : Int)] #[.slice oa y.1.length oc, .int .i8 1, .int .u8 0, .slice none 0 0, .int .i64 0, .int .i64 0] oa oc y.1) := HZ2.out.set 1 (by simp) _
    have m1 := HZ2.out.b.c 1 _ rfl
    have mf := HZ2.out.b.f
    have mq := HZ2.out.b.lt
    go_wp2_with (first
      | (go_at_call 33; refine Calls.mono (dreg_any r 1 (some ⟨b, 0, none⟩, pc) l2 _ (y.2 + 1) m (none) _ HA0.out.q.d (HA0.out.q.l.dw HI2.out HP2.out) HSH.out) ?_; rintro e u6 ⟨a, rfl, hv, hd, hf⟩; have HA1 : Hid _ := HA0.out.go hd hf; have HA2 : Hid (Dz w (u6.setCell ⟨bb, 2, none⟩ (.int .u8 a)) r lb bb (some ⟨g, 0, none⟩) lc m ls ps (y.2 + 1) (stF (guardR none (regAt l2 1))) #[.slice (some ⟨b, 0, none⟩) l2.ws.length pc, .int .i64 (l2.en : Int)] #[.slice oa y.1.length oc, .int .i8 1, .int .u8 a, .slice none 0 0, .int .i64 0, .int .i64 0] oa oc y.1) := HA1.out.set 2 (by simp) _; have HVA : Hid _ := hv; clear hv hd hf HA0 q0 q1; have ca := HA1.out.b.c 2 _ rfl; have fa := HA1.out.b.f; have pa := HA2.out.q.x.c 0 _ rfl; have ra := HA2.out.q.x.c 1 _ rfl; have lba := HA1.out.q.x.lt; have bba := HA1.out.b.lt)
      | (go_at_call_of 32 (Value.int .i64 2); refine Calls.mono (dnum_any r 2 (some ⟨b, 0, none⟩, pc) l2 _ (y.2 + 1) m (stF (guardR none (regAt l2 1))) _ HA2.out.q.d (HA2.out.q.l.dw HI2.out HP2.out) HSH.out) ?_; rintro e u7 ⟨t, rfl, hv, hd, hf⟩; have HA3 : Hid _ := HA2.out.go hd hf; have HA4 : Hid (Dz w (u7.setCell ⟨bb, 4, none⟩ (.int .i64 t)) r lb bb (some ⟨g, 0, none⟩) lc m ls ps (y.2 + 1) (stF (guardR (stF (guardR none (regAt l2 1))) (numAt l2 2))) #[.slice (some ⟨b, 0, none⟩) l2.ws.length pc, .int .i64 (l2.en : Int)] #[.slice oa y.1.length oc, .int .i8 1, .int .u8 a, .slice none 0 0, .int .i64 t, .int .i64 0] oa oc y.1) := HA3.out.set 4 (by simp) _; have HVT : Hid _ := hv; clear hv hd hf HA2 pa ra; have ct := HA3.out.b.c 4 _ rfl; have ft := HA3.out.b.f; have pt := HA4.out.q.x.c 0 _ rfl; have rt := HA4.out.q.x.c 1 _ rfl; have lbt := HA3.out.q.x.lt; have bbt := HA3.out.b.lt)
      | (go_at_call_of 32 (Value.int .i64 3); refine Calls.mono (dnum_any r 3 (some ⟨b, 0, none⟩, pc) l2 _ (y.2 + 1) m (stF (guardR (stF (guardR none (regAt l2 1))) (numAt l2 2))) _ HA4.out.q.d (HA4.out.q.l.dw HI2.out HP2.out) HSH.out) ?_; rintro e u8 ⟨el, rfl, hv, hd, hf⟩; have HA5 : Hid _ := HA4.out.go hd hf; have HA6 : Hid (Dz w (u8.setCell ⟨bb, 5, none⟩ (.int .i64 el)) r lb bb (some ⟨g, 0, none⟩) lc m ls ps (y.2 + 1) (stF (guardR (stF (guardR (stF (guardR none (regAt l2 1))) (numAt l2 2))) (numAt l2 3))) #[.slice (some ⟨b, 0, none⟩) l2.ws.length pc, .int .i64 (l2.en : Int)] #[.slice oa y.1.length oc, .int .i8 1, .int .u8 a, .slice none 0 0, .int .i64 t, .int .i64 el] oa oc y.1) := HA5.out.set 5 (by simp) _; have HVE : Hid _ := hv; clear hv hd hf HA4 pt rt; have cel := HA5.out.b.c 5 _ rfl; have fel := HA5.out.b.f; have pel := HA6.out.q.x.c 0 _ rfl; have rel := HA6.out.q.x.c 1 _ rfl; have lbel := HA5.out.q.x.lt; have bbel := HA5.out.b.lt)
      | (go_at_call 30; refine Calls.mono (dend_any r 4 (some ⟨b, 0, none⟩, pc) l2 _ (y.2 + 1) m (stF (guardR (stF (guardR (stF (guardR none (regAt l2 1))) (numAt l2 2))) (numAt l2 3))) _ HA6.out.q.d (HA6.out.q.l.dw HI2.out HP2.out)) ?_; rintro e u9 ⟨rfl, hd, hf⟩; have HA7 : Hid (Dz w (u9) r lb bb (some ⟨g, 0, none⟩) lc m ls ps (y.2 + 1) (stF (guardR (stF (guardR (stF (guardR (stF (guardR none (regAt l2 1))) (numAt l2 2))) (numAt l2 3))) (endsR l2 4))) #[.slice (some ⟨b, 0, none⟩) l2.ws.length pc, .int .i64 (l2.en : Int)] #[.slice oa y.1.length oc, .int .i8 1, .int .u8 a, .slice none 0 0, .int .i64 t, .int .i64 el] oa oc y.1) := HA6.out.go hd hf; clear hd hf HA6; have x0 := HA7.out.b.c 0 _ rfl; have x1 := HA7.out.b.c 1 _ rfl; have x2 := HA7.out.b.c 2 _ rfl; have x3 := HA7.out.b.c 3 _ rfl; have x4 := HA7.out.b.c 4 _ rfl; have x5 := HA7.out.b.c 5 _ rfl; have y0 := HA7.out.q.res.c 0 _ rfl; have y1 := HA7.out.q.res.c 1 _ rfl; have y2 := HA7.out.q.res.c 2 _ rfl; have y3 := HA7.out.q.res.c 3 _ rfl; have y4 := HA7.out.q.res.c 4 _ rfl; have y5 := HA7.out.q.res.c 5 _ rfl; have yf := HA7.out.q.res.f))
    have hx := HA7.out
    have kk := six_at hx.q.res (.slice oa y.1.length oc) (.int .i8 1) (.int .u8 a) (.slice none 0 0) (.int .i64 t) (.int .i64 el)
    have g0 : ((((((u9.setCell ⟨w.heap.size, 0, none⟩ (.slice oa y.1.length oc)).setCell ⟨w.heap.size, 1, none⟩ (.int .i8 1)).setCell ⟨w.heap.size, 2, none⟩ (.int .u8 a)).setCell ⟨w.heap.size, 3, none⟩ (.slice none 0 0)).setCell ⟨w.heap.size, 4, none⟩ (.int .i64 t)).setCell ⟨w.heap.size, 5, none⟩ (.int .i64 el)).cell? ⟨w.heap.size, 0, none⟩ = some (.slice oa y.1.length oc) := kk.c 0 _ rfl
    have g1 : ((((((u9.setCell ⟨w.heap.size, 0, none⟩ (.slice oa y.1.length oc)).setCell ⟨w.heap.size, 1, none⟩ (.int .i8 1)).setCell ⟨w.heap.size, 2, none⟩ (.int .u8 a)).setCell ⟨w.heap.size, 3, none⟩ (.slice none 0 0)).setCell ⟨w.heap.size, 4, none⟩ (.int .i64 t)).setCell ⟨w.heap.size, 5, none⟩ (.int .i64 el)).cell? ⟨w.heap.size, 1, none⟩ = some (.int .i8 1) := kk.c 1 _ rfl
    have g2 : ((((((u9.setCell ⟨w.heap.size, 0, none⟩ (.slice oa y.1.length oc)).setCell ⟨w.heap.size, 1, none⟩ (.int .i8 1)).setCell ⟨w.heap.size, 2, none⟩ (.int .u8 a)).setCell ⟨w.heap.size, 3, none⟩ (.slice none 0 0)).setCell ⟨w.heap.size, 4, none⟩ (.int .i64 t)).setCell ⟨w.heap.size, 5, none⟩ (.int .i64 el)).cell? ⟨w.heap.size, 2, none⟩ = some (.int .u8 a) := kk.c 2 _ rfl
    have g3 : ((((((u9.setCell ⟨w.heap.size, 0, none⟩ (.slice oa y.1.length oc)).setCell ⟨w.heap.size, 1, none⟩ (.int .i8 1)).setCell ⟨w.heap.size, 2, none⟩ (.int .u8 a)).setCell ⟨w.heap.size, 3, none⟩ (.slice none 0 0)).setCell ⟨w.heap.size, 4, none⟩ (.int .i64 t)).setCell ⟨w.heap.size, 5, none⟩ (.int .i64 el)).cell? ⟨w.heap.size, 3, none⟩ = some (.slice none 0 0) := kk.c 3 _ rfl
    have g4 : ((((((u9.setCell ⟨w.heap.size, 0, none⟩ (.slice oa y.1.length oc)).setCell ⟨w.heap.size, 1, none⟩ (.int .i8 1)).setCell ⟨w.heap.size, 2, none⟩ (.int .u8 a)).setCell ⟨w.heap.size, 3, none⟩ (.slice none 0 0)).setCell ⟨w.heap.size, 4, none⟩ (.int .i64 t)).setCell ⟨w.heap.size, 5, none⟩ (.int .i64 el)).cell? ⟨w.heap.size, 4, none⟩ = some (.int .i64 t) := kk.c 4 _ rfl
    have g5 : ((((((u9.setCell ⟨w.heap.size, 0, none⟩ (.slice oa y.1.length oc)).setCell ⟨w.heap.size, 1, none⟩ (.int .i8 1)).setCell ⟨w.heap.size, 2, none⟩ (.int .u8 a)).setCell ⟨w.heap.size, 3, none⟩ (.slice none 0 0)).setCell ⟨w.heap.size, 4, none⟩ (.int .i64 t)).setCell ⟨w.heap.size, 5, none⟩ (.int .i64 el)).cell? ⟨w.heap.size, 5, none⟩ = some (.int .i64 el) := kk.c 5 _ rfl
    refine bodyPost_ret (v := .agg #[.slice oa y.1.length oc, .int .i8 1, .int .u8 a, .slice none 0 0, .int .i64 t, .int .i64 el]) (by simp [results, Tryz.results15, go_sem, g0, g1, g2, g3, g4, g5]) rfl (hx.done (row_none _ _) ((((HB0.out.step (v := a) HVA.out).step (v := t) HVT.out).step (v := el) HVE.out).step (v := ()) (fun _ _ => rfl)))
  rw [if_neg hbr] at HRE
  have hb1 : (x2.2 == [98, 114, 97, 110, 99, 104]) = false := by simpa using hbr
  by_cases hh : x2.2 = [104, 97, 108, 116]
  · rw [if_pos hh] at HRE
    have HB0 : Hid (Bh RES none _) := HRE
    rw [hh] at v0
    clear HRE hj hj1 hbr hb1 hh
    have HA0 : Hid (Dz w (V.setCell ⟨bb, 1, none⟩ (.int .i8 2)) r lb bb (some ⟨g, 0, none⟩) lc m ls ps (y.2 + 1) (none) #[.slice (some ⟨b, 0, none⟩) l2.ws.length pc, .int .i64 (l2.en : Int)] #[.slice oa y.1.length oc, .int .i8 2, .int .u8 0, .slice none 0 0, .int .i64 0, .int .i64 0] oa oc y.1) := HZ2.out.set 1 (by simp) _
    have m1 := HZ2.out.b.c 1 _ rfl
    have mf := HZ2.out.b.f
    have mq := HZ2.out.b.lt
    go_wp2_with (first
      | (go_at_call 33; refine Calls.mono (dreg_any r 1 (some ⟨b, 0, none⟩, pc) l2 _ (y.2 + 1) m (none) _ HA0.out.q.d (HA0.out.q.l.dw HI2.out HP2.out) HSH.out) ?_; rintro e u6 ⟨a, rfl, hv, hd, hf⟩; have HA1 : Hid _ := HA0.out.go hd hf; have HA2 : Hid (Dz w (u6.setCell ⟨bb, 2, none⟩ (.int .u8 a)) r lb bb (some ⟨g, 0, none⟩) lc m ls ps (y.2 + 1) (stF (guardR none (regAt l2 1))) #[.slice (some ⟨b, 0, none⟩) l2.ws.length pc, .int .i64 (l2.en : Int)] #[.slice oa y.1.length oc, .int .i8 2, .int .u8 a, .slice none 0 0, .int .i64 0, .int .i64 0] oa oc y.1) := HA1.out.set 2 (by simp) _; have HVA : Hid _ := hv; clear hv hd hf HA0 q0 q1; have ca := HA1.out.b.c 2 _ rfl; have fa := HA1.out.b.f; have pa := HA2.out.q.x.c 0 _ rfl; have ra := HA2.out.q.x.c 1 _ rfl; have lba := HA1.out.q.x.lt; have bba := HA1.out.b.lt)
      | (go_at_call 30; refine Calls.mono (dend_any r 2 (some ⟨b, 0, none⟩, pc) l2 _ (y.2 + 1) m (stF (guardR none (regAt l2 1))) _ HA2.out.q.d (HA2.out.q.l.dw HI2.out HP2.out)) ?_; rintro e u9 ⟨rfl, hd, hf⟩; have HA7 : Hid (Dz w (u9) r lb bb (some ⟨g, 0, none⟩) lc m ls ps (y.2 + 1) (stF (guardR (stF (guardR none (regAt l2 1))) (endsR l2 2))) #[.slice (some ⟨b, 0, none⟩) l2.ws.length pc, .int .i64 (l2.en : Int)] #[.slice oa y.1.length oc, .int .i8 2, .int .u8 a, .slice none 0 0, .int .i64 0, .int .i64 0] oa oc y.1) := HA2.out.go hd hf; clear hd hf HA2; have x0 := HA7.out.b.c 0 _ rfl; have x1 := HA7.out.b.c 1 _ rfl; have x2 := HA7.out.b.c 2 _ rfl; have x3 := HA7.out.b.c 3 _ rfl; have x4 := HA7.out.b.c 4 _ rfl; have x5 := HA7.out.b.c 5 _ rfl; have y0 := HA7.out.q.res.c 0 _ rfl; have y1 := HA7.out.q.res.c 1 _ rfl; have y2 := HA7.out.q.res.c 2 _ rfl; have y3 := HA7.out.q.res.c 3 _ rfl; have y4 := HA7.out.q.res.c 4 _ rfl; have y5 := HA7.out.q.res.c 5 _ rfl; have yf := HA7.out.q.res.f))
    have hx := HA7.out
    have kk := six_at hx.q.res (.slice oa y.1.length oc) (.int .i8 2) (.int .u8 a) (.slice none 0 0) (.int .i64 0) (.int .i64 0)
    have g0 : ((((((u9.setCell ⟨w.heap.size, 0, none⟩ (.slice oa y.1.length oc)).setCell ⟨w.heap.size, 1, none⟩ (.int .i8 2)).setCell ⟨w.heap.size, 2, none⟩ (.int .u8 a)).setCell ⟨w.heap.size, 3, none⟩ (.slice none 0 0)).setCell ⟨w.heap.size, 4, none⟩ (.int .i64 0)).setCell ⟨w.heap.size, 5, none⟩ (.int .i64 0)).cell? ⟨w.heap.size, 0, none⟩ = some (.slice oa y.1.length oc) := kk.c 0 _ rfl
    have g1 : ((((((u9.setCell ⟨w.heap.size, 0, none⟩ (.slice oa y.1.length oc)).setCell ⟨w.heap.size, 1, none⟩ (.int .i8 2)).setCell ⟨w.heap.size, 2, none⟩ (.int .u8 a)).setCell ⟨w.heap.size, 3, none⟩ (.slice none 0 0)).setCell ⟨w.heap.size, 4, none⟩ (.int .i64 0)).setCell ⟨w.heap.size, 5, none⟩ (.int .i64 0)).cell? ⟨w.heap.size, 1, none⟩ = some (.int .i8 2) := kk.c 1 _ rfl
    have g2 : ((((((u9.setCell ⟨w.heap.size, 0, none⟩ (.slice oa y.1.length oc)).setCell ⟨w.heap.size, 1, none⟩ (.int .i8 2)).setCell ⟨w.heap.size, 2, none⟩ (.int .u8 a)).setCell ⟨w.heap.size, 3, none⟩ (.slice none 0 0)).setCell ⟨w.heap.size, 4, none⟩ (.int .i64 0)).setCell ⟨w.heap.size, 5, none⟩ (.int .i64 0)).cell? ⟨w.heap.size, 2, none⟩ = some (.int .u8 a) := kk.c 2 _ rfl
    have g3 : ((((((u9.setCell ⟨w.heap.size, 0, none⟩ (.slice oa y.1.length oc)).setCell ⟨w.heap.size, 1, none⟩ (.int .i8 2)).setCell ⟨w.heap.size, 2, none⟩ (.int .u8 a)).setCell ⟨w.heap.size, 3, none⟩ (.slice none 0 0)).setCell ⟨w.heap.size, 4, none⟩ (.int .i64 0)).setCell ⟨w.heap.size, 5, none⟩ (.int .i64 0)).cell? ⟨w.heap.size, 3, none⟩ = some (.slice none 0 0) := kk.c 3 _ rfl
    have g4 : ((((((u9.setCell ⟨w.heap.size, 0, none⟩ (.slice oa y.1.length oc)).setCell ⟨w.heap.size, 1, none⟩ (.int .i8 2)).setCell ⟨w.heap.size, 2, none⟩ (.int .u8 a)).setCell ⟨w.heap.size, 3, none⟩ (.slice none 0 0)).setCell ⟨w.heap.size, 4, none⟩ (.int .i64 0)).setCell ⟨w.heap.size, 5, none⟩ (.int .i64 0)).cell? ⟨w.heap.size, 4, none⟩ = some (.int .i64 0) := kk.c 4 _ rfl
    have g5 : ((((((u9.setCell ⟨w.heap.size, 0, none⟩ (.slice oa y.1.length oc)).setCell ⟨w.heap.size, 1, none⟩ (.int .i8 2)).setCell ⟨w.heap.size, 2, none⟩ (.int .u8 a)).setCell ⟨w.heap.size, 3, none⟩ (.slice none 0 0)).setCell ⟨w.heap.size, 4, none⟩ (.int .i64 0)).setCell ⟨w.heap.size, 5, none⟩ (.int .i64 0)).cell? ⟨w.heap.size, 5, none⟩ = some (.int .i64 0) := kk.c 5 _ rfl
    refine bodyPost_ret (v := .agg #[.slice oa y.1.length oc, .int .i8 2, .int .u8 a, .slice none 0 0, .int .i64 0, .int .i64 0]) (by simp [results, Tryz.results15, go_sem, g0, g1, g2, g3, g4, g5]) rfl (hx.done (row_none _ _) ((HB0.out.step (v := a) HVA.out).step (v := ()) (fun _ _ => rfl)))
  rw [if_neg hh] at HRE
  have hh1 : (x2.2 == [104, 97, 108, 116]) = false := by simpa using hh
  by_cases hlo : x2.2 = [108, 111, 111, 112]
  · rw [if_pos hlo] at HRE
    have HB0 : Hid (Bh RES none _) := HRE
    rw [hlo] at v0
    clear HRE hj hj1 hbr hb1 hh hh1 hlo
    go_wp2_with (first
      | (go_at_call 34; refine Calls.mono (dloop_any r bb y.2 (some ⟨b, 0, none⟩, pc) l2 _ ls ps lc (y.2 + 1) m none _ _ _ HZ2.out.q.d HZ2.out.q.l HI2.out HP2.out hlt HZ2.out.b (by omega)) ?_; rintro e u6 ⟨a, t, bv, bd, n, rfl, hd, hl, hb, hrow, hf, hv⟩; obtain ⟨ba, bc, rfl⟩ := row_slice hrow; have HA7 : Hid (Dz w (u6) r lb bb (some ⟨g, 0, none⟩) lc m ls ps n (stF (guardR none (loopD l2 ls (y.2 + 1) m))) #[.slice (some ⟨b, 0, none⟩) l2.ws.length pc, .int .i64 (l2.en : Int)] #[.slice oa y.1.length oc, .int .i8 3, .int .u8 a, .slice ba bd.length bc, .int .i64 t, .int .i64 0] oa oc y.1) := HZ2.out.loop hd hl hb hf; have HRW : Hid (u6.ownsRow (w.heap.size + 1) 67 5 (.slice ba bd.length bc) bd.length (ocells bd)) := row_le hrow (by have := HZ2.out.q.x.lt; omega); have HV : Hid _ := hv; clear hd hl hb hrow hf hv HZ2; have x0 := HA7.out.b.c 0 _ rfl; have x1 := HA7.out.b.c 1 _ rfl; have x2 := HA7.out.b.c 2 _ rfl; have x3 := HA7.out.b.c 3 _ rfl; have x4 := HA7.out.b.c 4 _ rfl; have x5 := HA7.out.b.c 5 _ rfl; have y0 := HA7.out.q.res.c 0 _ rfl; have y1 := HA7.out.q.res.c 1 _ rfl; have y2 := HA7.out.q.res.c 2 _ rfl; have y3 := HA7.out.q.res.c 3 _ rfl; have y4 := HA7.out.q.res.c 4 _ rfl; have y5 := HA7.out.q.res.c 5 _ rfl; have yf := HA7.out.q.res.f))
    have hx := HA7.out
    have kk := six_at hx.q.res (.slice oa y.1.length oc) (.int .i8 3) (.int .u8 a) (.slice ba bd.length bc) (.int .i64 t) (.int .i64 0)
    have g0 : ((((((u6.setCell ⟨w.heap.size, 0, none⟩ (.slice oa y.1.length oc)).setCell ⟨w.heap.size, 1, none⟩ (.int .i8 3)).setCell ⟨w.heap.size, 2, none⟩ (.int .u8 a)).setCell ⟨w.heap.size, 3, none⟩ (.slice ba bd.length bc)).setCell ⟨w.heap.size, 4, none⟩ (.int .i64 t)).setCell ⟨w.heap.size, 5, none⟩ (.int .i64 0)).cell? ⟨w.heap.size, 0, none⟩ = some (.slice oa y.1.length oc) := kk.c 0 _ rfl
    have g1 : ((((((u6.setCell ⟨w.heap.size, 0, none⟩ (.slice oa y.1.length oc)).setCell ⟨w.heap.size, 1, none⟩ (.int .i8 3)).setCell ⟨w.heap.size, 2, none⟩ (.int .u8 a)).setCell ⟨w.heap.size, 3, none⟩ (.slice ba bd.length bc)).setCell ⟨w.heap.size, 4, none⟩ (.int .i64 t)).setCell ⟨w.heap.size, 5, none⟩ (.int .i64 0)).cell? ⟨w.heap.size, 1, none⟩ = some (.int .i8 3) := kk.c 1 _ rfl
    have g2 : ((((((u6.setCell ⟨w.heap.size, 0, none⟩ (.slice oa y.1.length oc)).setCell ⟨w.heap.size, 1, none⟩ (.int .i8 3)).setCell ⟨w.heap.size, 2, none⟩ (.int .u8 a)).setCell ⟨w.heap.size, 3, none⟩ (.slice ba bd.length bc)).setCell ⟨w.heap.size, 4, none⟩ (.int .i64 t)).setCell ⟨w.heap.size, 5, none⟩ (.int .i64 0)).cell? ⟨w.heap.size, 2, none⟩ = some (.int .u8 a) := kk.c 2 _ rfl
    have g3 : ((((((u6.setCell ⟨w.heap.size, 0, none⟩ (.slice oa y.1.length oc)).setCell ⟨w.heap.size, 1, none⟩ (.int .i8 3)).setCell ⟨w.heap.size, 2, none⟩ (.int .u8 a)).setCell ⟨w.heap.size, 3, none⟩ (.slice ba bd.length bc)).setCell ⟨w.heap.size, 4, none⟩ (.int .i64 t)).setCell ⟨w.heap.size, 5, none⟩ (.int .i64 0)).cell? ⟨w.heap.size, 3, none⟩ = some (.slice ba bd.length bc) := kk.c 3 _ rfl
    have g4 : ((((((u6.setCell ⟨w.heap.size, 0, none⟩ (.slice oa y.1.length oc)).setCell ⟨w.heap.size, 1, none⟩ (.int .i8 3)).setCell ⟨w.heap.size, 2, none⟩ (.int .u8 a)).setCell ⟨w.heap.size, 3, none⟩ (.slice ba bd.length bc)).setCell ⟨w.heap.size, 4, none⟩ (.int .i64 t)).setCell ⟨w.heap.size, 5, none⟩ (.int .i64 0)).cell? ⟨w.heap.size, 4, none⟩ = some (.int .i64 t) := kk.c 4 _ rfl
    have g5 : ((((((u6.setCell ⟨w.heap.size, 0, none⟩ (.slice oa y.1.length oc)).setCell ⟨w.heap.size, 1, none⟩ (.int .i8 3)).setCell ⟨w.heap.size, 2, none⟩ (.int .u8 a)).setCell ⟨w.heap.size, 3, none⟩ (.slice ba bd.length bc)).setCell ⟨w.heap.size, 4, none⟩ (.int .i64 t)).setCell ⟨w.heap.size, 5, none⟩ (.int .i64 0)).cell? ⟨w.heap.size, 5, none⟩ = some (.int .i64 0) := kk.c 5 _ rfl
    refine bodyPost_ret (v := .agg #[.slice oa y.1.length oc, .int .i8 3, .int .u8 a, .slice ba bd.length bc, .int .i64 t, .int .i64 0]) (by simp [results, Tryz.results15, go_sem, g0, g1, g2, g3, g4, g5]) rfl (hx.done (HRW.out) (HB0.out.step (v := (a, bd, t, n)) (fun z hz => (HV.out z hz).symm)))
  rw [if_neg hlo] at HRE
  have hl1 : (x2.2 == [108, 111, 111, 112]) = false := by simpa using hlo
  have HR2 : Hid _ := HRE
  clear HRE hj hbr hh hlo
  go_wp2
  go_region_with (first | (go_at_call 26; refine Calls.mono (dfail_any r x2.1 x2.2 _ (y.2 + 1) m none _ (HZ2.out.q.d.below (Below.refl _ _).drew)) ?_; rintro e u6 ⟨rfl, hd, hf⟩; have HA7 : Hid (Dz w (u6) r lb bb (some ⟨g, 0, none⟩) lc m ls ps (y.2 + 1) (some x2) #[.slice (some ⟨b, 0, none⟩) l2.ws.length pc, .int .i64 (l2.en : Int)] #[.slice oa y.1.length oc, .int .i8 0, .int .u8 0, .slice none 0 0, .int .i64 0, .int .i64 0] oa oc y.1) := (HZ2.out.up (Below.refl _ _).drew).go hd hf; clear hd hf; have x0 := HA7.out.b.c 0 _ rfl; have x1 := HA7.out.b.c 1 _ rfl; have x2 := HA7.out.b.c 2 _ rfl; have x3 := HA7.out.b.c 3 _ rfl; have x4 := HA7.out.b.c 4 _ rfl; have x5 := HA7.out.b.c 5 _ rfl; have y0 := HA7.out.q.res.c 0 _ rfl; have y1 := HA7.out.q.res.c 1 _ rfl; have y2 := HA7.out.q.res.c 2 _ rfl; have y3 := HA7.out.q.res.c 3 _ rfl; have y4 := HA7.out.q.res.c 4 _ rfl; have y5 := HA7.out.q.res.c 5 _ rfl; have yf := HA7.out.q.res.f))
  all_goals go_wp2
  all_goals
    have hx := HA7.out
    have kk := six_at hx.q.res (.slice oa y.1.length oc) (.int .i8 0) (.int .u8 0) (.slice none 0 0) (.int .i64 0) (.int .i64 0)
    have g0 : ((((((u6.setCell ⟨w.heap.size, 0, none⟩ (.slice oa y.1.length oc)).setCell ⟨w.heap.size, 1, none⟩ (.int .i8 0)).setCell ⟨w.heap.size, 2, none⟩ (.int .u8 0)).setCell ⟨w.heap.size, 3, none⟩ (.slice none 0 0)).setCell ⟨w.heap.size, 4, none⟩ (.int .i64 0)).setCell ⟨w.heap.size, 5, none⟩ (.int .i64 0)).cell? ⟨w.heap.size, 0, none⟩ = some (.slice oa y.1.length oc) := kk.c 0 _ rfl
    have g1 : ((((((u6.setCell ⟨w.heap.size, 0, none⟩ (.slice oa y.1.length oc)).setCell ⟨w.heap.size, 1, none⟩ (.int .i8 0)).setCell ⟨w.heap.size, 2, none⟩ (.int .u8 0)).setCell ⟨w.heap.size, 3, none⟩ (.slice none 0 0)).setCell ⟨w.heap.size, 4, none⟩ (.int .i64 0)).setCell ⟨w.heap.size, 5, none⟩ (.int .i64 0)).cell? ⟨w.heap.size, 1, none⟩ = some (.int .i8 0) := kk.c 1 _ rfl
    have g2 : ((((((u6.setCell ⟨w.heap.size, 0, none⟩ (.slice oa y.1.length oc)).setCell ⟨w.heap.size, 1, none⟩ (.int .i8 0)).setCell ⟨w.heap.size, 2, none⟩ (.int .u8 0)).setCell ⟨w.heap.size, 3, none⟩ (.slice none 0 0)).setCell ⟨w.heap.size, 4, none⟩ (.int .i64 0)).setCell ⟨w.heap.size, 5, none⟩ (.int .i64 0)).cell? ⟨w.heap.size, 2, none⟩ = some (.int .u8 0) := kk.c 2 _ rfl
    have g3 : ((((((u6.setCell ⟨w.heap.size, 0, none⟩ (.slice oa y.1.length oc)).setCell ⟨w.heap.size, 1, none⟩ (.int .i8 0)).setCell ⟨w.heap.size, 2, none⟩ (.int .u8 0)).setCell ⟨w.heap.size, 3, none⟩ (.slice none 0 0)).setCell ⟨w.heap.size, 4, none⟩ (.int .i64 0)).setCell ⟨w.heap.size, 5, none⟩ (.int .i64 0)).cell? ⟨w.heap.size, 3, none⟩ = some (.slice none 0 0) := kk.c 3 _ rfl
    have g4 : ((((((u6.setCell ⟨w.heap.size, 0, none⟩ (.slice oa y.1.length oc)).setCell ⟨w.heap.size, 1, none⟩ (.int .i8 0)).setCell ⟨w.heap.size, 2, none⟩ (.int .u8 0)).setCell ⟨w.heap.size, 3, none⟩ (.slice none 0 0)).setCell ⟨w.heap.size, 4, none⟩ (.int .i64 0)).setCell ⟨w.heap.size, 5, none⟩ (.int .i64 0)).cell? ⟨w.heap.size, 4, none⟩ = some (.int .i64 0) := kk.c 4 _ rfl
    have g5 : ((((((u6.setCell ⟨w.heap.size, 0, none⟩ (.slice oa y.1.length oc)).setCell ⟨w.heap.size, 1, none⟩ (.int .i8 0)).setCell ⟨w.heap.size, 2, none⟩ (.int .u8 0)).setCell ⟨w.heap.size, 3, none⟩ (.slice none 0 0)).setCell ⟨w.heap.size, 4, none⟩ (.int .i64 0)).setCell ⟨w.heap.size, 5, none⟩ (.int .i64 0)).cell? ⟨w.heap.size, 5, none⟩ = some (.int .i64 0) := kk.c 5 _ rfl
    refine bodyPost_ret (v := .agg #[.slice oa y.1.length oc, .int .i8 0, .int .u8 0, .slice none 0 0, .int .i64 0, .int .i64 0]) (by simp [results, Tryz.results15, go_sem, g0, g1, g2, g3, g4, g5]) rfl (hx.done (row_none _ _) HR2.out)
end Go.Proofs.YthfchelkfbboaaaGreatDoor.Pr
