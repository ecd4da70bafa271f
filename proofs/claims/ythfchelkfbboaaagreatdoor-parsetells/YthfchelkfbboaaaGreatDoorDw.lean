/- The document's reader: what loop answers of a loop's lines: read off the program by the walk. Conditions: the reader and the lines lie in memory. -/
import Derived.Test.YthfchelkfbboaaaGreatDoorDv
namespace Go.Proofs.YthfchelkfbboaaaGreatDoor.Pr
open Go.ChangeShapes Go.WideShapes Go.ChangeAt Go.RowKit
open _root_.Go.Proofs.YthfchelkfbboaaaGreatDoor.Op
set_option maxRecDepth 20000

abbrev Two (q b : Nat) : Nat → Prop := fun k => k = q ∨ k = b
/-- What is known behind a step. -/
def Bh {β : Type} (RES : R β) (fl : Option Wd') (c : R β) : Prop := match fl with | some f => RES = .no f | none => RES = c
theorem Bh.step {α β : Type} {RES : R β} {fl : Option Wd'} {x : R α} {g : α → R β} {v : α} (h : Bh RES fl (x.bind g)) (hv : ∀ v0, guardR fl x = .ok v0 → v = v0) : Bh RES (stF (guardR fl x)) (g v) := by
  cases fl with
  | some f => exact h
  | none =>
    cases x with
    | no e => exact h
    | ok a => have := hv a rfl; subst this; exact h
theorem Bh.start {β : Type} (fl : Option Wd') (c : R β) : Bh (guardR fl c) fl c := by cases fl <;> rfl
theorem Bh.done {β : Type} {RES : R β} {fl : Option Wd'} {z : β} (h : Bh RES fl (.ok z)) : stF RES = fl ∧ ∀ z0, RES = .ok z0 → z0 = z := by
  cases fl with
  | some f => have h : RES = .no f := h; subst h; exact ⟨rfl, fun _ h => by cases h⟩
  | none => have h : RES = .ok z := h; subst h; exact ⟨rfl, fun _ h => by cases h; rfl⟩
theorem Bh.dead {β : Type} {RES : R β} {f : Wd'} {c : R β} (h : Bh RES (some f) c) (c' : R β) : Bh RES (some f) c' := h
theorem bh_no {α β : Type} {RES : R β} {fl : Option Wd'} {x : R α} {g : α → R β} {f : Wd'} (h : Bh RES fl (x.bind g)) (e : guardR fl x = .no f) : RES = .no f := by
  cases fl with
  | some f' => cases e; exact h
  | none => have e : x = .no f := e; subst e; exact h
theorem bh_ok {α β : Type} {RES : R β} {fl : Option Wd'} {x : R α} {g : α → R β} {a : α} (h : Bh RES fl (x.bind g)) (e : guardR fl x = .ok a) : RES = g a := by
  cases fl with
  | some f' => cases e
  | none => have e : x = .ok a := e; subst e; exact h
theorem row_slice {w : World} {B : Nat} {e : TypeId} {z : Nat} {v : Value} {n : Nat} {xs : List Value} (h : w.ownsRow B e z v n xs) : ∃ a c, v = .slice a n c := by
  rcases h.2 with ⟨rfl, h0⟩ | ⟨g, cap, cur, rfl, _⟩
  · exact ⟨none, 0, by rw [h0]⟩
  · exact ⟨_, _, rfl⟩
/-- The line that comes, if its first word is this one. -/
theorem dline_any (r : Nat) (s : List UInt8) (la : Option Addr) (ls : List Ln) (ps : List Pw) (lc nx m : Nat) (fl : Option Wd') (w : World) (h : Dr w r (.slice la ls.length lc) nx m fl) (hd : DL w r la ls ps) :
    Calls Tryz.prog 27 #[.pointer (some ⟨r, 0, none⟩), .string ⟨s.toArray⟩] w fun e w' => match guardR fl (lnR s ls nx m) with
      | .ok l => ∃ p, ps[nx]? = some p ∧ ls[nx]? = some l ∧ e = .returned (.tuple #[.agg #[.slice p.1 l.ws.length p.2, .int .i64 (l.en : Int)], .bool true]) ∧ Dr w' r (.slice la ls.length lc) (nx + 1) m none ∧ Fr (One r) w w'
      | .no f => e = .returned (.tuple #[.agg #[.slice none 0 0, .int .i64 0], .bool false]) ∧ Dr w' r (.slice la ls.length lc) nx m (some f) ∧ Fr (One r) w w' := by
  have hx := dfirst_any r s la ls ps lc nx m fl w h hd
  rw [first_ln, guard_bind] at hx
  cases hg : guardR fl (lnR s ls nx m) with
  | no f => rw [hg] at hx; exact hx
  | ok l =>
    rw [hg] at hx
    refine hx.mono ?_
    rintro e w' ⟨p, l', h1, h2, h3, h4, h5⟩
    have hl : ls[nx]? = some l := by
      cases fl with
      | some f => cases hg
      | none => exact (ln_some hg).1
    rw [hl] at h2
    cases h2
    exact ⟨p, h1, hl, h3, h4, h5⟩
/-- A loop's lines under way. -/
structure Lq (w V : World) (r bb : Nat) (la : Option Addr) (lc m : Nat) (ls : List Ln) (ps : List Pw) (n : Nat) (fl : Option Wd') (lx cs : Array Value) (bv : Value) (os : List O) : Prop where
  d : Dr V r (.slice la ls.length lc) n m fl
  l : DL V r la ls ps
  x : At V w.heap.size lx
  b : At V bb cs
  row : V.ownsRow w.heap.size 67 5 bv os.length (ocells os)
  f : Fr (Two r bb) w V
  h1 : r < bb
  h2 : bb < w.heap.size
section
variable {w V V' : World} {r bb : Nat} {la : Option Addr} {lc m : Nat} {ls : List Ln} {ps : List Pw} {n n' : Nat} {fl fl' : Option Wd'} {lx cs : Array Value} {bv bv' : Value} {os os' : List O}
theorem Lq.go (h : Lq w V r bb la lc m ls ps n fl lx cs bv os) (hd : Dr V' r (.slice la ls.length lc) n' m fl') (hf : Fr (One r) V V') : Lq w V' r bb la lc m ls ps n' fl' lx cs bv os :=
  have h1 := h.h1
  have h2 := h.h2
  ⟨hd, h.l.fr hf h.d.lt, at_fr h.x hf (by show ¬ _ = _; omega), at_fr h.b hf (by show ¬ _ = _; omega), row_old h.row hf (by omega), h.f.trans hf (fun k _ hk => .inl hk), h1, h2⟩
theorem Lq.up (h : Lq w V r bb la lc m ls ps n fl lx cs bv os) (hb : Below V.heap.size V V') : Lq w V' r bb la lc m ls ps n fl lx cs bv os := h.go (h.d.below hb) (Fr.of hb)
theorem Lq.set (h : Lq w V r bb la lc m ls ps n fl lx cs bv os) (j : Nat) (hj : j < cs.size) (v : Value) : Lq w (V.setCell ⟨bb, j, none⟩ v) r bb la lc m ls ps n fl lx (cs.setIfInBounds j v) bv os :=
  have h1 := h.h1
  have h2 := h.h2
  have hg : Fr (One bb) V (V.setCell ⟨bb, j, none⟩ v) := (Fr.refl (One bb) V).setCell (.inr rfl) _ _
  ⟨h.d.fr hg (by omega), h.l.frX hg h.d.lt (fun q hq => by show ¬ _ = _; omega), at_fr h.x hg (by show ¬ _ = _; omega), at_set h.b hj v, row_old h.row hg (by omega), h.f.trans hg (fun k _ hk => .inr hk), h1, h2⟩
theorem Lq.ops (h : Lq w V r bb la lc m ls ps n fl lx cs bv os) (hd : Ds V V' r la lc m ls ps n' fl' bv' os') : Lq w V' r bb la lc m ls ps n' fl' lx cs bv' os' :=
  have g := h.go hd.d hd.f
  ⟨g.d, g.l, g.x, g.b, row_le hd.row h.f.size, g.f, g.h1, g.h2⟩
theorem DL.dw {i : Nat} {l : Ln} {p : Pw} (hi : ls[i]? = some l) (hp : ps[i]? = some p) (h : DL V r la ls ps) : DW V r p l.ws := by
  obtain ⟨h1, e1⟩ := List.getElem?_eq_some_iff.1 hi
  obtain ⟨h2, e2⟩ := List.getElem?_eq_some_iff.1 hp
  obtain ⟨_, _, _, _, _, hw⟩ := h.is i h1 h2
  rw [e1, e2] at hw
  exact hw
theorem DL.short {i : Nat} {l : Ln} (hi : ls[i]? = some l) (h : DL V r la ls ps) : ShortW l := h.sh l (List.mem_of_getElem? hi)
end
/-- What loop leaves. -/
def LoPost (w : World) (r bb : Nat) (la : Option Addr) (lc m : Nat) (ls : List Ln) (ps : List Pw) (c0 c5 : Value) (RES : R (Int × List O × Int × Nat)) (e : Ending) (w' : World) : Prop :=
  ∃ (a t : Int) (bv : Value) (os : List O) (n : Nat), e = .returned (.tuple #[]) ∧ Dr w' r (.slice la ls.length lc) n m (stF RES) ∧ DL w' r la ls ps ∧ At w' bb #[c0, .int .i8 3, .int .u8 a, bv, .int .i64 t, c5] ∧ w'.ownsRow w.heap.size 67 5 bv os.length (ocells os) ∧ Fr (Two r bb) w w' ∧ ∀ z, RES = .ok z → z = (a, os, t, n)
theorem Lq.done {w V : World} {r bb : Nat} {la : Option Addr} {lc m : Nat} {ls : List Ln} {ps : List Pw} {n : Nat} {fl : Option Wd'} {lx : Array Value} {c0 c5 : Value} {bv : Value} {os : List O} {a t : Int} {RES : R (Int × List O × Int × Nat)} (h : Lq w V r bb la lc m ls ps n fl lx #[c0, .int .i8 3, .int .u8 a, bv, .int .i64 t, c5] bv os) (hB : Bh RES fl (.ok (a, os, t, n))) : LoPost w r bb la lc m ls ps c0 c5 RES (.returned (.tuple #[])) V := by
  obtain ⟨h1, h2⟩ := hB.done
  exact ⟨a, t, bv, os, n, rfl, by rw [h1]; exact h.d, h.l, h.b, h.row, h.f, h2⟩

set_option maxHeartbeats 4000000 in
theorem dloop_w1 (r bb i : Nat) (p : Pw) (l : Ln) (la : Option Addr) (ls : List Ln) (ps : List Pw) (lc nx m : Nat) (fl : Option Wd') (c0 c5 : Value) (RES : R (Int × List O × Int × Nat)) (w : World) (h : Dr w r (.slice la ls.length lc) nx m fl) (hl : DL w r la ls ps) (hi : ls[i]? = some l) (hp : ps[i]? = some p) (hn : nx ≤ ls.length) (hb : At w bb #[c0, .int .i8 0, .int .u8 0, .slice none 0 0, .int .i64 0, c5]) (hrb : r < bb)
    (f : Wd') (hw2 : guardR (stF (guardR fl (regAt l 1))) (wordR l 2) = .no f) (hres : RES = .no f) : Calls Tryz.prog 34 #[.pointer (some ⟨r, 0, none⟩), .agg #[.slice p.1 l.ws.length p.2, .int .i64 (l.en : Int)], .pointer (some ⟨bb, 0, none⟩)] w (LoPost w r bb la lc m ls ps c0 c5 RES) := by
  have HDW : Hid (∀ V, DL V r la ls ps → DW V r p l.ws) := fun V h => h.dw hi hp
  have HSH : Hid (ShortW l) := hl.short hi
  have b1 := hb.c 1 _ rfl
  have bf := hb.f
  have hbw := hb.lt
  have hr := h.lt
  have hG0 : Fr (One bb) w (w.setCell ⟨bb, 1, none⟩ (.int .i8 3)) := (Fr.refl (One bb) w).setCell (.inr rfl) _ _
  have hB0 : Below (w.setCell ⟨bb, 1, none⟩ (.int .i8 3)).heap.size (w.setCell ⟨bb, 1, none⟩ (.int .i8 3)) ((w.setCell ⟨bb, 1, none⟩ (.int .i8 3)).alloc (.cells #[.slice p.1 l.ws.length p.2, .int .i64 (l.en : Int)] 45)) := (Below.refl _ _).alloc (Nat.le_refl _) _
  have hA0 : At ((w.setCell ⟨bb, 1, none⟩ (.int .i8 3)).alloc (.cells #[.slice p.1 l.ws.length p.2, .int .i64 (l.en : Int)] 45)) w.heap.size #[.slice p.1 l.ws.length p.2, .int .i64 (l.en : Int)] := by have := At.new (w.setCell ⟨bb, 1, none⟩ (.int .i8 3)) #[.slice p.1 l.ws.length p.2, .int .i64 (l.en : Int)] 45; rw [World.size_setCell] at this; exact this
  have hd0 : Dr (w.setCell ⟨bb, 1, none⟩ (.int .i8 3)) r (.slice la ls.length lc) nx m fl := h.fr hG0 (by omega)
  have HS1 : Hid (Lq w ((w.setCell ⟨bb, 1, none⟩ (.int .i8 3)).alloc (.cells #[.slice p.1 l.ws.length p.2, .int .i64 (l.en : Int)] 45)) r bb la lc m ls ps nx (fl) #[.slice p.1 l.ws.length p.2, .int .i64 (l.en : Int)] #[c0, .int .i8 3, .int .u8 0, .slice none 0 0, .int .i64 0, c5] (.slice none 0 0) []) := ⟨hd0.below hB0, (hl.frX hG0 h.lt (fun q hq => by show ¬ _ = _; omega)).fr (Fr.of hB0) hd0.lt, hA0, (at_set hb (j := 1) (by simp) (.int .i8 3)).alloc _, World.ownsRow_nil _ _ _ _, (hG0.mono (fun k _ hk => .inr hk)).then hB0, hrb, hbw⟩
  have q0 := HS1.out.x.c 0 _ rfl
  have q1 := HS1.out.x.c 1 _ rfl
  have HN : Hid _ := hn
  have HW : Hid _ := hw2
  have HR : Hid _ := hres
  clear h hl hn hb hB0 hG0 hA0 hd0 hw2 hres
  go_enter Tryz.func34, Tryz.ntmps34
  go_wp2_with (first
    | (go_at_call 33; refine Calls.mono (dreg_any r 1 p l _ nx m fl _ HS1.out.d (HDW.out _ HS1.out.l) HSH.out) ?_; rintro e u0 ⟨a, rfl, hv, hd, hf⟩; have HZ0 : Hid _ := HS1.out.go hd hf; have HS2 : Hid (Lq w (u0.setCell ⟨bb, 2, none⟩ (.int .u8 a)) r bb la lc m ls ps nx (stF (guardR fl (regAt l 1))) #[.slice p.1 l.ws.length p.2, .int .i64 (l.en : Int)] #[c0, .int .i8 3, .int .u8 a, .slice none 0 0, .int .i64 0, c5] (.slice none 0 0) []) := HZ0.out.set 2 (by simp) _; have HV : Hid _ := hv; clear hv hd hf HS1 q0 q1 b1 bf; have z2 := HZ0.out.b.c 2 _ rfl; have zf := HZ0.out.b.f; have q2 := HS2.out.x.c 0 _ rfl; have q3 := HS2.out.x.c 1 _ rfl)
    | (go_at_call 28; refine Calls.mono (dword_any r 2 p l _ nx m (stF (guardR fl (regAt l 1))) _ HS2.out.d (HDW.out _ HS2.out.l)) ?_; rw [HW.out]; rintro e u1 ⟨rfl, hd, hf⟩; have HS3 : Hid (Lq w (u1.alloc (.cells #[.string ⟨#[]⟩, .int .i64 0] 47)) r bb la lc m ls ps nx (some f) #[.slice p.1 l.ws.length p.2, .int .i64 (l.en : Int)] #[c0, .int .i8 3, .int .u8 a, .slice none 0 0, .int .i64 0, c5] (.slice none 0 0) []) := (HS2.out.go hd hf).up ((Below.refl _ _).alloc (Nat.le_refl _) _); clear hd hf HS2 HZ0 q2 q3 z2 zf HW; have q4 := HS3.out.x.c 0 _ rfl; have q5 := HS3.out.x.c 1 _ rfl; simp only [wordV, isOk])
    | (go_at_call_of 30 (Value.int .i64 3); refine Calls.mono (dend_any r 3 p l _ nx m (some f) _ HS3.out.d (HDW.out _ HS3.out.l)) ?_; rintro e u3 ⟨rfl, hd, hf⟩; have HS5 : Hid (Lq w (u3) r bb la lc m ls ps nx (some f) #[.slice p.1 l.ws.length p.2, .int .i64 (l.en : Int)] #[c0, .int .i8 3, .int .u8 a, .slice none 0 0, .int .i64 0, c5] (.slice none 0 0) []) := HS3.out.go hd hf; clear hd hf HS3 q4 q5)
    | (go_at_call 31; refine Calls.mono (dops_any r la ls ps lc nx m (some f) _ HS5.out.d HS5.out.l HN.out) ?_; rintro e u4 ⟨v, os, n, rfl, hds, hn4, hv4⟩; obtain ⟨va, vc, rfl⟩ := row_slice hds.row; have HZ5 : Hid (Lq w (u4) r bb la lc m ls ps n (some f) #[.slice p.1 l.ws.length p.2, .int .i64 (l.en : Int)] #[c0, .int .i8 3, .int .u8 a, .slice none 0 0, .int .i64 0, c5] (.slice va os.length vc) os) := HS5.out.ops hds; have HS6 : Hid (Lq w (u4.setCell ⟨bb, 3, none⟩ (.slice va os.length vc)) r bb la lc m ls ps n (some f) #[.slice p.1 l.ws.length p.2, .int .i64 (l.en : Int)] #[c0, .int .i8 3, .int .u8 a, .slice va os.length vc, .int .i64 0, c5] (.slice va os.length vc) os) := HZ5.out.set 3 (by simp) _; clear hds hn4 hv4 HS5; have z3 := HZ5.out.b.c 3 _ rfl; have zf := HZ5.out.b.f)
    | (go_at_call_of 27 (Value.string ⟨#[125]⟩); refine Calls.mono (dline_any r [125] la ls ps lc n m (some f) _ HS6.out.d HS6.out.l) ?_; rintro e u5 ⟨rfl, hd, hf⟩; have HS7 : Hid (Lq w (u5.alloc (.cells #[.slice none 0 0, .int .i64 0] 45)) r bb la lc m ls ps n (some f) #[.slice p.1 l.ws.length p.2, .int .i64 (l.en : Int)] #[c0, .int .i8 3, .int .u8 a, .slice va os.length vc, .int .i64 0, c5] (.slice va os.length vc) os) := (HS6.out.go hd hf).up ((Below.refl _ _).alloc (Nat.le_refl _) _); clear hd hf HS6 HZ5 z3 zf)
    | (go_at_call_of 27 (Value.string ⟨#[106, 117, 109, 112]⟩); refine Calls.mono (dline_any r [106, 117, 109, 112] la ls ps lc n m (some f) _ HS7.out.d HS7.out.l) ?_; rintro e u6 ⟨rfl, hd, hf⟩; have HS8 : Hid (Lq w (u6.alloc (.cells #[.slice none 0 0, .int .i64 0] 45)) r bb la lc m ls ps n (some f) #[.slice p.1 l.ws.length p.2, .int .i64 (l.en : Int)] #[c0, .int .i8 3, .int .u8 a, .slice va os.length vc, .int .i64 0, c5] (.slice va os.length vc) os) := (HS7.out.go hd hf).up ((Below.refl _ _).alloc (Nat.le_refl _) _); clear hd hf HS7))
  go_end0
  exact HS8.out.done (HR.out)
set_option maxHeartbeats 4000000 in
theorem dloop_w2 (r bb i : Nat) (p : Pw) (l : Ln) (la : Option Addr) (ls : List Ln) (ps : List Pw) (lc nx m : Nat) (fl : Option Wd') (c0 c5 : Value) (RES : R (Int × List O × Int × Nat)) (w : World) (h : Dr w r (.slice la ls.length lc) nx m fl) (hl : DL w r la ls ps) (hi : ls[i]? = some l) (hp : ps[i]? = some p) (hn : nx ≤ ls.length) (hb : At w bb #[c0, .int .i8 0, .int .u8 0, .slice none 0 0, .int .i64 0, c5]) (hrb : r < bb)
    (x : Wd') (hx2 : x.2 ≠ [123]) (hw2 : guardR (stF (guardR fl (regAt l 1))) (wordR l 2) = .ok x) (hres : RES = .no x) : Calls Tryz.prog 34 #[.pointer (some ⟨r, 0, none⟩), .agg #[.slice p.1 l.ws.length p.2, .int .i64 (l.en : Int)], .pointer (some ⟨bb, 0, none⟩)] w (LoPost w r bb la lc m ls ps c0 c5 RES) := by
  have HDW : Hid (∀ V, DL V r la ls ps → DW V r p l.ws) := fun V h => h.dw hi hp
  have HSH : Hid (ShortW l) := hl.short hi
  have b1 := hb.c 1 _ rfl
  have bf := hb.f
  have hbw := hb.lt
  have hr := h.lt
  have hG0 : Fr (One bb) w (w.setCell ⟨bb, 1, none⟩ (.int .i8 3)) := (Fr.refl (One bb) w).setCell (.inr rfl) _ _
  have hB0 : Below (w.setCell ⟨bb, 1, none⟩ (.int .i8 3)).heap.size (w.setCell ⟨bb, 1, none⟩ (.int .i8 3)) ((w.setCell ⟨bb, 1, none⟩ (.int .i8 3)).alloc (.cells #[.slice p.1 l.ws.length p.2, .int .i64 (l.en : Int)] 45)) := (Below.refl _ _).alloc (Nat.le_refl _) _
  have hA0 : At ((w.setCell ⟨bb, 1, none⟩ (.int .i8 3)).alloc (.cells #[.slice p.1 l.ws.length p.2, .int .i64 (l.en : Int)] 45)) w.heap.size #[.slice p.1 l.ws.length p.2, .int .i64 (l.en : Int)] := by have := At.new (w.setCell ⟨bb, 1, none⟩ (.int .i8 3)) #[.slice p.1 l.ws.length p.2, .int .i64 (l.en : Int)] 45; rw [World.size_setCell] at this; exact this
  have hd0 : Dr (w.setCell ⟨bb, 1, none⟩ (.int .i8 3)) r (.slice la ls.length lc) nx m fl := h.fr hG0 (by omega)
  have HS1 : Hid (Lq w ((w.setCell ⟨bb, 1, none⟩ (.int .i8 3)).alloc (.cells #[.slice p.1 l.ws.length p.2, .int .i64 (l.en : Int)] 45)) r bb la lc m ls ps nx (fl) #[.slice p.1 l.ws.length p.2, .int .i64 (l.en : Int)] #[c0, .int .i8 3, .int .u8 0, .slice none 0 0, .int .i64 0, c5] (.slice none 0 0) []) := ⟨hd0.below hB0, (hl.frX hG0 h.lt (fun q hq => by show ¬ _ = _; omega)).fr (Fr.of hB0) hd0.lt, hA0, (at_set hb (j := 1) (by simp) (.int .i8 3)).alloc _, World.ownsRow_nil _ _ _ _, (hG0.mono (fun k _ hk => .inr hk)).then hB0, hrb, hbw⟩
  have q0 := HS1.out.x.c 0 _ rfl
  have q1 := HS1.out.x.c 1 _ rfl
  have HN : Hid _ := hn
  have HW : Hid _ := hw2
  have HR : Hid _ := hres
  have hne : (x.2 == [123]) = false := by simpa using hx2
  have hne2 : (x.2 != [123]) = true := by simpa using hx2
  clear h hl hn hb hB0 hG0 hA0 hd0 hw2 hres hx2
  go_enter Tryz.func34, Tryz.ntmps34
  go_wp2_with (first
    | (go_at_call 33; refine Calls.mono (dreg_any r 1 p l _ nx m fl _ HS1.out.d (HDW.out _ HS1.out.l) HSH.out) ?_; rintro e u0 ⟨a, rfl, hv, hd, hf⟩; have HZ0 : Hid _ := HS1.out.go hd hf; have HS2 : Hid (Lq w (u0.setCell ⟨bb, 2, none⟩ (.int .u8 a)) r bb la lc m ls ps nx (stF (guardR fl (regAt l 1))) #[.slice p.1 l.ws.length p.2, .int .i64 (l.en : Int)] #[c0, .int .i8 3, .int .u8 a, .slice none 0 0, .int .i64 0, c5] (.slice none 0 0) []) := HZ0.out.set 2 (by simp) _; have HV : Hid _ := hv; clear hv hd hf HS1 q0 q1 b1 bf; have z2 := HZ0.out.b.c 2 _ rfl; have zf := HZ0.out.b.f; have q2 := HS2.out.x.c 0 _ rfl; have q3 := HS2.out.x.c 1 _ rfl)
    | (go_at_call 28; refine Calls.mono (dword_any r 2 p l _ nx m (stF (guardR fl (regAt l 1))) _ HS2.out.d (HDW.out _ HS2.out.l)) ?_; rw [HW.out]; rintro e u1 ⟨rfl, hd, hf⟩; have HS3 : Hid (Lq w (u1.alloc (.cells #[.string ⟨x.2.toArray⟩, .int .i64 (x.1 : Int)] 47)) r bb la lc m ls ps nx (none) #[.slice p.1 l.ws.length p.2, .int .i64 (l.en : Int)] #[c0, .int .i8 3, .int .u8 a, .slice none 0 0, .int .i64 0, c5] (.slice none 0 0) []) := (HS2.out.go hd hf).up ((Below.refl _ _).alloc (Nat.le_refl _) _); clear hd hf HS2 HZ0 q2 q3 z2 zf HW; have q4 := HS3.out.x.c 0 _ rfl; have q5 := HS3.out.x.c 1 _ rfl; simp only [wordV, isOk])
    | (go_at_call 26; refine Calls.mono (dfail_any r x.1 x.2 _ nx m none _ HS3.out.d) ?_; rintro e u2 ⟨rfl, hd, hf⟩; have HS4 : Hid (Lq w (u2) r bb la lc m ls ps nx (some x) #[.slice p.1 l.ws.length p.2, .int .i64 (l.en : Int)] #[c0, .int .i8 3, .int .u8 a, .slice none 0 0, .int .i64 0, c5] (.slice none 0 0) []) := HS3.out.go hd hf; clear hd hf HS3 q4 q5; have q4 := HS4.out.x.c 0 _ rfl; have q5 := HS4.out.x.c 1 _ rfl)
    | (go_at_call_of 30 (Value.int .i64 3); refine Calls.mono (dend_any r 3 p l _ nx m (some x) _ HS4.out.d (HDW.out _ HS4.out.l)) ?_; rintro e u3 ⟨rfl, hd, hf⟩; have HS5 : Hid (Lq w (u3) r bb la lc m ls ps nx (some x) #[.slice p.1 l.ws.length p.2, .int .i64 (l.en : Int)] #[c0, .int .i8 3, .int .u8 a, .slice none 0 0, .int .i64 0, c5] (.slice none 0 0) []) := HS4.out.go hd hf; clear hd hf HS4 q4 q5)
    | (go_at_call 31; refine Calls.mono (dops_any r la ls ps lc nx m (some x) _ HS5.out.d HS5.out.l HN.out) ?_; rintro e u4 ⟨v, os, n, rfl, hds, hn4, hv4⟩; obtain ⟨va, vc, rfl⟩ := row_slice hds.row; have HZ5 : Hid (Lq w (u4) r bb la lc m ls ps n (some x) #[.slice p.1 l.ws.length p.2, .int .i64 (l.en : Int)] #[c0, .int .i8 3, .int .u8 a, .slice none 0 0, .int .i64 0, c5] (.slice va os.length vc) os) := HS5.out.ops hds; have HS6 : Hid (Lq w (u4.setCell ⟨bb, 3, none⟩ (.slice va os.length vc)) r bb la lc m ls ps n (some x) #[.slice p.1 l.ws.length p.2, .int .i64 (l.en : Int)] #[c0, .int .i8 3, .int .u8 a, .slice va os.length vc, .int .i64 0, c5] (.slice va os.length vc) os) := HZ5.out.set 3 (by simp) _; clear hds hn4 hv4 HS5; have z3 := HZ5.out.b.c 3 _ rfl; have zf := HZ5.out.b.f)
    | (go_at_call_of 27 (Value.string ⟨#[125]⟩); refine Calls.mono (dline_any r [125] la ls ps lc n m (some x) _ HS6.out.d HS6.out.l) ?_; rintro e u5 ⟨rfl, hd, hf⟩; have HS7 : Hid (Lq w (u5.alloc (.cells #[.slice none 0 0, .int .i64 0] 45)) r bb la lc m ls ps n (some x) #[.slice p.1 l.ws.length p.2, .int .i64 (l.en : Int)] #[c0, .int .i8 3, .int .u8 a, .slice va os.length vc, .int .i64 0, c5] (.slice va os.length vc) os) := (HS6.out.go hd hf).up ((Below.refl _ _).alloc (Nat.le_refl _) _); clear hd hf HS6 HZ5 z3 zf)
    | (go_at_call_of 27 (Value.string ⟨#[106, 117, 109, 112]⟩); refine Calls.mono (dline_any r [106, 117, 109, 112] la ls ps lc n m (some x) _ HS7.out.d HS7.out.l) ?_; rintro e u6 ⟨rfl, hd, hf⟩; have HS8 : Hid (Lq w (u6.alloc (.cells #[.slice none 0 0, .int .i64 0] 45)) r bb la lc m ls ps n (some x) #[.slice p.1 l.ws.length p.2, .int .i64 (l.en : Int)] #[c0, .int .i8 3, .int .u8 a, .slice va os.length vc, .int .i64 0, c5] (.slice va os.length vc) os) := (HS7.out.go hd hf).up ((Below.refl _ _).alloc (Nat.le_refl _) _); clear hd hf HS7))
  go_end0
  exact HS8.out.done (HR.out)
set_option maxHeartbeats 4000000 in
theorem dloop_w3 (r bb i : Nat) (p : Pw) (l : Ln) (la : Option Addr) (ls : List Ln) (ps : List Pw) (lc nx m : Nat) (fl : Option Wd') (c0 c5 : Value) (RES : R (Int × List O × Int × Nat)) (w : World) (h : Dr w r (.slice la ls.length lc) nx m fl) (hl : DL w r la ls ps) (hi : ls[i]? = some l) (hp : ps[i]? = some p) (hn : nx ≤ ls.length) (hb : At w bb #[c0, .int .i8 0, .int .u8 0, .slice none 0 0, .int .i64 0, c5]) (hrb : r < bb)
    (x : Wd') (hx2 : x.2 = [123]) (hw2 : guardR (stF (guardR fl (regAt l 1))) (wordR l 2) = .ok x) (f : Wd') (ho4 : guardR (stF (guardR none (endsR l 3))) (opsD (ls.drop nx) nx) = .no f) (hres : RES = .no f) : Calls Tryz.prog 34 #[.pointer (some ⟨r, 0, none⟩), .agg #[.slice p.1 l.ws.length p.2, .int .i64 (l.en : Int)], .pointer (some ⟨bb, 0, none⟩)] w (LoPost w r bb la lc m ls ps c0 c5 RES) := by
  have HDW : Hid (∀ V, DL V r la ls ps → DW V r p l.ws) := fun V h => h.dw hi hp
  have HSH : Hid (ShortW l) := hl.short hi
  have b1 := hb.c 1 _ rfl
  have bf := hb.f
  have hbw := hb.lt
  have hr := h.lt
  have hG0 : Fr (One bb) w (w.setCell ⟨bb, 1, none⟩ (.int .i8 3)) := (Fr.refl (One bb) w).setCell (.inr rfl) _ _
  have hB0 : Below (w.setCell ⟨bb, 1, none⟩ (.int .i8 3)).heap.size (w.setCell ⟨bb, 1, none⟩ (.int .i8 3)) ((w.setCell ⟨bb, 1, none⟩ (.int .i8 3)).alloc (.cells #[.slice p.1 l.ws.length p.2, .int .i64 (l.en : Int)] 45)) := (Below.refl _ _).alloc (Nat.le_refl _) _
  have hA0 : At ((w.setCell ⟨bb, 1, none⟩ (.int .i8 3)).alloc (.cells #[.slice p.1 l.ws.length p.2, .int .i64 (l.en : Int)] 45)) w.heap.size #[.slice p.1 l.ws.length p.2, .int .i64 (l.en : Int)] := by have := At.new (w.setCell ⟨bb, 1, none⟩ (.int .i8 3)) #[.slice p.1 l.ws.length p.2, .int .i64 (l.en : Int)] 45; rw [World.size_setCell] at this; exact this
  have hd0 : Dr (w.setCell ⟨bb, 1, none⟩ (.int .i8 3)) r (.slice la ls.length lc) nx m fl := h.fr hG0 (by omega)
  have HS1 : Hid (Lq w ((w.setCell ⟨bb, 1, none⟩ (.int .i8 3)).alloc (.cells #[.slice p.1 l.ws.length p.2, .int .i64 (l.en : Int)] 45)) r bb la lc m ls ps nx (fl) #[.slice p.1 l.ws.length p.2, .int .i64 (l.en : Int)] #[c0, .int .i8 3, .int .u8 0, .slice none 0 0, .int .i64 0, c5] (.slice none 0 0) []) := ⟨hd0.below hB0, (hl.frX hG0 h.lt (fun q hq => by show ¬ _ = _; omega)).fr (Fr.of hB0) hd0.lt, hA0, (at_set hb (j := 1) (by simp) (.int .i8 3)).alloc _, World.ownsRow_nil _ _ _ _, (hG0.mono (fun k _ hk => .inr hk)).then hB0, hrb, hbw⟩
  have q0 := HS1.out.x.c 0 _ rfl
  have q1 := HS1.out.x.c 1 _ rfl
  have HN : Hid _ := hn
  have HW : Hid _ := hw2
  have HR : Hid _ := hres
  obtain ⟨xa, xs⟩ := x
  simp only at hx2
  subst hx2
  have HO4 : Hid _ := ho4
  clear h hl hn hb hB0 hG0 hA0 hd0 hw2 hres ho4
  go_enter Tryz.func34, Tryz.ntmps34
  go_wp2_with (first
    | (go_at_call 33; refine Calls.mono (dreg_any r 1 p l _ nx m fl _ HS1.out.d (HDW.out _ HS1.out.l) HSH.out) ?_; rintro e u0 ⟨a, rfl, hv, hd, hf⟩; have HZ0 : Hid _ := HS1.out.go hd hf; have HS2 : Hid (Lq w (u0.setCell ⟨bb, 2, none⟩ (.int .u8 a)) r bb la lc m ls ps nx (stF (guardR fl (regAt l 1))) #[.slice p.1 l.ws.length p.2, .int .i64 (l.en : Int)] #[c0, .int .i8 3, .int .u8 a, .slice none 0 0, .int .i64 0, c5] (.slice none 0 0) []) := HZ0.out.set 2 (by simp) _; have HV : Hid _ := hv; clear hv hd hf HS1 q0 q1 b1 bf; have z2 := HZ0.out.b.c 2 _ rfl; have zf := HZ0.out.b.f; have q2 := HS2.out.x.c 0 _ rfl; have q3 := HS2.out.x.c 1 _ rfl)
    | (go_at_call 28; refine Calls.mono (dword_any r 2 p l _ nx m (stF (guardR fl (regAt l 1))) _ HS2.out.d (HDW.out _ HS2.out.l)) ?_; rw [HW.out]; rintro e u1 ⟨rfl, hd, hf⟩; have HS3 : Hid (Lq w (u1.alloc (.cells #[.string ⟨#[123]⟩, .int .i64 (xa : Int)] 47)) r bb la lc m ls ps nx (none) #[.slice p.1 l.ws.length p.2, .int .i64 (l.en : Int)] #[c0, .int .i8 3, .int .u8 a, .slice none 0 0, .int .i64 0, c5] (.slice none 0 0) []) := (HS2.out.go hd hf).up ((Below.refl _ _).alloc (Nat.le_refl _) _); clear hd hf HS2 HZ0 q2 q3 z2 zf HW; have q4 := HS3.out.x.c 0 _ rfl; have q5 := HS3.out.x.c 1 _ rfl; simp only [wordV, isOk])
    | (go_at_call_of 30 (Value.int .i64 3); refine Calls.mono (dend_any r 3 p l _ nx m (none) _ HS3.out.d (HDW.out _ HS3.out.l)) ?_; rintro e u3 ⟨rfl, hd, hf⟩; have HS5 : Hid (Lq w (u3) r bb la lc m ls ps nx (stF (guardR none (endsR l 3))) #[.slice p.1 l.ws.length p.2, .int .i64 (l.en : Int)] #[c0, .int .i8 3, .int .u8 a, .slice none 0 0, .int .i64 0, c5] (.slice none 0 0) []) := HS3.out.go hd hf; clear hd hf HS3 q4 q5)
    | (go_at_call 31; refine Calls.mono (dops_any r la ls ps lc nx m (stF (guardR none (endsR l 3))) _ HS5.out.d HS5.out.l HN.out) ?_; rintro e u4 ⟨v, os, n, rfl, hds, hn4, hv4⟩; rw [HO4.out] at hds; obtain ⟨va, vc, rfl⟩ := row_slice hds.row; have HZ5 : Hid (Lq w (u4) r bb la lc m ls ps n (some f) #[.slice p.1 l.ws.length p.2, .int .i64 (l.en : Int)] #[c0, .int .i8 3, .int .u8 a, .slice none 0 0, .int .i64 0, c5] (.slice va os.length vc) os) := HS5.out.ops hds; have HS6 : Hid (Lq w (u4.setCell ⟨bb, 3, none⟩ (.slice va os.length vc)) r bb la lc m ls ps n (some f) #[.slice p.1 l.ws.length p.2, .int .i64 (l.en : Int)] #[c0, .int .i8 3, .int .u8 a, .slice va os.length vc, .int .i64 0, c5] (.slice va os.length vc) os) := HZ5.out.set 3 (by simp) _; clear hds hn4 hv4 HS5; have z3 := HZ5.out.b.c 3 _ rfl; have zf := HZ5.out.b.f)
    | (go_at_call_of 27 (Value.string ⟨#[125]⟩); refine Calls.mono (dline_any r [125] la ls ps lc n m (some f) _ HS6.out.d HS6.out.l) ?_; rintro e u5 ⟨rfl, hd, hf⟩; have HS7 : Hid (Lq w (u5.alloc (.cells #[.slice none 0 0, .int .i64 0] 45)) r bb la lc m ls ps n (some f) #[.slice p.1 l.ws.length p.2, .int .i64 (l.en : Int)] #[c0, .int .i8 3, .int .u8 a, .slice va os.length vc, .int .i64 0, c5] (.slice va os.length vc) os) := (HS6.out.go hd hf).up ((Below.refl _ _).alloc (Nat.le_refl _) _); clear hd hf HS6 HZ5 z3 zf)
    | (go_at_call_of 27 (Value.string ⟨#[106, 117, 109, 112]⟩); refine Calls.mono (dline_any r [106, 117, 109, 112] la ls ps lc n m (some f) _ HS7.out.d HS7.out.l) ?_; rintro e u6 ⟨rfl, hd, hf⟩; have HS8 : Hid (Lq w (u6.alloc (.cells #[.slice none 0 0, .int .i64 0] 45)) r bb la lc m ls ps n (some f) #[.slice p.1 l.ws.length p.2, .int .i64 (l.en : Int)] #[c0, .int .i8 3, .int .u8 a, .slice va os.length vc, .int .i64 0, c5] (.slice va os.length vc) os) := (HS7.out.go hd hf).up ((Below.refl _ _).alloc (Nat.le_refl _) _); clear hd hf HS7))
  go_end0
  exact HS8.out.done (HR.out)
set_option maxHeartbeats 4000000 in
theorem dloop_w4 (r bb i : Nat) (p : Pw) (l : Ln) (la : Option Addr) (ls : List Ln) (ps : List Pw) (lc nx m : Nat) (fl : Option Wd') (c0 c5 : Value) (RES : R (Int × List O × Int × Nat)) (w : World) (h : Dr w r (.slice la ls.length lc) nx m fl) (hl : DL w r la ls ps) (hi : ls[i]? = some l) (hp : ps[i]? = some p) (hn : nx ≤ ls.length) (hb : At w bb #[c0, .int .i8 0, .int .u8 0, .slice none 0 0, .int .i64 0, c5]) (hrb : r < bb)
    (x : Wd') (hx2 : x.2 = [123]) (hw2 : guardR (stF (guardR fl (regAt l 1))) (wordR l 2) = .ok x) (y : List O × Nat) (ho4 : guardR (stF (guardR none (endsR l 3))) (opsD (ls.drop nx) nx) = .ok y) (f : Wd') (hl5 : lnR [125] ls y.2 m = .no f) (hres : RES = .no f) : Calls Tryz.prog 34 #[.pointer (some ⟨r, 0, none⟩), .agg #[.slice p.1 l.ws.length p.2, .int .i64 (l.en : Int)], .pointer (some ⟨bb, 0, none⟩)] w (LoPost w r bb la lc m ls ps c0 c5 RES) := by
  have HDW : Hid (∀ V, DL V r la ls ps → DW V r p l.ws) := fun V h => h.dw hi hp
  have HSH : Hid (ShortW l) := hl.short hi
  have b1 := hb.c 1 _ rfl
  have bf := hb.f
  have hbw := hb.lt
  have hr := h.lt
  have hG0 : Fr (One bb) w (w.setCell ⟨bb, 1, none⟩ (.int .i8 3)) := (Fr.refl (One bb) w).setCell (.inr rfl) _ _
  have hB0 : Below (w.setCell ⟨bb, 1, none⟩ (.int .i8 3)).heap.size (w.setCell ⟨bb, 1, none⟩ (.int .i8 3)) ((w.setCell ⟨bb, 1, none⟩ (.int .i8 3)).alloc (.cells #[.slice p.1 l.ws.length p.2, .int .i64 (l.en : Int)] 45)) := (Below.refl _ _).alloc (Nat.le_refl _) _
  have hA0 : At ((w.setCell ⟨bb, 1, none⟩ (.int .i8 3)).alloc (.cells #[.slice p.1 l.ws.length p.2, .int .i64 (l.en : Int)] 45)) w.heap.size #[.slice p.1 l.ws.length p.2, .int .i64 (l.en : Int)] := by have := At.new (w.setCell ⟨bb, 1, none⟩ (.int .i8 3)) #[.slice p.1 l.ws.length p.2, .int .i64 (l.en : Int)] 45; rw [World.size_setCell] at this; exact this
  have hd0 : Dr (w.setCell ⟨bb, 1, none⟩ (.int .i8 3)) r (.slice la ls.length lc) nx m fl := h.fr hG0 (by omega)
  have HS1 : Hid (Lq w ((w.setCell ⟨bb, 1, none⟩ (.int .i8 3)).alloc (.cells #[.slice p.1 l.ws.length p.2, .int .i64 (l.en : Int)] 45)) r bb la lc m ls ps nx (fl) #[.slice p.1 l.ws.length p.2, .int .i64 (l.en : Int)] #[c0, .int .i8 3, .int .u8 0, .slice none 0 0, .int .i64 0, c5] (.slice none 0 0) []) := ⟨hd0.below hB0, (hl.frX hG0 h.lt (fun q hq => by show ¬ _ = _; omega)).fr (Fr.of hB0) hd0.lt, hA0, (at_set hb (j := 1) (by simp) (.int .i8 3)).alloc _, World.ownsRow_nil _ _ _ _, (hG0.mono (fun k _ hk => .inr hk)).then hB0, hrb, hbw⟩
  have q0 := HS1.out.x.c 0 _ rfl
  have q1 := HS1.out.x.c 1 _ rfl
  have HN : Hid _ := hn
  have HW : Hid _ := hw2
  have HR : Hid _ := hres
  obtain ⟨xa, xs⟩ := x
  simp only at hx2
  subst hx2
  have HO4 : Hid _ := ho4
  have HL5 : Hid _ := hl5
  clear h hl hn hb hB0 hG0 hA0 hd0 hw2 hres ho4 hl5
  go_enter Tryz.func34, Tryz.ntmps34
  go_wp2_with (first
    | (go_at_call 33; refine Calls.mono (dreg_any r 1 p l _ nx m fl _ HS1.out.d (HDW.out _ HS1.out.l) HSH.out) ?_; rintro e u0 ⟨a, rfl, hv, hd, hf⟩; have HZ0 : Hid _ := HS1.out.go hd hf; have HS2 : Hid (Lq w (u0.setCell ⟨bb, 2, none⟩ (.int .u8 a)) r bb la lc m ls ps nx (stF (guardR fl (regAt l 1))) #[.slice p.1 l.ws.length p.2, .int .i64 (l.en : Int)] #[c0, .int .i8 3, .int .u8 a, .slice none 0 0, .int .i64 0, c5] (.slice none 0 0) []) := HZ0.out.set 2 (by simp) _; have HV : Hid _ := hv; clear hv hd hf HS1 q0 q1 b1 bf; have z2 := HZ0.out.b.c 2 _ rfl; have zf := HZ0.out.b.f; have q2 := HS2.out.x.c 0 _ rfl; have q3 := HS2.out.x.c 1 _ rfl)
    | (go_at_call 28; refine Calls.mono (dword_any r 2 p l _ nx m (stF (guardR fl (regAt l 1))) _ HS2.out.d (HDW.out _ HS2.out.l)) ?_; rw [HW.out]; rintro e u1 ⟨rfl, hd, hf⟩; have HS3 : Hid (Lq w (u1.alloc (.cells #[.string ⟨#[123]⟩, .int .i64 (xa : Int)] 47)) r bb la lc m ls ps nx (none) #[.slice p.1 l.ws.length p.2, .int .i64 (l.en : Int)] #[c0, .int .i8 3, .int .u8 a, .slice none 0 0, .int .i64 0, c5] (.slice none 0 0) []) := (HS2.out.go hd hf).up ((Below.refl _ _).alloc (Nat.le_refl _) _); clear hd hf HS2 HZ0 q2 q3 z2 zf HW; have q4 := HS3.out.x.c 0 _ rfl; have q5 := HS3.out.x.c 1 _ rfl; simp only [wordV, isOk])
    | (go_at_call_of 30 (Value.int .i64 3); refine Calls.mono (dend_any r 3 p l _ nx m (none) _ HS3.out.d (HDW.out _ HS3.out.l)) ?_; rintro e u3 ⟨rfl, hd, hf⟩; have HS5 : Hid (Lq w (u3) r bb la lc m ls ps nx (stF (guardR none (endsR l 3))) #[.slice p.1 l.ws.length p.2, .int .i64 (l.en : Int)] #[c0, .int .i8 3, .int .u8 a, .slice none 0 0, .int .i64 0, c5] (.slice none 0 0) []) := HS3.out.go hd hf; clear hd hf HS3 q4 q5)
    | (go_at_call 31; refine Calls.mono (dops_any r la ls ps lc nx m (stF (guardR none (endsR l 3))) _ HS5.out.d HS5.out.l HN.out) ?_; rintro e u4 ⟨v, os, n, rfl, hds, hn4, hv4⟩; rw [HO4.out] at hds; obtain ⟨rfl, rfl⟩ := hv4 y HO4.out; obtain ⟨va, vc, rfl⟩ := row_slice hds.row; have HZ5 : Hid (Lq w (u4) r bb la lc m ls ps y.2 (none) #[.slice p.1 l.ws.length p.2, .int .i64 (l.en : Int)] #[c0, .int .i8 3, .int .u8 a, .slice none 0 0, .int .i64 0, c5] (.slice va y.1.length vc) y.1) := HS5.out.ops hds; have HS6 : Hid (Lq w (u4.setCell ⟨bb, 3, none⟩ (.slice va y.1.length vc)) r bb la lc m ls ps y.2 (none) #[.slice p.1 l.ws.length p.2, .int .i64 (l.en : Int)] #[c0, .int .i8 3, .int .u8 a, .slice va y.1.length vc, .int .i64 0, c5] (.slice va y.1.length vc) y.1) := HZ5.out.set 3 (by simp) _; clear hds hn4 hv4 HS5; have z3 := HZ5.out.b.c 3 _ rfl; have zf := HZ5.out.b.f)
    | (go_at_call_of 27 (Value.string ⟨#[125]⟩); refine Calls.mono (dline_any r [125] la ls ps lc y.2 m (none) _ HS6.out.d HS6.out.l) ?_; rw [show guardR none (lnR [125] ls y.2 m) = .no f from HL5.out]; rintro e u5 ⟨rfl, hd, hf⟩; have HS7 : Hid (Lq w (u5.alloc (.cells #[.slice none 0 0, .int .i64 0] 45)) r bb la lc m ls ps y.2 (some f) #[.slice p.1 l.ws.length p.2, .int .i64 (l.en : Int)] #[c0, .int .i8 3, .int .u8 a, .slice va y.1.length vc, .int .i64 0, c5] (.slice va y.1.length vc) y.1) := (HS6.out.go hd hf).up ((Below.refl _ _).alloc (Nat.le_refl _) _); clear hd hf HS6 HZ5 z3 zf)
    | (go_at_call_of 27 (Value.string ⟨#[106, 117, 109, 112]⟩); refine Calls.mono (dline_any r [106, 117, 109, 112] la ls ps lc y.2 m (some f) _ HS7.out.d HS7.out.l) ?_; rintro e u6 ⟨rfl, hd, hf⟩; have HS8 : Hid (Lq w (u6.alloc (.cells #[.slice none 0 0, .int .i64 0] 45)) r bb la lc m ls ps y.2 (some f) #[.slice p.1 l.ws.length p.2, .int .i64 (l.en : Int)] #[c0, .int .i8 3, .int .u8 a, .slice va y.1.length vc, .int .i64 0, c5] (.slice va y.1.length vc) y.1) := (HS7.out.go hd hf).up ((Below.refl _ _).alloc (Nat.le_refl _) _); clear hd hf HS7))
  go_end0
  exact HS8.out.done (HR.out)
set_option maxHeartbeats 4000000 in
theorem dloop_w5 (r bb i : Nat) (p : Pw) (l : Ln) (la : Option Addr) (ls : List Ln) (ps : List Pw) (lc nx m : Nat) (fl : Option Wd') (c0 c5 : Value) (RES : R (Int × List O × Int × Nat)) (w : World) (h : Dr w r (.slice la ls.length lc) nx m fl) (hl : DL w r la ls ps) (hi : ls[i]? = some l) (hp : ps[i]? = some p) (hn : nx ≤ ls.length) (hb : At w bb #[c0, .int .i8 0, .int .u8 0, .slice none 0 0, .int .i64 0, c5]) (hrb : r < bb)
    (x : Wd') (hx2 : x.2 = [123]) (hw2 : guardR (stF (guardR fl (regAt l 1))) (wordR l 2) = .ok x) (y : List O × Nat) (ho4 : guardR (stF (guardR none (endsR l 3))) (opsD (ls.drop nx) nx) = .ok y) (l2 : Ln) (hl5 : lnR [125] ls y.2 m = .ok l2) (f : Wd') (hl7 : guardR (stF (guardR none (endsR l2 1))) (lnR [106, 117, 109, 112] ls (y.2 + 1) m) = .no f) (hres : RES = .no f) : Calls Tryz.prog 34 #[.pointer (some ⟨r, 0, none⟩), .agg #[.slice p.1 l.ws.length p.2, .int .i64 (l.en : Int)], .pointer (some ⟨bb, 0, none⟩)] w (LoPost w r bb la lc m ls ps c0 c5 RES) := by
  have HDW : Hid (∀ V, DL V r la ls ps → DW V r p l.ws) := fun V h => h.dw hi hp
  have HSH : Hid (ShortW l) := hl.short hi
  have b1 := hb.c 1 _ rfl
  have bf := hb.f
  have hbw := hb.lt
  have hr := h.lt
  have hG0 : Fr (One bb) w (w.setCell ⟨bb, 1, none⟩ (.int .i8 3)) := (Fr.refl (One bb) w).setCell (.inr rfl) _ _
  have hB0 : Below (w.setCell ⟨bb, 1, none⟩ (.int .i8 3)).heap.size (w.setCell ⟨bb, 1, none⟩ (.int .i8 3)) ((w.setCell ⟨bb, 1, none⟩ (.int .i8 3)).alloc (.cells #[.slice p.1 l.ws.length p.2, .int .i64 (l.en : Int)] 45)) := (Below.refl _ _).alloc (Nat.le_refl _) _
  have hA0 : At ((w.setCell ⟨bb, 1, none⟩ (.int .i8 3)).alloc (.cells #[.slice p.1 l.ws.length p.2, .int .i64 (l.en : Int)] 45)) w.heap.size #[.slice p.1 l.ws.length p.2, .int .i64 (l.en : Int)] := by have := At.new (w.setCell ⟨bb, 1, none⟩ (.int .i8 3)) #[.slice p.1 l.ws.length p.2, .int .i64 (l.en : Int)] 45; rw [World.size_setCell] at this; exact this
  have hd0 : Dr (w.setCell ⟨bb, 1, none⟩ (.int .i8 3)) r (.slice la ls.length lc) nx m fl := h.fr hG0 (by omega)
  have HS1 : Hid (Lq w ((w.setCell ⟨bb, 1, none⟩ (.int .i8 3)).alloc (.cells #[.slice p.1 l.ws.length p.2, .int .i64 (l.en : Int)] 45)) r bb la lc m ls ps nx (fl) #[.slice p.1 l.ws.length p.2, .int .i64 (l.en : Int)] #[c0, .int .i8 3, .int .u8 0, .slice none 0 0, .int .i64 0, c5] (.slice none 0 0) []) := ⟨hd0.below hB0, (hl.frX hG0 h.lt (fun q hq => by show ¬ _ = _; omega)).fr (Fr.of hB0) hd0.lt, hA0, (at_set hb (j := 1) (by simp) (.int .i8 3)).alloc _, World.ownsRow_nil _ _ _ _, (hG0.mono (fun k _ hk => .inr hk)).then hB0, hrb, hbw⟩
  have q0 := HS1.out.x.c 0 _ rfl
  have q1 := HS1.out.x.c 1 _ rfl
  have HN : Hid _ := hn
  have HW : Hid _ := hw2
  have HR : Hid _ := hres
  obtain ⟨xa, xs⟩ := x
  simp only at hx2
  subst hx2
  have HO4 : Hid _ := ho4
  have HL5 : Hid _ := hl5
  have HL7 : Hid _ := hl7
  clear h hl hn hb hB0 hG0 hA0 hd0 hw2 hres ho4 hl5 hl7
  go_enter Tryz.func34, Tryz.ntmps34
  go_wp2_with (first
    | (go_at_call 33; refine Calls.mono (dreg_any r 1 p l _ nx m fl _ HS1.out.d (HDW.out _ HS1.out.l) HSH.out) ?_; rintro e u0 ⟨a, rfl, hv, hd, hf⟩; have HZ0 : Hid _ := HS1.out.go hd hf; have HS2 : Hid (Lq w (u0.setCell ⟨bb, 2, none⟩ (.int .u8 a)) r bb la lc m ls ps nx (stF (guardR fl (regAt l 1))) #[.slice p.1 l.ws.length p.2, .int .i64 (l.en : Int)] #[c0, .int .i8 3, .int .u8 a, .slice none 0 0, .int .i64 0, c5] (.slice none 0 0) []) := HZ0.out.set 2 (by simp) _; have HV : Hid _ := hv; clear hv hd hf HS1 q0 q1 b1 bf; have z2 := HZ0.out.b.c 2 _ rfl; have zf := HZ0.out.b.f; have q2 := HS2.out.x.c 0 _ rfl; have q3 := HS2.out.x.c 1 _ rfl)
    | (go_at_call 28; refine Calls.mono (dword_any r 2 p l _ nx m (stF (guardR fl (regAt l 1))) _ HS2.out.d (HDW.out _ HS2.out.l)) ?_; rw [HW.out]; rintro e u1 ⟨rfl, hd, hf⟩; have HS3 : Hid (Lq w (u1.alloc (.cells #[.string ⟨#[123]⟩, .int .i64 (xa : Int)] 47)) r bb la lc m ls ps nx (none) #[.slice p.1 l.ws.length p.2, .int .i64 (l.en : Int)] #[c0, .int .i8 3, .int .u8 a, .slice none 0 0, .int .i64 0, c5] (.slice none 0 0) []) := (HS2.out.go hd hf).up ((Below.refl _ _).alloc (Nat.le_refl _) _); clear hd hf HS2 HZ0 q2 q3 z2 zf HW; have q4 := HS3.out.x.c 0 _ rfl; have q5 := HS3.out.x.c 1 _ rfl; simp only [wordV, isOk])
    | (go_at_call_of 30 (Value.int .i64 3); refine Calls.mono (dend_any r 3 p l _ nx m (none) _ HS3.out.d (HDW.out _ HS3.out.l)) ?_; rintro e u3 ⟨rfl, hd, hf⟩; have HS5 : Hid (Lq w (u3) r bb la lc m ls ps nx (stF (guardR none (endsR l 3))) #[.slice p.1 l.ws.length p.2, .int .i64 (l.en : Int)] #[c0, .int .i8 3, .int .u8 a, .slice none 0 0, .int .i64 0, c5] (.slice none 0 0) []) := HS3.out.go hd hf; clear hd hf HS3 q4 q5)
    | (go_at_call 31; refine Calls.mono (dops_any r la ls ps lc nx m (stF (guardR none (endsR l 3))) _ HS5.out.d HS5.out.l HN.out) ?_; rintro e u4 ⟨v, os, n, rfl, hds, hn4, hv4⟩; rw [HO4.out] at hds; obtain ⟨rfl, rfl⟩ := hv4 y HO4.out; obtain ⟨va, vc, rfl⟩ := row_slice hds.row; have HZ5 : Hid (Lq w (u4) r bb la lc m ls ps y.2 (none) #[.slice p.1 l.ws.length p.2, .int .i64 (l.en : Int)] #[c0, .int .i8 3, .int .u8 a, .slice none 0 0, .int .i64 0, c5] (.slice va y.1.length vc) y.1) := HS5.out.ops hds; have HS6 : Hid (Lq w (u4.setCell ⟨bb, 3, none⟩ (.slice va y.1.length vc)) r bb la lc m ls ps y.2 (none) #[.slice p.1 l.ws.length p.2, .int .i64 (l.en : Int)] #[c0, .int .i8 3, .int .u8 a, .slice va y.1.length vc, .int .i64 0, c5] (.slice va y.1.length vc) y.1) := HZ5.out.set 3 (by simp) _; clear hds hn4 hv4 HS5; have z3 := HZ5.out.b.c 3 _ rfl; have zf := HZ5.out.b.f)
    | (go_at_call_of 27 (Value.string ⟨#[125]⟩); refine Calls.mono (dline_any r [125] la ls ps lc y.2 m none _ HS6.out.d HS6.out.l) ?_; rw [show guardR none (lnR [125] ls y.2 m) = .ok l2 from HL5.out]; rintro e u5 ⟨p2, hp2, hi2, rfl, hd, hf⟩; have HS7 : Hid (Lq w (u5.alloc (.cells #[.slice p2.1 l2.ws.length p2.2, .int .i64 (l2.en : Int)] 45)) r bb la lc m ls ps (y.2 + 1) (none) #[.slice p.1 l.ws.length p.2, .int .i64 (l.en : Int)] #[c0, .int .i8 3, .int .u8 a, .slice va y.1.length vc, .int .i64 0, c5] (.slice va y.1.length vc) y.1) := (HS6.out.go hd hf).up ((Below.refl _ _).alloc (Nat.le_refl _) _); have HD2 : Hid (∀ V, DL V r la ls ps → DW V r p2 l2.ws) := fun V h => h.dw hi2 hp2; clear hd hf HS6 HZ5 z3 zf hi2 hp2)
    | (go_at_call_of 30 (Value.int .i64 1); refine Calls.mono (dend_any r 1 p2 l2 _ (y.2 + 1) m none _ HS7.out.d (HD2.out _ HS7.out.l)) ?_; rintro e u6 ⟨rfl, hd, hf⟩; have HS8 : Hid (Lq w (u6) r bb la lc m ls ps (y.2 + 1) (stF (guardR none (endsR l2 1))) #[.slice p.1 l.ws.length p.2, .int .i64 (l.en : Int)] #[c0, .int .i8 3, .int .u8 a, .slice va y.1.length vc, .int .i64 0, c5] (.slice va y.1.length vc) y.1) := HS7.out.go hd hf; clear hd hf HS7)
    | (go_at_call_of 27 (Value.string ⟨#[106, 117, 109, 112]⟩); refine Calls.mono (dline_any r [106, 117, 109, 112] la ls ps lc (y.2 + 1) m _ _ HS8.out.d HS8.out.l) ?_; rw [show guardR (stF (guardR none (endsR l2 1))) (lnR [106, 117, 109, 112] ls (y.2 + 1) m) = .no f from HL7.out]; rintro e u7 ⟨rfl, hd, hf⟩; have HS9 : Hid (Lq w (u7.alloc (.cells #[.slice none 0 0, .int .i64 0] 45)) r bb la lc m ls ps (y.2 + 1) (some f) #[.slice p.1 l.ws.length p.2, .int .i64 (l.en : Int)] #[c0, .int .i8 3, .int .u8 a, .slice va y.1.length vc, .int .i64 0, c5] (.slice va y.1.length vc) y.1) := (HS8.out.go hd hf).up ((Below.refl _ _).alloc (Nat.le_refl _) _); clear hd hf HS8))
  go_end0
  exact HS9.out.done (HR.out)
set_option maxHeartbeats 4000000 in
theorem dloop_w6 (r bb i : Nat) (p : Pw) (l : Ln) (la : Option Addr) (ls : List Ln) (ps : List Pw) (lc nx m : Nat) (fl : Option Wd') (c0 c5 : Value) (RES : R (Int × List O × Int × Nat)) (w : World) (h : Dr w r (.slice la ls.length lc) nx m fl) (hl : DL w r la ls ps) (hi : ls[i]? = some l) (hp : ps[i]? = some p) (hn : nx ≤ ls.length) (hb : At w bb #[c0, .int .i8 0, .int .u8 0, .slice none 0 0, .int .i64 0, c5]) (hrb : r < bb)
    (x : Wd') (hx2 : x.2 = [123]) (hw2 : guardR (stF (guardR fl (regAt l 1))) (wordR l 2) = .ok x) (y : List O × Nat) (ho4 : guardR (stF (guardR none (endsR l 3))) (opsD (ls.drop nx) nx) = .ok y) (l2 : Ln) (hl5 : lnR [125] ls y.2 m = .ok l2) (l3 : Ln) (hl7 : guardR (stF (guardR none (endsR l2 1))) (lnR [106, 117, 109, 112] ls (y.2 + 1) m) = .ok l3) (hres : ∀ a t, (∀ v0, guardR fl (regAt l 1) = .ok v0 → a = v0) → (∀ v0, guardR none (numAt l3 1) = .ok v0 → t = v0) → Bh RES (stF (guardR (stF (guardR none (numAt l3 1))) (endsR l3 2))) (.ok (a, y.1, t, y.2 + 2))) : Calls Tryz.prog 34 #[.pointer (some ⟨r, 0, none⟩), .agg #[.slice p.1 l.ws.length p.2, .int .i64 (l.en : Int)], .pointer (some ⟨bb, 0, none⟩)] w (LoPost w r bb la lc m ls ps c0 c5 RES) := by
  have HDW : Hid (∀ V, DL V r la ls ps → DW V r p l.ws) := fun V h => h.dw hi hp
  have HSH : Hid (ShortW l) := hl.short hi
  have b1 := hb.c 1 _ rfl
  have bf := hb.f
  have hbw := hb.lt
  have hr := h.lt
  have hG0 : Fr (One bb) w (w.setCell ⟨bb, 1, none⟩ (.int .i8 3)) := (Fr.refl (One bb) w).setCell (.inr rfl) _ _
  have hB0 : Below (w.setCell ⟨bb, 1, none⟩ (.int .i8 3)).heap.size (w.setCell ⟨bb, 1, none⟩ (.int .i8 3)) ((w.setCell ⟨bb, 1, none⟩ (.int .i8 3)).alloc (.cells #[.slice p.1 l.ws.length p.2, .int .i64 (l.en : Int)] 45)) := (Below.refl _ _).alloc (Nat.le_refl _) _
  have hA0 : At ((w.setCell ⟨bb, 1, none⟩ (.int .i8 3)).alloc (.cells #[.slice p.1 l.ws.length p.2, .int .i64 (l.en : Int)] 45)) w.heap.size #[.slice p.1 l.ws.length p.2, .int .i64 (l.en : Int)] := by have := At.new (w.setCell ⟨bb, 1, none⟩ (.int .i8 3)) #[.slice p.1 l.ws.length p.2, .int .i64 (l.en : Int)] 45; rw [World.size_setCell] at this; exact this
  have hd0 : Dr (w.setCell ⟨bb, 1, none⟩ (.int .i8 3)) r (.slice la ls.length lc) nx m fl := h.fr hG0 (by omega)
  have HS1 : Hid (Lq w ((w.setCell ⟨bb, 1, none⟩ (.int .i8 3)).alloc (.cells #[.slice p.1 l.ws.length p.2, .int .i64 (l.en : Int)] 45)) r bb la lc m ls ps nx (fl) #[.slice p.1 l.ws.length p.2, .int .i64 (l.en : Int)] #[c0, .int .i8 3, .int .u8 0, .slice none 0 0, .int .i64 0, c5] (.slice none 0 0) []) := ⟨hd0.below hB0, (hl.frX hG0 h.lt (fun q hq => by show ¬ _ = _; omega)).fr (Fr.of hB0) hd0.lt, hA0, (at_set hb (j := 1) (by simp) (.int .i8 3)).alloc _, World.ownsRow_nil _ _ _ _, (hG0.mono (fun k _ hk => .inr hk)).then hB0, hrb, hbw⟩
  have q0 := HS1.out.x.c 0 _ rfl
  have q1 := HS1.out.x.c 1 _ rfl
  have HN : Hid _ := hn
  have HW : Hid _ := hw2
  have HR : Hid _ := hres
  obtain ⟨xa, xs⟩ := x
  simp only at hx2
  subst hx2
  have HO4 : Hid _ := ho4
  have HL5 : Hid _ := hl5
  have HL7 : Hid _ := hl7
  clear h hl hn hb hB0 hG0 hA0 hd0 hw2 hres ho4 hl5 hl7
  go_enter Tryz.func34, Tryz.ntmps34
  go_wp2_with (first
    | (go_at_call 33; refine Calls.mono (dreg_any r 1 p l _ nx m fl _ HS1.out.d (HDW.out _ HS1.out.l) HSH.out) ?_; rintro e u0 ⟨a, rfl, hv, hd, hf⟩; have HZ0 : Hid _ := HS1.out.go hd hf; have HS2 : Hid (Lq w (u0.setCell ⟨bb, 2, none⟩ (.int .u8 a)) r bb la lc m ls ps nx (stF (guardR fl (regAt l 1))) #[.slice p.1 l.ws.length p.2, .int .i64 (l.en : Int)] #[c0, .int .i8 3, .int .u8 a, .slice none 0 0, .int .i64 0, c5] (.slice none 0 0) []) := HZ0.out.set 2 (by simp) _; have HV : Hid _ := hv; clear hv hd hf HS1 q0 q1 b1 bf; have z2 := HZ0.out.b.c 2 _ rfl; have zf := HZ0.out.b.f; have q2 := HS2.out.x.c 0 _ rfl; have q3 := HS2.out.x.c 1 _ rfl)
    | (go_at_call 28; refine Calls.mono (dword_any r 2 p l _ nx m (stF (guardR fl (regAt l 1))) _ HS2.out.d (HDW.out _ HS2.out.l)) ?_; rw [HW.out]; rintro e u1 ⟨rfl, hd, hf⟩; have HS3 : Hid (Lq w (u1.alloc (.cells #[.string ⟨#[123]⟩, .int .i64 (xa : Int)] 47)) r bb la lc m ls ps nx (none) #[.slice p.1 l.ws.length p.2, .int .i64 (l.en : Int)] #[c0, .int .i8 3, .int .u8 a, .slice none 0 0, .int .i64 0, c5] (.slice none 0 0) []) := (HS2.out.go hd hf).up ((Below.refl _ _).alloc (Nat.le_refl _) _); clear hd hf HS2 HZ0 q2 q3 z2 zf HW; have q4 := HS3.out.x.c 0 _ rfl; have q5 := HS3.out.x.c 1 _ rfl; simp only [wordV, isOk])
    | (go_at_call_of 30 (Value.int .i64 3); refine Calls.mono (dend_any r 3 p l _ nx m (none) _ HS3.out.d (HDW.out _ HS3.out.l)) ?_; rintro e u3 ⟨rfl, hd, hf⟩; have HS5 : Hid (Lq w (u3) r bb la lc m ls ps nx (stF (guardR none (endsR l 3))) #[.slice p.1 l.ws.length p.2, .int .i64 (l.en : Int)] #[c0, .int .i8 3, .int .u8 a, .slice none 0 0, .int .i64 0, c5] (.slice none 0 0) []) := HS3.out.go hd hf; clear hd hf HS3 q4 q5)
    | (go_at_call 31; refine Calls.mono (dops_any r la ls ps lc nx m (stF (guardR none (endsR l 3))) _ HS5.out.d HS5.out.l HN.out) ?_; rintro e u4 ⟨v, os, n, rfl, hds, hn4, hv4⟩; rw [HO4.out] at hds; obtain ⟨rfl, rfl⟩ := hv4 y HO4.out; obtain ⟨va, vc, rfl⟩ := row_slice hds.row; have HZ5 : Hid (Lq w (u4) r bb la lc m ls ps y.2 (none) #[.slice p.1 l.ws.length p.2, .int .i64 (l.en : Int)] #[c0, .int .i8 3, .int .u8 a, .slice none 0 0, .int .i64 0, c5] (.slice va y.1.length vc) y.1) := HS5.out.ops hds; have HS6 : Hid (Lq w (u4.setCell ⟨bb, 3, none⟩ (.slice va y.1.length vc)) r bb la lc m ls ps y.2 (none) #[.slice p.1 l.ws.length p.2, .int .i64 (l.en : Int)] #[c0, .int .i8 3, .int .u8 a, .slice va y.1.length vc, .int .i64 0, c5] (.slice va y.1.length vc) y.1) := HZ5.out.set 3 (by simp) _; clear hds hn4 hv4 HS5; have z3 := HZ5.out.b.c 3 _ rfl; have zf := HZ5.out.b.f)
    | (go_at_call_of 27 (Value.string ⟨#[125]⟩); refine Calls.mono (dline_any r [125] la ls ps lc y.2 m none _ HS6.out.d HS6.out.l) ?_; rw [show guardR none (lnR [125] ls y.2 m) = .ok l2 from HL5.out]; rintro e u5 ⟨p2, hp2, hi2, rfl, hd, hf⟩; have HS7 : Hid (Lq w (u5.alloc (.cells #[.slice p2.1 l2.ws.length p2.2, .int .i64 (l2.en : Int)] 45)) r bb la lc m ls ps (y.2 + 1) (none) #[.slice p.1 l.ws.length p.2, .int .i64 (l.en : Int)] #[c0, .int .i8 3, .int .u8 a, .slice va y.1.length vc, .int .i64 0, c5] (.slice va y.1.length vc) y.1) := (HS6.out.go hd hf).up ((Below.refl _ _).alloc (Nat.le_refl _) _); have HD2 : Hid (∀ V, DL V r la ls ps → DW V r p2 l2.ws) := fun V h => h.dw hi2 hp2; clear hd hf HS6 HZ5 z3 zf hi2 hp2)
    | (go_at_call_of 30 (Value.int .i64 1); refine Calls.mono (dend_any r 1 p2 l2 _ (y.2 + 1) m none _ HS7.out.d (HD2.out _ HS7.out.l)) ?_; rintro e u6 ⟨rfl, hd, hf⟩; have HS8 : Hid (Lq w (u6) r bb la lc m ls ps (y.2 + 1) (stF (guardR none (endsR l2 1))) #[.slice p.1 l.ws.length p.2, .int .i64 (l.en : Int)] #[c0, .int .i8 3, .int .u8 a, .slice va y.1.length vc, .int .i64 0, c5] (.slice va y.1.length vc) y.1) := HS7.out.go hd hf; clear hd hf HS7)
    | (go_at_call_of 27 (Value.string ⟨#[106, 117, 109, 112]⟩); refine Calls.mono (dline_any r [106, 117, 109, 112] la ls ps lc (y.2 + 1) m _ _ HS8.out.d HS8.out.l) ?_; rw [show guardR (stF (guardR none (endsR l2 1))) (lnR [106, 117, 109, 112] ls (y.2 + 1) m) = .ok l3 from HL7.out]; rintro e u7 ⟨p3, hp3, hi3, rfl, hd, hf⟩; have HS9 : Hid (Lq w (u7.alloc (.cells #[.slice p3.1 l3.ws.length p3.2, .int .i64 (l3.en : Int)] 45)) r bb la lc m ls ps (y.2 + 2) (none) #[.slice p.1 l.ws.length p.2, .int .i64 (l.en : Int)] #[c0, .int .i8 3, .int .u8 a, .slice va y.1.length vc, .int .i64 0, c5] (.slice va y.1.length vc) y.1) := (HS8.out.go hd hf).up ((Below.refl _ _).alloc (Nat.le_refl _) _); have HD3 : Hid (∀ V, DL V r la ls ps → DW V r p3 l3.ws) := fun V h => h.dw hi3 hp3; have HH3 : Hid (ShortW l3) := HS9.out.l.short hi3; have hb7 := (HS8.out.go hd hf).b.lt; clear hd hf HS8 hi3 hp3)
    | (go_at_call 32; refine Calls.mono (dnum_any r 1 p3 l3 _ (y.2 + 2) m none _ HS9.out.d (HD3.out _ HS9.out.l) HH3.out) ?_; rintro e u8 ⟨t, rfl, ht, hd, hf⟩; have HZ9 : Hid _ := HS9.out.go hd hf; have HSA : Hid (Lq w (u8.setCell ⟨bb, 4, none⟩ (.int .i64 t)) r bb la lc m ls ps (y.2 + 2) (stF (guardR none (numAt l3 1))) #[.slice p.1 l.ws.length p.2, .int .i64 (l.en : Int)] #[c0, .int .i8 3, .int .u8 a, .slice va y.1.length vc, .int .i64 t, c5] (.slice va y.1.length vc) y.1) := HZ9.out.set 4 (by simp) _; have HT : Hid _ := ht; have HX3 : Hid (At u8 u7.heap.size #[.slice p3.1 l3.ws.length p3.2, .int .i64 (l3.en : Int)]) := at_fr (At.new u7 _ 45) hf (by have h1 := HS9.out.h1; have h2 := HS9.out.h2; have h3 := HS9.out.f.size; simp at h3; show ¬ _ = _; omega); clear ht hd hf HS9; have z4 := HZ9.out.b.c 4 _ rfl; have zf := HZ9.out.b.f; have q8 := HX3.out.c 0 _ rfl; have q9 := HX3.out.c 1 _ rfl; have hx3 := HX3.out.lt; have hbu : bb ≠ u7.heap.size := by omega)
    | (go_at_call_of 30 (Value.int .i64 2); refine Calls.mono (dend_any r 2 p3 l3 _ (y.2 + 2) m _ _ HSA.out.d (HD3.out _ HSA.out.l)) ?_; rintro e u9 ⟨rfl, hd, hf⟩; have HSB : Hid (Lq w (u9) r bb la lc m ls ps (y.2 + 2) (stF (guardR (stF (guardR none (numAt l3 1))) (endsR l3 2))) #[.slice p.1 l.ws.length p.2, .int .i64 (l.en : Int)] #[c0, .int .i8 3, .int .u8 a, .slice va y.1.length vc, .int .i64 t, c5] (.slice va y.1.length vc) y.1) := HSA.out.go hd hf; clear hd hf HSA))
  go_end0
  exact HSB.out.done (HR.out a t HV.out HT.out)
/-- loop: a loop's lines. -/
theorem dloop_any (r bb i : Nat) (p : Pw) (l : Ln) (la : Option Addr) (ls : List Ln) (ps : List Pw) (lc nx m : Nat) (fl : Option Wd') (c0 c5 : Value) (w : World) (h : Dr w r (.slice la ls.length lc) nx m fl) (hl : DL w r la ls ps) (hi : ls[i]? = some l) (hp : ps[i]? = some p) (hn : nx ≤ ls.length) (hb : At w bb #[c0, .int .i8 0, .int .u8 0, .slice none 0 0, .int .i64 0, c5]) (hrb : r < bb) :
    Calls Tryz.prog 34 #[.pointer (some ⟨r, 0, none⟩), .agg #[.slice p.1 l.ws.length p.2, .int .i64 (l.en : Int)], .pointer (some ⟨bb, 0, none⟩)] w (LoPost w r bb la lc m ls ps c0 c5 (guardR fl (loopD l ls nx m))) := by
  have hB : Bh (guardR fl (loopD l ls nx m)) fl (loopD l ls nx m) := Bh.start _ _
  generalize guardR fl (loopD l ls nx m) = RES at *
  unfold loopD at hB
  have hB1 : ∀ a, (∀ v0, guardR fl (regAt l 1) = .ok v0 → a = v0) → _ := fun a ha => hB.step (v := a) ha
  obtain ⟨a0, ha0⟩ : ∃ a, ∀ v0, guardR fl (regAt l 1) = .ok v0 → a = v0 := by
    cases guardR fl (regAt l 1) with
    | ok v => exact ⟨v, fun _ h => by cases h; rfl⟩
    | no f => exact ⟨0, fun _ h => by cases h⟩
  cases hw2 : guardR (stF (guardR fl (regAt l 1))) (wordR l 2) with
  | no f => exact dloop_w1 r bb i p l la ls ps lc nx m fl c0 c5 _ w h hl hi hp hn hb hrb f hw2 (bh_no (hB1 a0 ha0) hw2)
  | ok x =>
    have hB2 := fun a ha => bh_ok (hB1 a ha) hw2
    by_cases hx2 : x.2 = [123]
    · have e2 : isR [123] x = .ok () := by unfold isR; rw [if_pos hx2]
      simp only [e2, R.bind_ok] at hB2
      have hB3 : ∀ a, (∀ v0, guardR fl (regAt l 1) = .ok v0 → a = v0) → Bh _ (stF (guardR none (endsR l 3))) _ := fun a ha => Bh.step (fl := none) (v := ()) (hB2 a ha) (fun _ _ => rfl)
      cases ho4 : guardR (stF (guardR none (endsR l 3))) (opsD (ls.drop nx) nx) with
      | no f => exact dloop_w3 r bb i p l la ls ps lc nx m fl c0 c5 _ w h hl hi hp hn hb hrb x hx2 hw2 f ho4 (bh_no (hB3 a0 ha0) ho4)
      | ok y =>
        have hB4 := fun a ha => bh_ok (hB3 a ha) ho4
        cases hl5 : lnR [125] ls y.2 m with
        | no f => exact dloop_w4 r bb i p l la ls ps lc nx m fl c0 c5 _ w h hl hi hp hn hb hrb x hx2 hw2 y ho4 f hl5 (by rw [hB4 a0 ha0, hl5]; rfl)
        | ok l2 =>
          simp only [hl5, R.bind_ok] at hB4
          have hB5 : ∀ a, (∀ v0, guardR fl (regAt l 1) = .ok v0 → a = v0) → Bh _ (stF (guardR none (endsR l2 1))) _ := fun a ha => Bh.step (fl := none) (v := ()) (hB4 a ha) (fun _ _ => rfl)
          cases hl7 : guardR (stF (guardR none (endsR l2 1))) (lnR [106, 117, 109, 112] ls (y.2 + 1) m) with
          | no f => exact dloop_w5 r bb i p l la ls ps lc nx m fl c0 c5 _ w h hl hi hp hn hb hrb x hx2 hw2 y ho4 l2 hl5 f hl7 (bh_no (hB5 a0 ha0) hl7)
          | ok l3 =>
            refine dloop_w6 r bb i p l la ls ps lc nx m fl c0 c5 _ w h hl hi hp hn hb hrb x hx2 hw2 y ho4 l2 hl5 l3 hl7 (fun a t ha ht => ?_)
            have hB6 := bh_ok (hB5 a ha) hl7
            have hB7 := Bh.step (fl := none) (v := t) hB6 ht
            exact Bh.step (v := ()) hB7 (fun _ _ => rfl)
    · have e2 : isR [123] x = .no x := by unfold isR; rw [if_neg hx2]
      exact dloop_w2 r bb i p l la ls ps lc nx m fl c0 c5 _ w h hl hi hp hn hb hrb x hx2 hw2 (by rw [hB2 a0 ha0, e2]; rfl)
end Go.Proofs.YthfchelkfbboaaaGreatDoor.Pr
