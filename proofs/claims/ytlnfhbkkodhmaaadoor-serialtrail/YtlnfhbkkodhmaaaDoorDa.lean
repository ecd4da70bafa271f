/- The document's machine in memory: what its cells hold, and what a store makes of them. Conditions: none. -/
import Derived.Test.YtlnfhbkkodhmaaaDoorQc
namespace Go.Proofs.YtlnfhbkkodhmaaaDoor.Sm
open Go.ChangeShapes Go.WideShapes Go.ChangeAt Go.RowKit
open _root_.Go.Proofs.YtlnfhbkkodhmaaaDoor.Op _root_.Go.Proofs.YtlnfhbkkodhmaaaDoor.So
set_option maxRecDepth 20000

/-- What the document's machine's cells hold; L: the last step's tag. -/
def dG (ba : Option Addr) (bl bc : Nat) (po : Option Addr) (pc : Nat) (M : Ma) (L : Tg) (j : Nat) : Value :=
  if j = 0 then .slice ba bl bc else if j < 33 then .int .i64 (M.r (j - 1)) else if j < 289 then .int .i64 (M.m (j - 33)) else if j = 289 then .int .i64 (M.b : Int) else if j = 290 then .bool M.y else if j = 291 then .int .i64 (M.o : Int)
  else if j = 292 then .int .i64 M.n else if j = 293 then .int .i64 (M.s : Int) else if j = 294 then .slice po M.pr.length pc else if j = 295 then .bool (M.e != 100) else if j = 296 then .int .i64 (if M.e = 101 then 101 else 0) else if j = 297 then .int .i64 M.v
  else if j = 298 then .int .i64 L.1 else if j = 299 then .bool L.2.1 else if j = 300 then .int .i64 L.2.2 else .bool false
def updV (f : Nat → Value) (k : Nat) (v : Value) : Nat → Value := fun j => if j = k then v else f j
/-- A block of 302 cells. -/
structure DAt (w : World) (q : Nat) (f : Nat → Value) : Prop where
  lt : q < w.heap.size
  fz : ∀ j : Nat, w.frozen? ⟨q, j, none⟩ = false
  c : ∀ j : Nat, j < 302 → w.cell? ⟨q, j, none⟩ = some (f j)
theorem DAt.fr {X : Nat → Prop} {w w' : World} {q : Nat} {f : Nat → Value} (h : DAt w q f) (g : Fr X w w') (hx : ¬ X q) : DAt w' q f :=
  ⟨Nat.lt_of_lt_of_le h.lt g.size, fun j => (g.frozen h.lt hx j).trans (h.fz j), fun j hj => (g.cell h.lt hx j).trans (h.c j hj)⟩
theorem DAt.up {w w' : World} {q : Nat} {f : Nat → Value} (h : DAt w q f) (g : Below w.heap.size w w') : DAt w' q f := h.fr (Fr.of (X := Non) g) fun h => h
theorem DAt.set {w : World} {q : Nat} {f : Nat → Value} (h : DAt w q f) {k : Nat} (hk : k < 302) (v : Value) : DAt (w.setCell ⟨q, k, none⟩ v) q (updV f k v) := by
  refine ⟨by rw [World.size_setCell]; exact h.lt, fun j => by rw [World.frozen?_setCell]; exact h.fz j, fun j hj => ?_⟩
  unfold updV
  by_cases e : j = k
  · subst e; rw [cs (h.c j hj), if_pos rfl]
  · rw [co (fun e' => e e'.symm), h.c j hj, if_neg e]
section
variable {ba : Option Addr} {bl bc : Nat} {po : Option Addr} {pc : Nat} {M : Ma} {L : Tg}
theorem dG_r (M : Ma) (L : Tg) {i : Nat} (h : i < 32) : dG ba bl bc po pc M L (1 + i) = .int .i64 (M.r i) := by
  unfold dG
  rw [if_neg (by omega), if_pos (by omega), show 1 + i - 1 = i by omega]
theorem dG_m (M : Ma) (L : Tg) {i : Nat} (h : i < 256) : dG ba bl bc po pc M L (33 + i) = .int .i64 (M.m i) := by
  unfold dG
  rw [if_neg (by omega), if_neg (by omega), if_pos (by omega), show 33 + i - 33 = i by omega]
theorem up_b (k : Nat) : updV (dG ba bl bc po pc M L) 289 (.int .i64 (k : Int)) = dG ba bl bc po pc { M with b := k } L := by
  funext j; unfold updV dG
  by_cases e : j = 289
  · subst e; rfl
  · simp [e]
theorem up_y (k : Bool) : updV (dG ba bl bc po pc M L) 290 (.bool k) = dG ba bl bc po pc { M with y := k } L := by
  funext j; unfold updV dG
  by_cases e : j = 290
  · subst e; rfl
  · simp [e]
theorem up_o (k : Nat) : updV (dG ba bl bc po pc M L) 291 (.int .i64 (k : Int)) = dG ba bl bc po pc { M with o := k } L := by
  funext j; unfold updV dG
  by_cases e : j = 291
  · subst e; rfl
  · simp [e]
theorem up_n (k : Int) : updV (dG ba bl bc po pc M L) 292 (.int .i64 k) = dG ba bl bc po pc { M with n := k } L := by
  funext j; unfold updV dG
  by_cases e : j = 292
  · subst e; rfl
  · simp [e]
theorem up_s (k : Nat) : updV (dG ba bl bc po pc M L) 293 (.int .i64 (k : Int)) = dG ba bl bc po pc { M with s := k } L := by
  funext j; unfold updV dG
  by_cases e : j = 293
  · subst e; rfl
  · simp [e]
theorem up_p (po' : Option Addr) (pc' : Nat) (l : List Int) : updV (dG ba bl bc po pc M L) 294 (.slice po' l.length pc') = dG ba bl bc po' pc' { M with pr := l } L := by
  funext j; unfold updV dG
  by_cases e : j = 294
  · subst e; rfl
  · simp [e]
theorem up_halt (v : Int) : updV (updV (updV (dG ba bl bc po pc M L) 295 (.bool true)) 296 (.int .i64 0)) 297 (.int .i64 v) = dG ba bl bc po pc { M with e := 0, v := v } L := by
  funext j; unfold updV dG
  by_cases e : j = 297
  · subst e; rfl
  · by_cases e1 : j = 296
    · subst e1; rfl
    · by_cases e2 : j = 295
      · subst e2; rfl
      · simp [e, e1, e2]
theorem up_trap : updV (updV (dG ba bl bc po pc M L) 295 (.bool true)) 296 (.int .i64 101) = dG ba bl bc po pc { M with e := 101 } L := by
  funext j; unfold updV dG
  by_cases e1 : j = 296
  · subst e1; rfl
  · by_cases e2 : j = 295
    · subst e2; rfl
    · simp [e1, e2]
theorem up_r {i : Nat} (hi : i < 32) (v : Int) : updV (dG ba bl bc po pc M L) (1 + i) (.int .i64 v) = dG ba bl bc po pc { M with r := upd M.r i v } L := by
  funext j
  by_cases e : j = 1 + i
  · subst e
    rw [dG_r _ _ hi]
    show (if 1 + i = 1 + i then Value.int .i64 v else _) = Value.int .i64 (upd M.r i v i)
    rw [if_pos rfl, upd_same]
  · show (if j = 1 + i then Value.int .i64 v else dG ba bl bc po pc M L j) = _
    rw [if_neg e]
    unfold dG
    by_cases h0 : j = 0
    · rw [if_pos h0, if_pos h0]
    · rw [if_neg h0, if_neg h0]
      by_cases h1 : j < 33
      · rw [if_pos h1, if_pos h1]
        show _ = Value.int .i64 (upd M.r i v (j - 1))
        rw [upd_other _ _ (by omega)]
      · rw [if_neg h1, if_neg h1]
theorem up_m {i : Nat} (hi : i < 256) (v : Int) : updV (dG ba bl bc po pc M L) (33 + i) (.int .i64 v) = dG ba bl bc po pc { M with m := upd M.m i v } L := by
  funext j
  by_cases e : j = 33 + i
  · subst e
    rw [dG_m _ _ hi]
    show (if 33 + i = 33 + i then Value.int .i64 v else _) = Value.int .i64 (upd M.m i v i)
    rw [if_pos rfl, upd_same]
  · show (if j = 33 + i then Value.int .i64 v else dG ba bl bc po pc M L j) = _
    rw [if_neg e]
    unfold dG
    by_cases h0 : j = 0
    · rw [if_pos h0, if_pos h0]
    · rw [if_neg h0, if_neg h0]
      by_cases h1 : j < 33
      · rw [if_pos h1, if_pos h1]
      · rw [if_neg h1, if_neg h1]
        by_cases h2 : j < 289
        · rw [if_pos h2, if_pos h2]
          show _ = Value.int .i64 (upd M.m i v (j - 33))
          rw [upd_other _ _ (by omega)]
        · rw [if_neg h2, if_neg h2]
theorem up_l (t : Tg) : updV (updV (updV (updV (dG ba bl bc po pc M L) 298 (.int .i64 t.1)) 299 (.bool t.2.1)) 300 (.int .i64 t.2.2)) 301 (.bool false) = dG ba bl bc po pc M t := by
  funext j; unfold updV dG
  by_cases e : j = 301
  · subst e; rfl
  · by_cases e1 : j = 300
    · subst e1; rfl
    · by_cases e2 : j = 299
      · subst e2; rfl
      · by_cases e3 : j = 298
        · subst e3; rfl
        · simp [e, e1, e2, e3]
end
/-- The document's machine with its program; T: what it may turn. -/
structure DR (w : World) (q : Nat) (ps : List Bk) (T : Nat → Prop) (M : Ma) (L : Tg) : Prop where
  ex : ∃ ba bc po pc, DAt w q (dG ba ps.length bc po pc M L) ∧ PIn w (fun k => T k ∨ q ≤ k) ba ps ∧ w.ownsRow (q + 1) 2 1 (.slice po M.pr.length pc) M.pr.length (nums M.pr) ∧ ∀ a, po = some a → T a.block
  tq : T q
  tl : ∀ k, T k → k < w.heap.size
structure DM (w : World) (q : Nat) (ps : List Bk) (T : Nat → Prop) (M : Ma) (L : Tg) : Prop where
  dr : DR w q ps T M L
  inv : Inv ps M
  ps : PsM ps
  eo : EOk M
theorem DM.up {w w' : World} {q : Nat} {ps : List Bk} {T : Nat → Prop} {M : Ma} {L : Tg} (h : DM w q ps T M L) (hb : Below w.heap.size w w') : DM w' q ps T M L := by
  obtain ⟨ba, bc, po, pc, h1, h2, h3, h4⟩ := h.dr.ex
  exact ⟨⟨⟨ba, bc, po, pc, h1.up hb, h2.fr (Fr.of hb), row_up h3 hb, h4⟩, h.dr.tq, fun k hk => Nat.lt_of_lt_of_le (h.dr.tl k hk) hb.size⟩, h.inv, h.ps, h.eo⟩
theorem DM.apart {w w' : World} {q : Nat} {ps : List Bk} {T X : Nat → Prop} {M : Ma} {L : Tg} (h : DM w q ps T M L) (g : Fr X w w') (hx : ∀ k, T k → ¬ X k) (hp : ∀ ba bc po pc, DAt w q (dG ba ps.length bc po pc M L) → PIn w (fun k => T k ∨ q ≤ k) ba ps → PIn w X ba ps) : DM w' q ps T M L := by
  obtain ⟨ba, bc, po, pc, h1, h2, h3, h4⟩ := h.dr.ex
  have h2' : PIn w' (fun k => T k ∨ q ≤ k) ba ps := by
    have hX := hp ba bc po pc h1 h2
    have hA : PIn w (fun k => (T k ∨ q ≤ k) ∨ X k) ba ps := by
      refine ⟨h2.len, fun h0 => ?_⟩
      obtain ⟨b, f, e, z, hT, hc⟩ := h2.is h0
      obtain ⟨b', f', e', -, hX', hc'⟩ := hX.is h0
      rw [e'] at e; cases e
      refine ⟨b, f, e', z, fun h => h.elim hT hX', fun i hi => ?_⟩
      obtain ⟨p, k1, k2, k3, k4⟩ := hc i hi
      obtain ⟨p', j1, j2, j3, j4⟩ := hc' i hi
      have e1 : p'.oa = p.oa := by have := j1.c0.symm.trans k1.c0; injection this with this; injection this
      have e2 : p'.ba = p.ba := by have := j1.c3.symm.trans k1.c3; injection this with this; injection this
      rw [e1] at j3; rw [e2] at j4
      exact ⟨p, k1, k2, fun h a ha hh => hh.elim (k3 h a ha) (j3 h a ha), fun h a ha hh => hh.elim (k4 h a ha) (j4 h a ha)⟩
    exact (hA.fr (g.mono fun _ _ h => .inr h)).grow fun _ _ h => .inl h
  refine ⟨⟨⟨ba, bc, po, pc, h1.fr g (hx q h.dr.tq), h2', row_fr h3 g fun k hk => ?_, h4⟩, h.dr.tq, fun k hk => Nat.lt_of_lt_of_le (h.dr.tl k hk) g.size⟩, h.inv, h.ps, h.eo⟩
  cases po with
  | none => simp [Value.ownBlock] at hk
  | some a =>
    simp only [Value.ownBlock, Option.some.injEq] at hk
    subst hk
    exact hx _ (h4 a rfl)
/-- One block turned: the machine's own. -/
theorem dr_one {w w' : World} {q bc pc : Nat} {ps : List Bk} {T : Nat → Prop} {M M' : Ma} {L' : Tg} {ba po : Option Addr} (hP : PIn w (fun k => T k ∨ q ≤ k) ba ps) (hR : w.ownsRow (q + 1) 2 1 (.slice po M.pr.length pc) M.pr.length (nums M.pr)) (hT : ∀ a, po = some a → T a.block) (tq : T q) (tl : ∀ k, T k → k < w.heap.size)
    (hM : DAt w' q (dG ba ps.length bc po pc M' L')) (hF : Fr (One q) w w') (hpr : M'.pr = M.pr) : DR w' q ps T M' L' ∧ Tn w T w' T := by
  have hF' : Fr T w w' := hF.mono fun k _ e => by rw [show k = q from e]; exact tq
  refine ⟨⟨⟨ba, bc, po, pc, hM, hP.fr (hF'.mono fun _ _ h => .inl h), ?_, hT⟩, tq, fun k hk => Nat.lt_of_lt_of_le (tl k hk) hF.size⟩, hF', fun _ h => .inl h⟩
  rw [hpr]
  exact row_fr hR hF fun k hk e => by have := (hR.lt k hk).1; have e : k = q := e; omega
/-- Whatever turns apart from it leaves it. -/
theorem DM.aside {w w' : World} {q : Nat} {ps : List Bk} {T X : Nat → Prop} {M : Ma} {L : Tg} (h : DM w q ps T M L) (g : Fr X w w') (hx : ∀ k, T k → q ≤ k → ¬ X k) (hp : ∀ k, k < w.heap.size → X k → T k ∨ q ≤ k) : DM w' q ps T M L := by
  obtain ⟨ba, bc, po, pc, h1, h2, h3, h4⟩ := h.dr.ex
  refine ⟨⟨⟨ba, bc, po, pc, h1.fr g (hx q h.dr.tq (Nat.le_refl _)), h2.fr (g.mono hp), row_fr h3 g fun k hk => ?_, h4⟩, h.dr.tq, fun k hk => Nat.lt_of_lt_of_le (h.dr.tl k hk) g.size⟩, h.inv, h.ps, h.eo⟩
  have hlt := (h3.lt k hk).1
  cases po with
  | none => simp [Value.ownBlock] at hk
  | some a =>
    simp only [Value.ownBlock, Option.some.injEq] at hk
    subst hk
    exact hx _ (h4 a rfl) (by omega)
/-- A machine is said to turn a block without a kind, too. -/
theorem DM.widen {w : World} {q b : Nat} {ps : List Bk} {T : Nat → Prop} {M : Ma} {L : Tg} (h : DM w q ps T M L) (hb : b < w.heap.size) (hn : NoK w b) : DM w q ps (fun k => T k ∨ k = b) M L := by
  obtain ⟨ba, bc, po, pc, h1, h2, h3, h4⟩ := h.dr.ex
  have h2' : PIn w (fun k => (T k ∨ k = b) ∨ q ≤ k) ba ps := by
    have fa : ∀ {a : Option Addr} {xs : List O}, OpsAt w a xs → Far (fun k => T k ∨ q ≤ k) a xs.length → Far (fun k => (T k ∨ k = b) ∨ q ≤ k) a xs.length := fun {a xs} ho hf h0 x e hx => by
      obtain ⟨b', f, e', z, hc⟩ := ho.is h0
      rw [e'] at e; cases e
      rcases hx with (hx | hx) | hx
      · exact hf h0 _ e' (.inl hx)
      · have hx : b' = b := hx
        subst hx
        exact hn _ _ (hc 0 h0).c0
      · exact hf h0 _ e' (.inr hx)
    refine ⟨h2.len, fun h0 => ?_⟩
    obtain ⟨b', f, e, z, hT, hc⟩ := h2.is h0
    refine ⟨b', f, e, z, fun hx => ?_, fun i hi => ?_⟩
    · rcases hx with (hx | hx) | hx
      · exact hT (.inl hx)
      · subst hx
        obtain ⟨p, k1, -⟩ := hc 0 h0
        exact hn _ _ k1.c1
      · exact hT (.inr hx)
    · obtain ⟨p, k1, k2, k3, k4⟩ := hc i hi
      exact ⟨p, k1, k2, fa k2.o k3, fa k2.b k4⟩
  exact ⟨⟨⟨ba, bc, po, pc, h1, h2', h3, fun a e => .inl (h4 a e)⟩, .inl h.dr.tq, fun k hk => hk.elim (h.dr.tl k) fun e => by rw [e]; exact hb⟩, h.inv, h.ps, h.eo⟩
end Go.Proofs.YtlnfhbkkodhmaaaDoor.Sm
