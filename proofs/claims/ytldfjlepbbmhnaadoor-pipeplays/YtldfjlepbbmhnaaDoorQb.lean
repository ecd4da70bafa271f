/- The machine in memory: its cells, what is in flight, what was printed, the bundles that it reads; what is kept where some of it turns. Conditions: none. -/
import Derived.Test.YtldfjlepbbmhnaaDoorQa
import Derived.Test.YtldfjlepbbmhnaaDoorWh
namespace Go.Proofs.YtldfjlepbbmhnaaDoor.Pp
open Go.ChangeShapes Go.WideShapes Go.ChangeAt Go.RowKit
open _root_.Go.Proofs.YtldfjlepbbmhnaaDoor.Op _root_.Go.Proofs.YtldfjlepbbmhnaaDoor.So _root_.Go.Proofs.YtldfjlepbbmhnaaDoor.Bu
open _root_.Go.Proofs.YtldfjlepbbmhnaaDoor.Tb (Tab TabAt Bnds)
set_option maxRecDepth 20000

/-- Where the machine's parts lie. -/
structure Hx where
  mb : Nat
  ba : Option Addr
  bc : Nat
  rv : Nat → Value
  pv : Value
def fcells (l : List F) : List Value := l.flatMap fun x => [.int .u8 x.w, .int .u8 x.n, .int .i64 x.v]
theorem fcells_snoc (l : List F) (x : F) : fcells (l ++ [x]) = fcells l ++ [.int .u8 x.w, .int .u8 x.n, .int .i64 x.v] := by unfold fcells; simp
theorem fcells_at {l : List F} {j : Nat} {x : F} (h : l[j]? = some x) : (fcells l)[j * 3]? = some (.int .u8 x.w) ∧ (fcells l)[j * 3 + 1]? = some (.int .u8 x.n) ∧ (fcells l)[j * 3 + 2]? = some (.int .i64 x.v) := by
  induction l generalizing j with
  | nil => simp at h
  | cons y l ih =>
    have hc : fcells (y :: l) = [.int .u8 y.w, .int .u8 y.n, .int .i64 y.v] ++ fcells l := rfl
    cases j with
    | zero =>
      simp only [List.getElem?_cons_zero, Option.some.injEq] at h
      subst h
      rw [hc]
      exact ⟨rfl, rfl, rfl⟩
    | succ j =>
      have := ih (j := j) (by simpa using h)
      rw [hc, show (j + 1) * 3 = j * 3 + 3 by omega]
      exact this
/-- The machine's cells. -/
structure MC (W : World) (t : Tab) (n : Nat) (H : Hx) (S : PM) : Prop where
  lt : H.mb < W.heap.size
  fz : ∀ j, W.frozen? ⟨H.mb, j, none⟩ = false
  b : W.cell? ⟨H.mb, 0, none⟩ = some (.slice H.ba n H.bc)
  tu : ∀ k, k < 4 → W.cell? ⟨H.mb, 1 + k, none⟩ = some (.int .i64 (t.u k))
  tl : ∀ k, k < 4 → W.cell? ⟨H.mb, 5 + k, none⟩ = some (.int .i64 (t.l k))
  tb : ∀ k, k < 4 → W.cell? ⟨H.mb, 9 + k, none⟩ = some (.int .i64 (t.b k))
  td : W.cell? ⟨H.mb, 13, none⟩ = some (.int .i64 t.d)
  r : ∀ k, k < 32 → W.cell? ⟨H.mb, 14 + k, none⟩ = some (.int .i64 (S.r k))
  m : ∀ k, k < 256 → W.cell? ⟨H.mb, 46 + k, none⟩ = some (.int .i64 (S.m k))
  a : W.cell? ⟨H.mb, 302, none⟩ = some (.int .i64 S.a)
  c : W.cell? ⟨H.mb, 303, none⟩ = some (.int .u64 S.c)
  f : ∀ k, k < 8 → W.cell? ⟨H.mb, 304 + k, none⟩ = some (H.rv k)
  e : W.cell? ⟨H.mb, 312, none⟩ = some (.int .i64 S.e)
  v : W.cell? ⟨H.mb, 313, none⟩ = some (.int .i64 S.v)
  p : W.cell? ⟨H.mb, 314, none⟩ = some (H.pv)
  s : W.cell? ⟨H.mb, 315, none⟩ = some (.int .i64 (S.s : Int))
def own (H : Hx) : Nat → Prop := fun b => b = H.mb ∨ (∃ i, i < 8 ∧ (H.rv i).ownBlock = some b) ∨ H.pv.ownBlock = some b
structure Mch (W : World) (t : Tab) (bs : List Bn) (H : Hx) (S : PM) : Prop where
  c : MC W t bs.length H S
  rr : ∀ k, k < 8 → W.ownsRow 0 118 3 (H.rv k) (S.f k).length (fcells (S.f k))
  pp : W.ownsRow 0 2 1 H.pv S.p.length (S.p.map fun x => .int .i64 x)
  d1 : ∀ i, i < 8 → ∀ j, j < 8 → i ≠ j → ∀ b, (H.rv i).ownBlock = some b → (H.rv j).ownBlock ≠ some b
  d2 : ∀ i, i < 8 → ∀ b, (H.rv i).ownBlock = some b → H.pv.ownBlock ≠ some b
  d3 : ∀ i, i < 8 → (H.rv i).ownBlock ≠ some H.mb
  d4 : H.pv.ownBlock ≠ some H.mb
  bF : ∀ W', Fr (own H) W W' → BsAt W' H.ba bs
/-- What may turn goes on. -/
structure Tn (W : World) (H : Hx) (W' : World) (H' : Hx) : Prop where
  f : Fr (own H) W W'
  t : ∀ b, own H' b → own H b ∨ W.heap.size ≤ b
  q : H'.mb = H.mb
  a : H'.ba = H.ba
theorem Tn.of {W W' : World} {H : Hx} (g : Below W.heap.size W W') : Tn W H W' H := ⟨Fr.of g, fun _ h => .inl h, rfl, rfl⟩
theorem Tn.refl (W : World) (H : Hx) : Tn W H W H := Tn.of (Below.refl _ _)
theorem Tn.trans {W W1 W2 : World} {H H1 H2 : Hx} (h : Tn W H W1 H1) (g : Tn W1 H1 W2 H2) : Tn W H W2 H2 :=
  ⟨h.f.trans g.f fun k hk hy => (h.t k hy).elim id fun e => absurd hk (by omega), fun b hb => (g.t b hb).elim (h.t b) fun e => .inr (Nat.le_trans h.f.size e), g.q.trans h.q, g.a.trans h.a⟩
theorem Tn.up {W W1 W2 : World} {H H1 : Hx} (h : Tn W H W1 H1) (g : Below W1.heap.size W1 W2) : Tn W H W2 H1 := h.trans (Tn.of g)
theorem MC.fr {W W' : World} {t : Tab} {n : Nat} {H : Hx} {S : PM} {X : Nat → Prop} (h : MC W t n H S) (g : Fr X W W') (hx : ¬ X H.mb) : MC W' t n H S := by
  have c := fun o => g.cell h.lt hx o
  have f := fun o => g.frozen h.lt hx o
  exact ⟨Nat.lt_of_lt_of_le h.lt g.size, fun j => (f j).trans (h.fz j), (c _).trans h.b, fun k hk => (c _).trans (h.tu k hk), fun k hk => (c _).trans (h.tl k hk), fun k hk => (c _).trans (h.tb k hk), (c _).trans h.td, fun k hk => (c _).trans (h.r k hk), fun k hk => (c _).trans (h.m k hk), (c _).trans h.a, (c _).trans h.c, fun k hk => (c _).trans (h.f k hk), (c _).trans h.e, (c _).trans h.v, (c _).trans h.p, (c _).trans h.s⟩
theorem bF_go {W W' : World} {bs : List Bn} {H H' : Hx} (h : ∀ V, Fr (own H) W V → BsAt V H.ba bs) (g : Tn W H W' H') (e : H'.ba = H.ba) : ∀ V, Fr (own H') W' V → BsAt V H'.ba bs := fun V hV => by
  rw [e]
  exact h V (g.f.trans hV fun k hk hy => (g.t k hy).elim id fun e => absurd hk (by omega))
theorem Mch.up {W W' : World} {t : Tab} {bs : List Bn} {H : Hx} {S : PM} (h : Mch W t bs H S) (g : Below W.heap.size W W') : Mch W' t bs H S :=
  ⟨h.c.fr (Fr.of (X := Non) g) (fun e => e), fun k hk => row_up (h.rr k hk) g, row_up h.pp g, h.d1, h.d2, h.d3, h.d4, bF_go h.bF (Tn.of g) rfl⟩
/-- The machine's own block alone turns. -/
theorem Mch.one {W W' : World} {t : Tab} {bs : List Bn} {H : Hx} {S S' : PM} (h : Mch W t bs H S) (c : MC W' t bs.length H S') (g : Fr (One H.mb) W W') (hf : S'.f = S.f) (hp : S'.p = S.p) : Mch W' t bs H S' ∧ Tn W H W' H := by
  have tn : Tn W H W' H := ⟨g.mono fun k _ e => .inl e, fun _ h => .inl h, rfl, rfl⟩
  refine ⟨⟨c, fun k hk => ?_, ?_, h.d1, h.d2, h.d3, h.d4, bF_go h.bF tn rfl⟩, tn⟩
  · rw [hf]; exact row_fr (h.rr k hk) g fun b e e2 => by
      have e2 : b = H.mb := e2
      subst e2
      exact h.d3 k hk e
  · rw [hp]; exact row_fr h.pp g fun b e e2 => by
      have e2 : b = H.mb := e2
      subst e2
      exact h.d4 e
section
variable {W : World} {t : Tab} {n : Nat} {H : Hx} {S : PM}
theorem MC.hs (_h : MC W t n H S) {j : Nat} (v : Value) (hj : ∃ u, W.cell? ⟨H.mb, j, none⟩ = some u) (q : Nat) : (W.setCell ⟨H.mb, j, none⟩ v).cell? ⟨H.mb, q, none⟩ = if q = j then some v else W.cell? ⟨H.mb, q, none⟩ := cell_set (W := W) (b := H.mb) (o := j) v q hj
theorem MC.setA (h : MC W t n H S) (x : Int) : MC (W.setCell ⟨H.mb, 302, none⟩ (.int .i64 x)) t n H { S with a := x } := by
  have hs := h.hs (j := 302) (.int .i64 x) ⟨_, h.a⟩
  refine ⟨by simpa using h.lt, fun j => by simp only [World.frozen?_setCell]; exact h.fz j, (hs _).trans ((if_neg (by omega)).trans h.b), fun j hj => (hs _).trans ((if_neg (by omega)).trans (h.tu j hj)), fun j hj => (hs _).trans ((if_neg (by omega)).trans (h.tl j hj)), fun j hj => (hs _).trans ((if_neg (by omega)).trans (h.tb j hj)), (hs _).trans ((if_neg (by omega)).trans h.td), fun j hj => (hs _).trans ((if_neg (by omega)).trans (h.r j hj)), fun j hj => (hs _).trans ((if_neg (by omega)).trans (h.m j hj)), (hs _).trans (if_pos rfl), (hs _).trans ((if_neg (by omega)).trans h.c), fun j hj => (hs _).trans ((if_neg (by omega)).trans (h.f j hj)), (hs _).trans ((if_neg (by omega)).trans h.e), (hs _).trans ((if_neg (by omega)).trans h.v), (hs _).trans ((if_neg (by omega)).trans h.p), (hs _).trans ((if_neg (by omega)).trans h.s)⟩
theorem MC.setC (h : MC W t n H S) (x : Int) : MC (W.setCell ⟨H.mb, 303, none⟩ (.int .u64 x)) t n H { S with c := x } := by
  have hs := h.hs (j := 303) (.int .u64 x) ⟨_, h.c⟩
  refine ⟨by simpa using h.lt, fun j => by simp only [World.frozen?_setCell]; exact h.fz j, (hs _).trans ((if_neg (by omega)).trans h.b), fun j hj => (hs _).trans ((if_neg (by omega)).trans (h.tu j hj)), fun j hj => (hs _).trans ((if_neg (by omega)).trans (h.tl j hj)), fun j hj => (hs _).trans ((if_neg (by omega)).trans (h.tb j hj)), (hs _).trans ((if_neg (by omega)).trans h.td), fun j hj => (hs _).trans ((if_neg (by omega)).trans (h.r j hj)), fun j hj => (hs _).trans ((if_neg (by omega)).trans (h.m j hj)), (hs _).trans ((if_neg (by omega)).trans h.a), (hs _).trans (if_pos rfl), fun j hj => (hs _).trans ((if_neg (by omega)).trans (h.f j hj)), (hs _).trans ((if_neg (by omega)).trans h.e), (hs _).trans ((if_neg (by omega)).trans h.v), (hs _).trans ((if_neg (by omega)).trans h.p), (hs _).trans ((if_neg (by omega)).trans h.s)⟩
theorem MC.setE (h : MC W t n H S) (x : Int) : MC (W.setCell ⟨H.mb, 312, none⟩ (.int .i64 x)) t n H { S with e := x } := by
  have hs := h.hs (j := 312) (.int .i64 x) ⟨_, h.e⟩
  refine ⟨by simpa using h.lt, fun j => by simp only [World.frozen?_setCell]; exact h.fz j, (hs _).trans ((if_neg (by omega)).trans h.b), fun j hj => (hs _).trans ((if_neg (by omega)).trans (h.tu j hj)), fun j hj => (hs _).trans ((if_neg (by omega)).trans (h.tl j hj)), fun j hj => (hs _).trans ((if_neg (by omega)).trans (h.tb j hj)), (hs _).trans ((if_neg (by omega)).trans h.td), fun j hj => (hs _).trans ((if_neg (by omega)).trans (h.r j hj)), fun j hj => (hs _).trans ((if_neg (by omega)).trans (h.m j hj)), (hs _).trans ((if_neg (by omega)).trans h.a), (hs _).trans ((if_neg (by omega)).trans h.c), fun j hj => (hs _).trans ((if_neg (by omega)).trans (h.f j hj)), (hs _).trans (if_pos rfl), (hs _).trans ((if_neg (by omega)).trans h.v), (hs _).trans ((if_neg (by omega)).trans h.p), (hs _).trans ((if_neg (by omega)).trans h.s)⟩
theorem MC.setV (h : MC W t n H S) (x : Int) : MC (W.setCell ⟨H.mb, 313, none⟩ (.int .i64 x)) t n H { S with v := x } := by
  have hs := h.hs (j := 313) (.int .i64 x) ⟨_, h.v⟩
  refine ⟨by simpa using h.lt, fun j => by simp only [World.frozen?_setCell]; exact h.fz j, (hs _).trans ((if_neg (by omega)).trans h.b), fun j hj => (hs _).trans ((if_neg (by omega)).trans (h.tu j hj)), fun j hj => (hs _).trans ((if_neg (by omega)).trans (h.tl j hj)), fun j hj => (hs _).trans ((if_neg (by omega)).trans (h.tb j hj)), (hs _).trans ((if_neg (by omega)).trans h.td), fun j hj => (hs _).trans ((if_neg (by omega)).trans (h.r j hj)), fun j hj => (hs _).trans ((if_neg (by omega)).trans (h.m j hj)), (hs _).trans ((if_neg (by omega)).trans h.a), (hs _).trans ((if_neg (by omega)).trans h.c), fun j hj => (hs _).trans ((if_neg (by omega)).trans (h.f j hj)), (hs _).trans ((if_neg (by omega)).trans h.e), (hs _).trans (if_pos rfl), (hs _).trans ((if_neg (by omega)).trans h.p), (hs _).trans ((if_neg (by omega)).trans h.s)⟩
theorem MC.setS (h : MC W t n H S) (x : Nat) : MC (W.setCell ⟨H.mb, 315, none⟩ (.int .i64 (x : Int))) t n H { S with s := x } := by
  have hs := h.hs (j := 315) (.int .i64 (x : Int)) ⟨_, h.s⟩
  refine ⟨by simpa using h.lt, fun j => by simp only [World.frozen?_setCell]; exact h.fz j, (hs _).trans ((if_neg (by omega)).trans h.b), fun j hj => (hs _).trans ((if_neg (by omega)).trans (h.tu j hj)), fun j hj => (hs _).trans ((if_neg (by omega)).trans (h.tl j hj)), fun j hj => (hs _).trans ((if_neg (by omega)).trans (h.tb j hj)), (hs _).trans ((if_neg (by omega)).trans h.td), fun j hj => (hs _).trans ((if_neg (by omega)).trans (h.r j hj)), fun j hj => (hs _).trans ((if_neg (by omega)).trans (h.m j hj)), (hs _).trans ((if_neg (by omega)).trans h.a), (hs _).trans ((if_neg (by omega)).trans h.c), fun j hj => (hs _).trans ((if_neg (by omega)).trans (h.f j hj)), (hs _).trans ((if_neg (by omega)).trans h.e), (hs _).trans ((if_neg (by omega)).trans h.v), (hs _).trans ((if_neg (by omega)).trans h.p), (hs _).trans (if_pos rfl)⟩
theorem MC.setP (h : MC W t n H S) (x : Value) (l : List Int) : MC (W.setCell ⟨H.mb, 314, none⟩ (x)) t n { H with pv := x } { S with p := l } := by
  have hs := h.hs (j := 314) (x) ⟨_, h.p⟩
  refine ⟨by simpa using h.lt, fun j => by simp only [World.frozen?_setCell]; exact h.fz j, (hs _).trans ((if_neg (by omega)).trans h.b), fun j hj => (hs _).trans ((if_neg (by omega)).trans (h.tu j hj)), fun j hj => (hs _).trans ((if_neg (by omega)).trans (h.tl j hj)), fun j hj => (hs _).trans ((if_neg (by omega)).trans (h.tb j hj)), (hs _).trans ((if_neg (by omega)).trans h.td), fun j hj => (hs _).trans ((if_neg (by omega)).trans (h.r j hj)), fun j hj => (hs _).trans ((if_neg (by omega)).trans (h.m j hj)), (hs _).trans ((if_neg (by omega)).trans h.a), (hs _).trans ((if_neg (by omega)).trans h.c), fun j hj => (hs _).trans ((if_neg (by omega)).trans (h.f j hj)), (hs _).trans ((if_neg (by omega)).trans h.e), (hs _).trans ((if_neg (by omega)).trans h.v), (hs _).trans (if_pos rfl), (hs _).trans ((if_neg (by omega)).trans h.s)⟩
theorem MC.setR (h : MC W t n H S) (k : Nat) (hk : k < 32) (x : Int) : MC (W.setCell ⟨H.mb, 14 + k, none⟩ (.int .i64 x)) t n H { S with r := upd S.r k x } := by
  have hs := h.hs (j := 14 + k) (.int .i64 x) ⟨_, h.r k hk⟩
  refine ⟨by simpa using h.lt, fun j => by simp only [World.frozen?_setCell]; exact h.fz j, (hs _).trans ((if_neg (by omega)).trans h.b), fun j hj => (hs _).trans ((if_neg (by omega)).trans (h.tu j hj)), fun j hj => (hs _).trans ((if_neg (by omega)).trans (h.tl j hj)), fun j hj => (hs _).trans ((if_neg (by omega)).trans (h.tb j hj)), (hs _).trans ((if_neg (by omega)).trans h.td), fun j hj => ?_, fun j hj => (hs _).trans ((if_neg (by omega)).trans (h.m j hj)), (hs _).trans ((if_neg (by omega)).trans h.a), (hs _).trans ((if_neg (by omega)).trans h.c), fun j hj => (hs _).trans ((if_neg (by omega)).trans (h.f j hj)), (hs _).trans ((if_neg (by omega)).trans h.e), (hs _).trans ((if_neg (by omega)).trans h.v), (hs _).trans ((if_neg (by omega)).trans h.p), (hs _).trans ((if_neg (by omega)).trans h.s)⟩
  by_cases e : j = k
  · subst e
    exact (hs _).trans ((if_pos rfl).trans (by simp [upd]))
  · exact (hs _).trans ((if_neg (by omega)).trans ((h.r j hj).trans (by simp [upd, e])))
theorem MC.setM (h : MC W t n H S) (k : Nat) (hk : k < 256) (x : Int) : MC (W.setCell ⟨H.mb, 46 + k, none⟩ (.int .i64 x)) t n H { S with m := upd S.m k x } := by
  have hs := h.hs (j := 46 + k) (.int .i64 x) ⟨_, h.m k hk⟩
  refine ⟨by simpa using h.lt, fun j => by simp only [World.frozen?_setCell]; exact h.fz j, (hs _).trans ((if_neg (by omega)).trans h.b), fun j hj => (hs _).trans ((if_neg (by omega)).trans (h.tu j hj)), fun j hj => (hs _).trans ((if_neg (by omega)).trans (h.tl j hj)), fun j hj => (hs _).trans ((if_neg (by omega)).trans (h.tb j hj)), (hs _).trans ((if_neg (by omega)).trans h.td), fun j hj => (hs _).trans ((if_neg (by omega)).trans (h.r j hj)), fun j hj => ?_, (hs _).trans ((if_neg (by omega)).trans h.a), (hs _).trans ((if_neg (by omega)).trans h.c), fun j hj => (hs _).trans ((if_neg (by omega)).trans (h.f j hj)), (hs _).trans ((if_neg (by omega)).trans h.e), (hs _).trans ((if_neg (by omega)).trans h.v), (hs _).trans ((if_neg (by omega)).trans h.p), (hs _).trans ((if_neg (by omega)).trans h.s)⟩
  by_cases e : j = k
  · subst e
    exact (hs _).trans ((if_pos rfl).trans (by simp [upd]))
  · exact (hs _).trans ((if_neg (by omega)).trans ((h.m j hj).trans (by simp [upd, e])))
theorem MC.setF (h : MC W t n H S) (k : Nat) (hk : k < 8) (x : Value) (g : Nat → List F) : MC (W.setCell ⟨H.mb, 304 + k, none⟩ (x)) t n { H with rv := fun j => if j = k then x else H.rv j } { S with f := g } := by
  have hs := h.hs (j := 304 + k) (x) ⟨_, h.f k hk⟩
  refine ⟨by simpa using h.lt, fun j => by simp only [World.frozen?_setCell]; exact h.fz j, (hs _).trans ((if_neg (by omega)).trans h.b), fun j hj => (hs _).trans ((if_neg (by omega)).trans (h.tu j hj)), fun j hj => (hs _).trans ((if_neg (by omega)).trans (h.tl j hj)), fun j hj => (hs _).trans ((if_neg (by omega)).trans (h.tb j hj)), (hs _).trans ((if_neg (by omega)).trans h.td), fun j hj => (hs _).trans ((if_neg (by omega)).trans (h.r j hj)), fun j hj => (hs _).trans ((if_neg (by omega)).trans (h.m j hj)), (hs _).trans ((if_neg (by omega)).trans h.a), (hs _).trans ((if_neg (by omega)).trans h.c), fun j hj => ?_, (hs _).trans ((if_neg (by omega)).trans h.e), (hs _).trans ((if_neg (by omega)).trans h.v), (hs _).trans ((if_neg (by omega)).trans h.p), (hs _).trans ((if_neg (by omega)).trans h.s)⟩
  by_cases e : j = k
  · subst e
    exact (hs _).trans ((if_pos rfl).trans (by simp))
  · exact (hs _).trans ((if_neg (by omega)).trans ((h.f j hj).trans (by simp [e])))
end
end Go.Proofs.YtldfjlepbbmhnaaDoor.Pp
