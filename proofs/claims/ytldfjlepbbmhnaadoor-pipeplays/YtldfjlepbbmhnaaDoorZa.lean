/- The document's machine in memory: its cells, its registers and cells, what is in flight, what was printed; what is kept where some of it turns. Conditions: none. -/
import Derived.Test.YtldfjlepbbmhnaaDoorYe
import Derived.Test.YtldfjlepbbmhnaaDoorTd
namespace Go.Proofs.YtldfjlepbbmhnaaDoor.Pp
open Go.ChangeShapes Go.WideShapes Go.ChangeAt Go.RowKit
open _root_.Go.Proofs.YtldfjlepbbmhnaaDoor.Op _root_.Go.Proofs.YtldfjlepbbmhnaaDoor.So _root_.Go.Proofs.YtldfjlepbbmhnaaDoor.Bu
open _root_.Go.Proofs.YtldfjlepbbmhnaaDoor.Tb (Tab TabAt Bnds)
set_option maxRecDepth 20000

/-- Where the document's machine's parts lie. -/
structure Rx where
  mb : Nat
  ba : Option Addr
  bc : Nat
  rb : Nat
  ub : Nat
  fv : Value
  tv : Value
  pv : Value
def lcells (l : List Ld) : List Value := l.flatMap fun y => [.int .i64 (y.t : Int), .bool y.b, .int .i64 y.n, .int .i64 y.x]
def tcells (l : List (Nat × Int)) : List Value := l.flatMap fun y => [.int .i64 (y.1 : Int), .int .i64 y.2]
theorem lcells_snoc (l : List Ld) (y : Ld) : lcells (l ++ [y]) = lcells l ++ [.int .i64 (y.t : Int), .bool y.b, .int .i64 y.n, .int .i64 y.x] := by unfold lcells; simp
theorem tcells_snoc (l : List (Nat × Int)) (y : Nat × Int) : tcells (l ++ [y]) = tcells l ++ [.int .i64 (y.1 : Int), .int .i64 y.2] := by unfold tcells; simp
theorem lcells_at {l : List Ld} {j : Nat} {y : Ld} (h : l[j]? = some y) : (lcells l)[j * 4]? = some (.int .i64 (y.t : Int)) ∧ (lcells l)[j * 4 + 1]? = some (.bool y.b) ∧ (lcells l)[j * 4 + 2]? = some (.int .i64 y.n) ∧ (lcells l)[j * 4 + 3]? = some (.int .i64 y.x) := by
  induction l generalizing j with
  | nil => simp at h
  | cons z l ih =>
    have hc : lcells (z :: l) = [.int .i64 (z.t : Int), .bool z.b, .int .i64 z.n, .int .i64 z.x] ++ lcells l := rfl
    cases j with
    | zero =>
      simp only [List.getElem?_cons_zero, Option.some.injEq] at h
      subst h
      rw [hc]
      exact ⟨rfl, rfl, rfl, rfl⟩
    | succ j =>
      have := ih (j := j) (by simpa using h)
      rw [hc, show (j + 1) * 4 = j * 4 + 4 by omega]
      exact this
theorem tcells_at {l : List (Nat × Int)} {j : Nat} {y : Nat × Int} (h : l[j]? = some y) : (tcells l)[j * 2]? = some (.int .i64 (y.1 : Int)) ∧ (tcells l)[j * 2 + 1]? = some (.int .i64 y.2) := by
  induction l generalizing j with
  | nil => simp at h
  | cons z l ih =>
    have hc : tcells (z :: l) = [.int .i64 (z.1 : Int), .int .i64 z.2] ++ tcells l := rfl
    cases j with
    | zero =>
      simp only [List.getElem?_cons_zero, Option.some.injEq] at h
      subst h
      rw [hc]
      exact ⟨rfl, rfl⟩
    | succ j =>
      have := ih (j := j) (by simpa using h)
      rw [hc, show (j + 1) * 2 = j * 2 + 2 by omega]
      exact this
/-- The document's machine's cells. -/
structure RC (W : World) (t : Tab) (n : Nat) (H : Rx) (R : RM) : Prop where
  lt : H.mb < W.heap.size
  fz : ∀ j, W.frozen? ⟨H.mb, j, none⟩ = false
  b : W.cell? ⟨H.mb, 0, none⟩ = some (.slice H.ba n H.bc)
  tu : ∀ k, k < 4 → W.cell? ⟨H.mb, 1 + k, none⟩ = some (.int .i64 (t.u k))
  tl : ∀ k, k < 4 → W.cell? ⟨H.mb, 5 + k, none⟩ = some (.int .i64 (t.l k))
  tb : ∀ k, k < 4 → W.cell? ⟨H.mb, 9 + k, none⟩ = some (.int .i64 (t.b k))
  td : W.cell? ⟨H.mb, 13, none⟩ = some (.int .i64 t.d)
  rs : W.cell? ⟨H.mb, 14, none⟩ = some (.slice (some ⟨H.rb, 0, none⟩) 32 32)
  ms : W.cell? ⟨H.mb, 15, none⟩ = some (.slice (some ⟨H.ub, 0, none⟩) 256 256)
  a : W.cell? ⟨H.mb, 16, none⟩ = some (.int .i64 R.a)
  c : W.cell? ⟨H.mb, 17, none⟩ = some (.int .i64 R.c)
  s : W.cell? ⟨H.mb, 18, none⟩ = some (.int .i64 (R.s : Int))
  fl : W.cell? ⟨H.mb, 19, none⟩ = some (H.fv)
  tn : W.cell? ⟨H.mb, 20, none⟩ = some (H.tv)
  en : W.cell? ⟨H.mb, 21, none⟩ = some (.bool R.en)
  e : W.cell? ⟨H.mb, 22, none⟩ = some (.int .i64 R.e)
  v : W.cell? ⟨H.mb, 23, none⟩ = some (.int .i64 R.v)
  p : W.cell? ⟨H.mb, 24, none⟩ = some (H.pv)
  lg : W.cell? ⟨H.mb, 25, none⟩ = some (.bool false)
  dn : W.cell? ⟨H.mb, 26, none⟩ = some (.slice none 0 0)
/-- The six parts that it holds. -/
def blk (H : Rx) : Nat → Option Nat
  | 0 => some H.mb
  | 1 => some H.rb
  | 2 => some H.ub
  | 3 => H.fv.ownBlock
  | 4 => H.tv.ownBlock
  | _ => H.pv.ownBlock
def rown (H : Rx) : Nat → Prop := fun b => ∃ i, i < 6 ∧ blk H i = some b
/-- A block of so many numbers. -/
structure NBk (W : World) (b n : Nat) (g : Nat → Int) : Prop where
  lt : b < W.heap.size
  fz : ∀ j, W.frozen? ⟨b, j, none⟩ = false
  c : ∀ k, k < n → W.cell? ⟨b, k, none⟩ = some (.int .i64 (g k))
theorem NBk.fr {W W' : World} {b n : Nat} {g : Nat → Int} {X : Nat → Prop} (h : NBk W b n g) (f : Fr X W W') (hx : ¬ X b) : NBk W' b n g := ⟨Nat.lt_of_lt_of_le h.lt f.size, fun j => (f.frozen h.lt hx j).trans (h.fz j), fun k hk => (f.cell h.lt hx k).trans (h.c k hk)⟩
theorem NBk.set {W : World} {b n k : Nat} {g : Nat → Int} (h : NBk W b n g) (hk : k < n) (x : Int) : NBk (W.setCell ⟨b, k, none⟩ (.int .i64 x)) b n (upd g k x) := by
  have hs := fun q => cell_set (W := W) (b := b) (o := k) (.int .i64 x) q ⟨_, h.c k hk⟩
  refine ⟨by simpa using h.lt, fun j => by rw [World.frozen?_setCell]; exact h.fz j, fun q hq => ?_⟩
  by_cases e : q = k
  · subst e
    exact (hs _).trans ((if_pos rfl).trans (by simp [upd]))
  · exact (hs _).trans ((if_neg e).trans ((h.c q hq).trans (by simp [upd, e])))
structure Rch (W : World) (t : Tab) (bs : List Bn) (H : Rx) (R : RM) : Prop where
  c : RC W t bs.length H R
  rr : NBk W H.rb 32 R.r
  mm : NBk W H.ub 256 R.m
  ff : W.ownsRow 0 90 4 H.fv R.fl.length (lcells R.fl)
  tt : W.ownsRow 0 133 2 H.tv R.tu.length (tcells R.tu)
  pp : W.ownsRow 0 2 1 H.pv R.p.length (nums R.p)
  d : ∀ i, i < 6 → ∀ j, j < 6 → i ≠ j → ∀ b, blk H i = some b → blk H j ≠ some b
  bF : ∀ W', Fr (rown H) W W' → BsAt W' H.ba bs
/-- What may turn goes on. -/
structure Rn (W : World) (H : Rx) (W' : World) (H' : Rx) : Prop where
  f : Fr (rown H) W W'
  t : ∀ b, rown H' b → rown H b ∨ W.heap.size ≤ b
  q : H'.mb = H.mb
  a : H'.ba = H.ba
  rb : H'.rb = H.rb
  ub : H'.ub = H.ub
theorem Rn.of {W W' : World} {H : Rx} (g : Below W.heap.size W W') : Rn W H W' H := ⟨Fr.of g, fun _ h => .inl h, rfl, rfl, rfl, rfl⟩
theorem Rn.trans {W W1 W2 : World} {H H1 H2 : Rx} (h : Rn W H W1 H1) (g : Rn W1 H1 W2 H2) : Rn W H W2 H2 :=
  ⟨h.f.trans g.f fun k hk hy => (h.t k hy).elim id fun e => absurd hk (by omega), fun b hb => (g.t b hb).elim (h.t b) fun e => .inr (Nat.le_trans h.f.size e), g.q.trans h.q, g.a.trans h.a, g.rb.trans h.rb, g.ub.trans h.ub⟩
theorem Rn.up {W W1 W2 : World} {H H1 : Rx} (h : Rn W H W1 H1) (g : Below W1.heap.size W1 W2) : Rn W H W2 H1 := h.trans (Rn.of g)
theorem RC.fr {W W' : World} {t : Tab} {n : Nat} {H : Rx} {R : RM} {X : Nat → Prop} (h : RC W t n H R) (g : Fr X W W') (hx : ¬ X H.mb) : RC W' t n H R := by
  have c := fun o => g.cell h.lt hx o
  have f := fun o => g.frozen h.lt hx o
  exact ⟨Nat.lt_of_lt_of_le h.lt g.size, fun j => (f j).trans (h.fz j), (c _).trans h.b, fun k hk => (c _).trans (h.tu k hk), fun k hk => (c _).trans (h.tl k hk), fun k hk => (c _).trans (h.tb k hk), (c _).trans h.td, (c _).trans h.rs, (c _).trans h.ms, (c _).trans h.a, (c _).trans h.c, (c _).trans h.s, (c _).trans h.fl, (c _).trans h.tn, (c _).trans h.en, (c _).trans h.e, (c _).trans h.v, (c _).trans h.p, (c _).trans h.lg, (c _).trans h.dn⟩
theorem rF_go {W W' : World} {bs : List Bn} {H H' : Rx} (h : ∀ V, Fr (rown H) W V → BsAt V H.ba bs) (g : Rn W H W' H') : ∀ V, Fr (rown H') W' V → BsAt V H'.ba bs := fun V hV => by
  rw [g.a]
  exact h V (g.f.trans hV fun k hk hy => (g.t k hy).elim id fun e => absurd hk (by omega))
theorem Rch.up {W W' : World} {t : Tab} {bs : List Bn} {H : Rx} {R : RM} (h : Rch W t bs H R) (g : Below W.heap.size W W') : Rch W' t bs H R :=
  ⟨h.c.fr (Fr.of (X := Non) g) (fun e => e), h.rr.fr (Fr.of (X := Non) g) (fun e => e), h.mm.fr (Fr.of (X := Non) g) (fun e => e), row_up h.ff g, row_up h.tt g, row_up h.pp g, h.d, rF_go h.bF (Rn.of g)⟩
/-- The machine's own block alone turns. -/
theorem Rch.one {W W' : World} {t : Tab} {bs : List Bn} {H : Rx} {R R' : RM} (h : Rch W t bs H R) (c : RC W' t bs.length H R') (g : Fr (One H.mb) W W') (e1 : R'.r = R.r) (e2 : R'.m = R.m) (e3 : R'.fl = R.fl) (e4 : R'.tu = R.tu) (e5 : R'.p = R.p) : Rch W' t bs H R' ∧ Rn W H W' H := by
  have tn : Rn W H W' H := ⟨g.mono fun k _ e => ⟨0, by decide, by have e : k = H.mb := e; rw [e]; rfl⟩, fun _ h => .inl h, rfl, rfl, rfl, rfl⟩
  have off : ∀ i, i < 6 → i ≠ 0 → ∀ b, blk H i = some b → ¬ One H.mb b := fun i hi h0 b hb e => by
    have e : b = H.mb := e
    subst e
    exact h.d i hi 0 (by decide) h0 _ hb rfl
  exact ⟨⟨c, by rw [e1]; exact h.rr.fr g (off 1 (by decide) (by decide) _ rfl), by rw [e2]; exact h.mm.fr g (off 2 (by decide) (by decide) _ rfl), by rw [e3]; exact row_fr h.ff g (off 3 (by decide) (by decide)), by rw [e4]; exact row_fr h.tt g (off 4 (by decide) (by decide)), by rw [e5]; exact row_fr h.pp g (off 5 (by decide) (by decide)), h.d, rF_go h.bF tn⟩, tn⟩
section
variable {W : World} {t : Tab} {n : Nat} {H : Rx} {R : RM}
theorem RC.hs (_h : RC W t n H R) {j : Nat} (v : Value) (hj : ∃ u, W.cell? ⟨H.mb, j, none⟩ = some u) (q : Nat) : (W.setCell ⟨H.mb, j, none⟩ v).cell? ⟨H.mb, q, none⟩ = if q = j then some v else W.cell? ⟨H.mb, q, none⟩ := cell_set (W := W) (b := H.mb) (o := j) v q hj
theorem RC.setA (h : RC W t n H R) (x : Int) : RC (W.setCell ⟨H.mb, 16, none⟩ (.int .i64 x)) t n H { R with a := x } := by
  have hs := h.hs (j := 16) (.int .i64 x) ⟨_, h.a⟩
  exact ⟨by simpa using h.lt, fun j => by simp only [World.frozen?_setCell]; exact h.fz j, (hs _).trans ((if_neg (by omega)).trans h.b), fun j hj => (hs _).trans ((if_neg (by omega)).trans (h.tu j hj)), fun j hj => (hs _).trans ((if_neg (by omega)).trans (h.tl j hj)), fun j hj => (hs _).trans ((if_neg (by omega)).trans (h.tb j hj)), (hs _).trans ((if_neg (by omega)).trans h.td), (hs _).trans ((if_neg (by omega)).trans h.rs), (hs _).trans ((if_neg (by omega)).trans h.ms), (hs _).trans (if_pos rfl), (hs _).trans ((if_neg (by omega)).trans h.c), (hs _).trans ((if_neg (by omega)).trans h.s), (hs _).trans ((if_neg (by omega)).trans h.fl), (hs _).trans ((if_neg (by omega)).trans h.tn), (hs _).trans ((if_neg (by omega)).trans h.en), (hs _).trans ((if_neg (by omega)).trans h.e), (hs _).trans ((if_neg (by omega)).trans h.v), (hs _).trans ((if_neg (by omega)).trans h.p), (hs _).trans ((if_neg (by omega)).trans h.lg), (hs _).trans ((if_neg (by omega)).trans h.dn)⟩
theorem RC.setC (h : RC W t n H R) (x : Int) : RC (W.setCell ⟨H.mb, 17, none⟩ (.int .i64 x)) t n H { R with c := x } := by
  have hs := h.hs (j := 17) (.int .i64 x) ⟨_, h.c⟩
  exact ⟨by simpa using h.lt, fun j => by simp only [World.frozen?_setCell]; exact h.fz j, (hs _).trans ((if_neg (by omega)).trans h.b), fun j hj => (hs _).trans ((if_neg (by omega)).trans (h.tu j hj)), fun j hj => (hs _).trans ((if_neg (by omega)).trans (h.tl j hj)), fun j hj => (hs _).trans ((if_neg (by omega)).trans (h.tb j hj)), (hs _).trans ((if_neg (by omega)).trans h.td), (hs _).trans ((if_neg (by omega)).trans h.rs), (hs _).trans ((if_neg (by omega)).trans h.ms), (hs _).trans ((if_neg (by omega)).trans h.a), (hs _).trans (if_pos rfl), (hs _).trans ((if_neg (by omega)).trans h.s), (hs _).trans ((if_neg (by omega)).trans h.fl), (hs _).trans ((if_neg (by omega)).trans h.tn), (hs _).trans ((if_neg (by omega)).trans h.en), (hs _).trans ((if_neg (by omega)).trans h.e), (hs _).trans ((if_neg (by omega)).trans h.v), (hs _).trans ((if_neg (by omega)).trans h.p), (hs _).trans ((if_neg (by omega)).trans h.lg), (hs _).trans ((if_neg (by omega)).trans h.dn)⟩
theorem RC.setS (h : RC W t n H R) (x : Nat) : RC (W.setCell ⟨H.mb, 18, none⟩ (.int .i64 (x : Int))) t n H { R with s := x } := by
  have hs := h.hs (j := 18) (.int .i64 (x : Int)) ⟨_, h.s⟩
  exact ⟨by simpa using h.lt, fun j => by simp only [World.frozen?_setCell]; exact h.fz j, (hs _).trans ((if_neg (by omega)).trans h.b), fun j hj => (hs _).trans ((if_neg (by omega)).trans (h.tu j hj)), fun j hj => (hs _).trans ((if_neg (by omega)).trans (h.tl j hj)), fun j hj => (hs _).trans ((if_neg (by omega)).trans (h.tb j hj)), (hs _).trans ((if_neg (by omega)).trans h.td), (hs _).trans ((if_neg (by omega)).trans h.rs), (hs _).trans ((if_neg (by omega)).trans h.ms), (hs _).trans ((if_neg (by omega)).trans h.a), (hs _).trans ((if_neg (by omega)).trans h.c), (hs _).trans (if_pos rfl), (hs _).trans ((if_neg (by omega)).trans h.fl), (hs _).trans ((if_neg (by omega)).trans h.tn), (hs _).trans ((if_neg (by omega)).trans h.en), (hs _).trans ((if_neg (by omega)).trans h.e), (hs _).trans ((if_neg (by omega)).trans h.v), (hs _).trans ((if_neg (by omega)).trans h.p), (hs _).trans ((if_neg (by omega)).trans h.lg), (hs _).trans ((if_neg (by omega)).trans h.dn)⟩
theorem RC.setFl (h : RC W t n H R) (x : Value) (l : List Ld) : RC (W.setCell ⟨H.mb, 19, none⟩ (x)) t n { H with fv := x } { R with fl := l } := by
  have hs := h.hs (j := 19) (x) ⟨_, h.fl⟩
  exact ⟨by simpa using h.lt, fun j => by simp only [World.frozen?_setCell]; exact h.fz j, (hs _).trans ((if_neg (by omega)).trans h.b), fun j hj => (hs _).trans ((if_neg (by omega)).trans (h.tu j hj)), fun j hj => (hs _).trans ((if_neg (by omega)).trans (h.tl j hj)), fun j hj => (hs _).trans ((if_neg (by omega)).trans (h.tb j hj)), (hs _).trans ((if_neg (by omega)).trans h.td), (hs _).trans ((if_neg (by omega)).trans h.rs), (hs _).trans ((if_neg (by omega)).trans h.ms), (hs _).trans ((if_neg (by omega)).trans h.a), (hs _).trans ((if_neg (by omega)).trans h.c), (hs _).trans ((if_neg (by omega)).trans h.s), (hs _).trans (if_pos rfl), (hs _).trans ((if_neg (by omega)).trans h.tn), (hs _).trans ((if_neg (by omega)).trans h.en), (hs _).trans ((if_neg (by omega)).trans h.e), (hs _).trans ((if_neg (by omega)).trans h.v), (hs _).trans ((if_neg (by omega)).trans h.p), (hs _).trans ((if_neg (by omega)).trans h.lg), (hs _).trans ((if_neg (by omega)).trans h.dn)⟩
theorem RC.setTu (h : RC W t n H R) (x : Value) (l : List (Nat × Int)) : RC (W.setCell ⟨H.mb, 20, none⟩ (x)) t n { H with tv := x } { R with tu := l } := by
  have hs := h.hs (j := 20) (x) ⟨_, h.tn⟩
  exact ⟨by simpa using h.lt, fun j => by simp only [World.frozen?_setCell]; exact h.fz j, (hs _).trans ((if_neg (by omega)).trans h.b), fun j hj => (hs _).trans ((if_neg (by omega)).trans (h.tu j hj)), fun j hj => (hs _).trans ((if_neg (by omega)).trans (h.tl j hj)), fun j hj => (hs _).trans ((if_neg (by omega)).trans (h.tb j hj)), (hs _).trans ((if_neg (by omega)).trans h.td), (hs _).trans ((if_neg (by omega)).trans h.rs), (hs _).trans ((if_neg (by omega)).trans h.ms), (hs _).trans ((if_neg (by omega)).trans h.a), (hs _).trans ((if_neg (by omega)).trans h.c), (hs _).trans ((if_neg (by omega)).trans h.s), (hs _).trans ((if_neg (by omega)).trans h.fl), (hs _).trans (if_pos rfl), (hs _).trans ((if_neg (by omega)).trans h.en), (hs _).trans ((if_neg (by omega)).trans h.e), (hs _).trans ((if_neg (by omega)).trans h.v), (hs _).trans ((if_neg (by omega)).trans h.p), (hs _).trans ((if_neg (by omega)).trans h.lg), (hs _).trans ((if_neg (by omega)).trans h.dn)⟩
theorem RC.setEn (h : RC W t n H R)  : RC (W.setCell ⟨H.mb, 21, none⟩ (.bool true)) t n H { R with en := true } := by
  have hs := h.hs (j := 21) (.bool true) ⟨_, h.en⟩
  exact ⟨by simpa using h.lt, fun j => by simp only [World.frozen?_setCell]; exact h.fz j, (hs _).trans ((if_neg (by omega)).trans h.b), fun j hj => (hs _).trans ((if_neg (by omega)).trans (h.tu j hj)), fun j hj => (hs _).trans ((if_neg (by omega)).trans (h.tl j hj)), fun j hj => (hs _).trans ((if_neg (by omega)).trans (h.tb j hj)), (hs _).trans ((if_neg (by omega)).trans h.td), (hs _).trans ((if_neg (by omega)).trans h.rs), (hs _).trans ((if_neg (by omega)).trans h.ms), (hs _).trans ((if_neg (by omega)).trans h.a), (hs _).trans ((if_neg (by omega)).trans h.c), (hs _).trans ((if_neg (by omega)).trans h.s), (hs _).trans ((if_neg (by omega)).trans h.fl), (hs _).trans ((if_neg (by omega)).trans h.tn), (hs _).trans (if_pos rfl), (hs _).trans ((if_neg (by omega)).trans h.e), (hs _).trans ((if_neg (by omega)).trans h.v), (hs _).trans ((if_neg (by omega)).trans h.p), (hs _).trans ((if_neg (by omega)).trans h.lg), (hs _).trans ((if_neg (by omega)).trans h.dn)⟩
theorem RC.setE (h : RC W t n H R) (x : Int) : RC (W.setCell ⟨H.mb, 22, none⟩ (.int .i64 x)) t n H { R with e := x } := by
  have hs := h.hs (j := 22) (.int .i64 x) ⟨_, h.e⟩
  exact ⟨by simpa using h.lt, fun j => by simp only [World.frozen?_setCell]; exact h.fz j, (hs _).trans ((if_neg (by omega)).trans h.b), fun j hj => (hs _).trans ((if_neg (by omega)).trans (h.tu j hj)), fun j hj => (hs _).trans ((if_neg (by omega)).trans (h.tl j hj)), fun j hj => (hs _).trans ((if_neg (by omega)).trans (h.tb j hj)), (hs _).trans ((if_neg (by omega)).trans h.td), (hs _).trans ((if_neg (by omega)).trans h.rs), (hs _).trans ((if_neg (by omega)).trans h.ms), (hs _).trans ((if_neg (by omega)).trans h.a), (hs _).trans ((if_neg (by omega)).trans h.c), (hs _).trans ((if_neg (by omega)).trans h.s), (hs _).trans ((if_neg (by omega)).trans h.fl), (hs _).trans ((if_neg (by omega)).trans h.tn), (hs _).trans ((if_neg (by omega)).trans h.en), (hs _).trans (if_pos rfl), (hs _).trans ((if_neg (by omega)).trans h.v), (hs _).trans ((if_neg (by omega)).trans h.p), (hs _).trans ((if_neg (by omega)).trans h.lg), (hs _).trans ((if_neg (by omega)).trans h.dn)⟩
theorem RC.setV (h : RC W t n H R) (x : Int) : RC (W.setCell ⟨H.mb, 23, none⟩ (.int .i64 x)) t n H { R with v := x } := by
  have hs := h.hs (j := 23) (.int .i64 x) ⟨_, h.v⟩
  exact ⟨by simpa using h.lt, fun j => by simp only [World.frozen?_setCell]; exact h.fz j, (hs _).trans ((if_neg (by omega)).trans h.b), fun j hj => (hs _).trans ((if_neg (by omega)).trans (h.tu j hj)), fun j hj => (hs _).trans ((if_neg (by omega)).trans (h.tl j hj)), fun j hj => (hs _).trans ((if_neg (by omega)).trans (h.tb j hj)), (hs _).trans ((if_neg (by omega)).trans h.td), (hs _).trans ((if_neg (by omega)).trans h.rs), (hs _).trans ((if_neg (by omega)).trans h.ms), (hs _).trans ((if_neg (by omega)).trans h.a), (hs _).trans ((if_neg (by omega)).trans h.c), (hs _).trans ((if_neg (by omega)).trans h.s), (hs _).trans ((if_neg (by omega)).trans h.fl), (hs _).trans ((if_neg (by omega)).trans h.tn), (hs _).trans ((if_neg (by omega)).trans h.en), (hs _).trans ((if_neg (by omega)).trans h.e), (hs _).trans (if_pos rfl), (hs _).trans ((if_neg (by omega)).trans h.p), (hs _).trans ((if_neg (by omega)).trans h.lg), (hs _).trans ((if_neg (by omega)).trans h.dn)⟩
theorem RC.setP (h : RC W t n H R) (x : Value) (l : List Int) : RC (W.setCell ⟨H.mb, 24, none⟩ (x)) t n { H with pv := x } { R with p := l } := by
  have hs := h.hs (j := 24) (x) ⟨_, h.p⟩
  exact ⟨by simpa using h.lt, fun j => by simp only [World.frozen?_setCell]; exact h.fz j, (hs _).trans ((if_neg (by omega)).trans h.b), fun j hj => (hs _).trans ((if_neg (by omega)).trans (h.tu j hj)), fun j hj => (hs _).trans ((if_neg (by omega)).trans (h.tl j hj)), fun j hj => (hs _).trans ((if_neg (by omega)).trans (h.tb j hj)), (hs _).trans ((if_neg (by omega)).trans h.td), (hs _).trans ((if_neg (by omega)).trans h.rs), (hs _).trans ((if_neg (by omega)).trans h.ms), (hs _).trans ((if_neg (by omega)).trans h.a), (hs _).trans ((if_neg (by omega)).trans h.c), (hs _).trans ((if_neg (by omega)).trans h.s), (hs _).trans ((if_neg (by omega)).trans h.fl), (hs _).trans ((if_neg (by omega)).trans h.tn), (hs _).trans ((if_neg (by omega)).trans h.en), (hs _).trans ((if_neg (by omega)).trans h.e), (hs _).trans ((if_neg (by omega)).trans h.v), (hs _).trans (if_pos rfl), (hs _).trans ((if_neg (by omega)).trans h.lg), (hs _).trans ((if_neg (by omega)).trans h.dn)⟩
end
end Go.Proofs.YtldfjlepbbmhnaaDoor.Pp
