/- The document's machine: what lands, what turns (land, turn), read off the program by the walk. Conditions: the machine lies in memory. -/
import Derived.Test.YtldfjlepbbmhnaaDoorZe
namespace Go.Proofs.YtldfjlepbbmhnaaDoor.Pp
open Go.ChangeShapes Go.WideShapes Go.ChangeAt Go.RowKit
open _root_.Go.Proofs.YtldfjlepbbmhnaaDoor.Op _root_.Go.Proofs.YtldfjlepbbmhnaaDoor.So _root_.Go.Proofs.YtldfjlepbbmhnaaDoor.Bu
open _root_.Go.Proofs.YtldfjlepbbmhnaaDoor.Tb (Tab TabAt Bnds)
set_option maxRecDepth 20000

section
variable {W w w' : World} {t : Tab} {bs : List Bn} {H : Rx} {R R0 : RM}
theorem Rch.setR (h : Rch w t bs H R) {k : Nat} (hk : k < 32) (x : Int) : Rch (w.setCell ⟨H.rb, k, none⟩ (.int .i64 x)) t bs H { R with r := upd R.r k x } ∧ Rn w H (w.setCell ⟨H.rb, k, none⟩ (.int .i64 x)) H := by
  have g : Fr (One H.rb) w (w.setCell ⟨H.rb, k, none⟩ (.int .i64 x)) := (Fr.refl (One H.rb) w).setCell (.inr rfl) _ _
  have tn : Rn w H (w.setCell ⟨H.rb, k, none⟩ (.int .i64 x)) H := ⟨g.mono fun b _ e => ⟨1, by decide, by have e : b = H.rb := e; rw [e]; rfl⟩, fun _ h => .inl h, rfl, rfl, rfl, rfl⟩
  have off : ∀ i, i < 6 → i ≠ 1 → ∀ b, blk H i = some b → ¬ One H.rb b := fun i hi h0 b hb e => by
    have e : b = H.rb := e
    subst e
    exact h.d i hi 1 (by decide) h0 _ hb rfl
  have c := h.c.fr g (off 0 (by decide) (by decide) _ rfl)
  exact ⟨⟨⟨c.lt, c.fz, c.b, c.tu, c.tl, c.tb, c.td, c.rs, c.ms, c.a, c.c, c.s, c.fl, c.tn, c.en, c.e, c.v, c.p, c.lg, c.dn⟩, h.rr.set hk x, h.mm.fr g (off 2 (by decide) (by decide) _ rfl), row_fr h.ff g (off 3 (by decide) (by decide)), row_fr h.tt g (off 4 (by decide) (by decide)), row_fr h.pp g (off 5 (by decide) (by decide)), h.d, rF_go h.bF tn⟩, tn⟩
theorem Rch.setM (h : Rch w t bs H R) {k : Nat} (hk : k < 256) (x : Int) : Rch (w.setCell ⟨H.ub, k, none⟩ (.int .i64 x)) t bs H { R with m := upd R.m k x } ∧ Rn w H (w.setCell ⟨H.ub, k, none⟩ (.int .i64 x)) H := by
  have g : Fr (One H.ub) w (w.setCell ⟨H.ub, k, none⟩ (.int .i64 x)) := (Fr.refl (One H.ub) w).setCell (.inr rfl) _ _
  have tn : Rn w H (w.setCell ⟨H.ub, k, none⟩ (.int .i64 x)) H := ⟨g.mono fun b _ e => ⟨2, by decide, by have e : b = H.ub := e; rw [e]; rfl⟩, fun _ h => .inl h, rfl, rfl, rfl, rfl⟩
  have off : ∀ i, i < 6 → i ≠ 2 → ∀ b, blk H i = some b → ¬ One H.ub b := fun i hi h0 b hb e => by
    have e : b = H.ub := e
    subst e
    exact h.d i hi 2 (by decide) h0 _ hb rfl
  have c := h.c.fr g (off 0 (by decide) (by decide) _ rfl)
  exact ⟨⟨⟨c.lt, c.fz, c.b, c.tu, c.tl, c.tb, c.td, c.rs, c.ms, c.a, c.c, c.s, c.fl, c.tn, c.en, c.e, c.v, c.p, c.lg, c.dn⟩, h.rr.fr g (off 1 (by decide) (by decide) _ rfl), h.mm.set hk x, row_fr h.ff g (off 3 (by decide) (by decide)), row_fr h.tt g (off 4 (by decide) (by decide)), row_fr h.pp g (off 5 (by decide) (by decide)), h.d, rF_go h.bF tn⟩, tn⟩
/-- What is new turns alone. -/
theorem Rch.away {X : Nat → Prop} (h0 : Rch W t bs H R0) (h : Rch w t bs H R) (n : Rn W H w H) (g : Fr X w w') (hx : ∀ b, X b → W.heap.size ≤ b) : Rch w' t bs H R ∧ Rn W H w' H := by
  have off : ∀ i, i < 6 → ∀ b, blk H i = some b → ¬ X b := fun i hi b e hX => by have := h0.blt i hi b e; have := hx b hX; omega
  have tn : Rn W H w' H := ⟨n.f.trans g fun k hk hX => absurd (hx k hX) (by omega), fun _ h => .inl h, rfl, rfl, rfl, rfl⟩
  exact ⟨⟨h.c.fr g (off 0 (by decide) _ rfl), h.rr.fr g (off 1 (by decide) _ rfl), h.mm.fr g (off 2 (by decide) _ rfl), row_fr h.ff g (off 3 (by decide)), row_fr h.tt g (off 4 (by decide)), row_fr h.pp g (off 5 (by decide)), h.d, rF_go h0.bF tn⟩, tn⟩
/-- A list that was made beside it becomes a part of it. -/
theorem Rch.putFl (h0 : Rch W t bs H R0) (h : Rch w t bs H R) (n : Rn W H w H) {v' : Value} {l : List Ld} (ho : w.ownsRow W.heap.size 90 4 v' l.length (lcells l)) : Rch (w.setCell ⟨H.mb, 19, none⟩ v') t bs { H with fv := v' } { R with fl := l } ∧ Rn W H (w.setCell ⟨H.mb, 19, none⟩ v') { H with fv := v' } := by
  have g : Fr (One H.mb) w (w.setCell ⟨H.mb, 19, none⟩ v') := (Fr.refl (One H.mb) w).setCell (.inr rfl) _ _
  have vb : ∀ b, v'.ownBlock = some b → W.heap.size ≤ b := fun b e => (ho.lt b e).1
  have same : ∀ j, j < 6 → j ≠ 3 → blk { H with fv := v' } j = blk H j := fun j hj e0 => by
    rcases (by omega : j = 0 ∨ j = 1 ∨ j = 2 ∨ j = 3 ∨ j = 4 ∨ j = 5) with rfl | rfl | rfl | rfl | rfl | rfl <;> first | rfl | exact absurd rfl e0
  have off : ∀ i, i < 6 → i ≠ 0 → ∀ b, blk H i = some b → ¬ One H.mb b := fun i hi e0 b hb e => by
    have e : b = H.mb := e
    subst e
    exact h.d i hi 0 (by decide) e0 _ hb rfl
  have tn : Rn W H (w.setCell ⟨H.mb, 19, none⟩ v') { H with fv := v' } := ⟨(n.f.trans g fun k _ e => ⟨0, by decide, by have e : k = H.mb := e; rw [e]; rfl⟩), fun b ⟨j, hj, e⟩ => by
    by_cases e0 : j = 3
    · subst e0
      exact .inr (vb b e)
    · rw [same j hj e0] at e
      exact .inl ⟨j, hj, e⟩, rfl, rfl, rfl, rfl⟩
  have hmb := h0.c.lt
  have hnew : (w.setCell ⟨H.mb, 19, none⟩ v').ownsRow 0 90 4 v' l.length (lcells l) := row_fr (row_le ho (Nat.zero_le _)) g fun b e e2 => by
    have e2 : b = H.mb := e2
    have := vb b e
    omega
  exact ⟨⟨h.c.setFl v' l, h.rr.fr g (off 1 (by decide) (by decide) _ rfl), h.mm.fr g (off 2 (by decide) (by decide) _ rfl), hnew, row_fr h.tt g (off 4 (by decide) (by decide)), row_fr h.pp g (off 5 (by decide) (by decide)), fun p hp q hq hpq b e1 e2 => by
    by_cases h1 : p = 3
    · have h2 : q ≠ 3 := fun e => hpq (h1.trans e.symm)
      rw [same q hq h2] at e2
      rw [h1] at e1
      have := vb b e1
      have := h0.blt q hq b e2
      omega
    · rw [same p hp h1] at e1
      by_cases h2 : q = 3
      · rw [h2] at e2
        have := vb b e2
        have := h0.blt p hp b e1
        omega
      · rw [same q hq h2] at e2
        exact h.d p hp q hq hpq b e1 e2, rF_go h0.bF tn⟩, tn⟩
/-- A list that was made beside it becomes a part of it. -/
theorem Rch.putTu (h0 : Rch W t bs H R0) (h : Rch w t bs H R) (n : Rn W H w H) {v' : Value} {l : List (Nat × Int)} (ho : w.ownsRow W.heap.size 133 2 v' l.length (tcells l)) : Rch (w.setCell ⟨H.mb, 20, none⟩ v') t bs { H with tv := v' } { R with tu := l } ∧ Rn W H (w.setCell ⟨H.mb, 20, none⟩ v') { H with tv := v' } := by
  have g : Fr (One H.mb) w (w.setCell ⟨H.mb, 20, none⟩ v') := (Fr.refl (One H.mb) w).setCell (.inr rfl) _ _
  have vb : ∀ b, v'.ownBlock = some b → W.heap.size ≤ b := fun b e => (ho.lt b e).1
  have same : ∀ j, j < 6 → j ≠ 4 → blk { H with tv := v' } j = blk H j := fun j hj e0 => by
    rcases (by omega : j = 0 ∨ j = 1 ∨ j = 2 ∨ j = 3 ∨ j = 4 ∨ j = 5) with rfl | rfl | rfl | rfl | rfl | rfl <;> first | rfl | exact absurd rfl e0
  have off : ∀ i, i < 6 → i ≠ 0 → ∀ b, blk H i = some b → ¬ One H.mb b := fun i hi e0 b hb e => by
    have e : b = H.mb := e
    subst e
    exact h.d i hi 0 (by decide) e0 _ hb rfl
  have tn : Rn W H (w.setCell ⟨H.mb, 20, none⟩ v') { H with tv := v' } := ⟨(n.f.trans g fun k _ e => ⟨0, by decide, by have e : k = H.mb := e; rw [e]; rfl⟩), fun b ⟨j, hj, e⟩ => by
    by_cases e0 : j = 4
    · subst e0
      exact .inr (vb b e)
    · rw [same j hj e0] at e
      exact .inl ⟨j, hj, e⟩, rfl, rfl, rfl, rfl⟩
  have hmb := h0.c.lt
  have hnew : (w.setCell ⟨H.mb, 20, none⟩ v').ownsRow 0 133 2 v' l.length (tcells l) := row_fr (row_le ho (Nat.zero_le _)) g fun b e e2 => by
    have e2 : b = H.mb := e2
    have := vb b e
    omega
  exact ⟨⟨h.c.setTu v' l, h.rr.fr g (off 1 (by decide) (by decide) _ rfl), h.mm.fr g (off 2 (by decide) (by decide) _ rfl), row_fr h.ff g (off 3 (by decide) (by decide)), hnew, row_fr h.pp g (off 5 (by decide) (by decide)), fun p hp q hq hpq b e1 e2 => by
    by_cases h1 : p = 4
    · have h2 : q ≠ 4 := fun e => hpq (h1.trans e.symm)
      rw [same q hq h2] at e2
      rw [h1] at e1
      have := vb b e1
      have := h0.blt q hq b e2
      omega
    · rw [same p hp h1] at e1
      by_cases h2 : q = 4
      · rw [h2] at e2
        have := vb b e2
        have := h0.blt p hp b e1
        omega
      · rw [same q hq h2] at e2
        exact h.d p hp q hq hpq b e1 e2, rF_go h0.bF tn⟩, tn⟩
/-- Of the first j in flight: what stays, what has landed. -/
def lefL (R : RM) (j : Nat) : List Ld := (R.fl.take j).filter fun y => decide (R.s < y.t)
def lanL (R : RM) (j : Nat) : RM := ((R.fl.take j).filter fun y => decide (y.t ≤ R.s)).foldl ldR R
theorem take_at {α : Type} {l : List α} {j : Nat} {y : α} (h : l[j]? = some y) : l.take (j + 1) = l.take j ++ [y] := by
  rw [List.take_add_one, h]; rfl
theorem lef_succ {j : Nat} {y : Ld} (h : R.fl[j]? = some y) : lefL R (j + 1) = if R.s < y.t then lefL R j ++ [y] else lefL R j := by
  unfold lefL
  rw [take_at h, List.filter_append]
  by_cases e : R.s < y.t
  · rw [if_pos e]; simp [e]
  · rw [if_neg e]; simp [e]
theorem lan_succ {j : Nat} {y : Ld} (h : R.fl[j]? = some y) : lanL R (j + 1) = if R.s < y.t then lanL R j else ldR (lanL R j) y := by
  unfold lanL
  rw [take_at h, List.filter_append, List.foldl_append]
  by_cases e : R.s < y.t
  · rw [if_pos e]; simp [Nat.not_le.2 e]
  · rw [if_neg e]; simp [Nat.not_lt.1 e]
theorem ldR_same (R : RM) (y : Ld) : (ldR R y).fl = R.fl ∧ (ldR R y).s = R.s ∧ (ldR R y).tu = R.tu ∧ (ldR R y).a = R.a := by unfold ldR; split <;> exact ⟨rfl, rfl, rfl, rfl⟩
theorem ldRs_same : ∀ (l : List Ld) (R : RM), (l.foldl ldR R).fl = R.fl ∧ (l.foldl ldR R).s = R.s ∧ (l.foldl ldR R).tu = R.tu ∧ (l.foldl ldR R).a = R.a
  | [], R => ⟨rfl, rfl, rfl, rfl⟩
  | y :: l, R => by
    have h := ldRs_same l (ldR R y)
    have g := ldR_same R y
    exact ⟨h.1.trans g.1, h.2.1.trans g.2.1, h.2.2.1.trans g.2.2.1, h.2.2.2.trans g.2.2.2⟩
theorem lan_same (R : RM) (j : Nat) : (lanL R j).fl = R.fl ∧ (lanL R j).s = R.s := ⟨(ldRs_same _ R).1, (ldRs_same _ R).2.1⟩
theorem land_is (R : RM) : landR R = { lanL R R.fl.length with fl := lefL R R.fl.length } := by unfold landR lanL lefL; rw [List.take_length]
structure Lnz (W w : World) (t : Tab) (bs : List Bn) (H : Rx) (R : RM) (j : Nat) (v : Value) : Prop where
  m : Rch w t bs H (lanL R j)
  n : Rn W H w H
  l : w.ownsRow W.heap.size 90 4 v (lefL R j).length (lcells (lefL R j))
theorem Lnz.up {j : Nat} {v : Value} (h : Lnz W w t bs H R j v) (g : Below w.heap.size w w') : Lnz W w' t bs H R j v := ⟨h.m.up g, h.n.up g, row_up h.l g⟩
theorem row_ptr {B e z n : Nat} {v : Value} {xs : List Value} (h : w.ownsRow B e z v n xs) (hn : 0 < n) : ∃ g c, v = .slice (some ⟨g, 0, none⟩) n c ∧ g < w.heap.size ∧ ∀ (j : Nat) (u : Value), xs[j]? = some u → w.cell? ⟨g, j, none⟩ = some u := by
  obtain ⟨-, ⟨-, h2⟩ | ⟨g, cap, cur, h1, -⟩⟩ := id h
  · omega
  · subst h1
    exact ⟨g, cap, rfl, (h.lt g rfl).2, fun j u hj => row_cell' h hj⟩
set_option maxHeartbeats 4000000 in
theorem rland_any (L : Nat) (h : Rch W t bs H R) (hR : R.Ok L) (hL : L ≤ 200000000) : Calls Tryd.prog 49 #[ptr H.mb] W fun e w' => IrP W t bs H (landR R) e w' := by
  obtain ⟨i0, hi, hi2⟩ := Option.map_eq_some_iff.1 info90
  simp only [Prod.mk.injEq] at hi2
  have HI : Hid (Tryd.prog.info? 90 = some i0 ∧ i0.zero = some (.agg #[.int .i64 0, .bool false, .int .i64 0, .int .i64 0]) ∧ i0.size = 4 ∧ i0.bytes = 32) := ⟨hi, hi2.1, hi2.2.1, hi2.2.2⟩
  have H0 : Hid (Rch W t bs H R) := h
  have hlf := hR.lf
  have HRf : Hid (∀ y ∈ R.fl, y.t ≤ 200000000000 ∧ 0 ≤ y.n ∧ y.n < 256 ∧ (y.b = false → y.n < 32) ∧ I64 y.x) := hR.f
  have HQ : Hid (landR R = { lanL R R.fl.length with fl := lefL R R.fl.length }) := land_is R
  obtain ⟨nn, hnn⟩ : ∃ nn, R.fl.length = nn := ⟨_, rfl⟩
  have HN : Hid (R.fl.length = nn) := hnn
  have HZ : Hid (Lnz W W t bs H R 0 (.slice none 0 0)) := ⟨h, Rn.of (Below.refl _ _), ⟨rfl, .inl ⟨rfl, rfl⟩⟩⟩
  rw [hnn] at hlf
  clear h hR hi hi2 hnn
  go_enter Tryd.func49, Tryd.ntmps49
  go_wp2_with fail
  go_loopw [2, 3] (fun v i wr => ∃ j : Nat, j ≤ nn ∧ i = .int .i64 j ∧ Hid (Lnz W wr t bs H R j v)) (fun _ i _ => nn - (intOf i).toNat)
  case atStart => exact ⟨0, by omega, rfl, HZ⟩
  case round =>
    rename World => wr
    clear HZ
    obtain ⟨j, hj, rfl, HZ⟩ := hrel
    have q0 := HZ.out.m.c.fl
    obtain ⟨ao, cc, hfv⟩ := row_slice HZ.out.m.ff
    rw [(lan_same R j).1, HN.out] at hfv
    have HF : Hid (H.fv = .slice ao nn cc) := hfv
    rw [hfv] at q0
    have ql := HZ.out.m.c.lt
    clear hfv
    by_cases hlt : j < nn
    · have j0 : (0 : Int) ≤ (j : Int) := by omega
      have j1 : (j : Int) < (nn : Int) := by omega
      obtain ⟨y, hy⟩ : ∃ y, R.fl[j]? = some y := ⟨_, List.getElem?_eq_getElem (by rw [HN.out]; exact hlt)⟩
      obtain ⟨g, c2, e1, gl, g3⟩ := row_ptr HZ.out.m.ff (by rw [(lan_same R j).1, HN.out]; omega)
      rw [HF.out, (lan_same R j).1, HN.out] at e1
      rw [(lan_same R j).1] at g3
      injection e1 with e1
      subst e1
      obtain ⟨t0, t1, t2, t3⟩ := lcells_at hy
      have c0 := g3 _ _ t0
      have c1 := g3 _ _ t1
      have c2 := g3 _ _ t2
      have c3 := g3 _ _ t3
      have HY : Hid (R.fl[j]? = some y) := hy
      have HO := HRf.out y (List.mem_of_getElem? hy)
      clear hy t0 t1 t2 t3 g3
      obtain ⟨o1, o2, o3, o4, o5⟩ := HO
      have j2 : ((j + 1 : Nat) : Int) = (j : Int) + 1 := by omega
      go_upto_region 5 with fail
      have HX : Hid (Lnz W (wr.alloc (.cells #[.int .i64 (y.t : Int), .bool y.b, .int .i64 y.n, .int .i64 y.x] 90)) t bs H R j (u2) ∧ At (wr.alloc (.cells #[.int .i64 (y.t : Int), .bool y.b, .int .i64 y.n, .int .i64 y.x] 90)) wr.heap.size #[.int .i64 (y.t : Int), .bool y.b, .int .i64 y.n, .int .i64 y.x] ∧ W.heap.size ≤ wr.heap.size) := ⟨HZ.out.up ((Below.refl _ _).alloc (Nat.le_refl _) _), At.new _ _ _, HZ.out.n.f.size⟩
      clear q0 c0 c1 c2 c3 gl ql HZ
      generalize (wr.alloc (.cells #[.int .i64 (y.t : Int), .bool y.b, .int .i64 y.n, .int .i64 y.x] 90)) = X at *
      have y0 := HX.out.2.1.c 0 _ rfl
      have y1 := HX.out.2.1.c 1 _ rfl
      have y2 := HX.out.2.1.c 2 _ rfl
      have y3 := HX.out.2.1.c 3 _ rfl
      have yl := HX.out.2.1.lt
      have q1 := HX.out.1.m.c.s
      rw [(lan_same R j).2] at q1
      have ql := HX.out.1.m.c.lt
      by_cases hc : R.s < y.t
      · have hd : decide ((y.t : Int) > (R.s : Int)) = true := by simp; omega
        have hd2 : decide ((R.s : Int) < (y.t : Int)) = true := by simp; omega
        go_quiet (fail)
        rename Nat => n1
        have HY2 : Hid (Lnz W (X.drewN n1) t bs H R j u2 ∧ At (X.drewN n1) wr.heap.size #[.int .i64 (y.t : Int), .bool y.b, .int .i64 y.n, .int .i64 y.x] ∧ W.heap.size ≤ wr.heap.size) := ⟨HX.out.1.up (drewN_below (Below.refl _ X) _), HX.out.2.1.below (drewN_below (Below.refl _ X) _) HX.out.2.1.lt, HX.out.2.2⟩
        obtain ⟨la, lc, hu⟩ := row_slice HY2.out.1.l
        subst hu
        have hln : (lefL R j).length ≤ 200000000 := by unfold lefL; have h1 := List.length_filter_le (fun y => decide (R.s < y.t)) (R.fl.take j); have h2 : (R.fl.take j).length ≤ R.fl.length := by rw [List.length_take]; omega
                                                       rw [HN.out] at h2; omega
        have HRw : Hid (Lnz W (X.drewN n1) t bs H R j (.slice la (lefL R j).length lc) ∧ (X.drewN n1).ownsRow W.heap.size 90 4 (.slice la (lefL R j).length lc) (lefL R j).length (lcells (lefL R j))) := ⟨HY2.out.1, HY2.out.1.l⟩
        have HLn : Hid (lefL R (j + 1) = lefL R j ++ [y] ∧ lanL R (j + 1) = lanL R j) := ⟨by rw [lef_succ HY.out, if_pos hc], by rw [lan_succ HY.out, if_pos hc]⟩
        have hsz : W.heap.size ≤ (X.drewN n1).heap.size := HY2.out.1.n.f.size
        have HB : Hid (At (X.drewN n1) wr.heap.size #[.int .i64 (y.t : Int), .bool y.b, .int .i64 y.n, .int .i64 y.x]) := HY2.out.2.1
        generalize hlL : (lefL R j).length = ln at *
        have HLe : Hid ((lefL R j).length = ln) := hlL
        clear y0 y1 y2 y3 yl q1 ql HX HY2 hlL
        generalize (X.drewN n1) = Y at *
        have y0 := HB.out.c 0 _ rfl
        have y1 := HB.out.c 1 _ rfl
        have y2 := HB.out.c 2 _ rfl
        have y3 := HB.out.c 3 _ rfl
        have yl := HB.out.lt
        go_wp2_with (first | (at_builtin; refine wpList_append_lies _ rfl _ _ 75 rfl W.heap.size 90 i0 (.agg #[.int .i64 0, .bool false, .int .i64 0, .int .i64 0]) 4 32 Tryd.underlying75 HI.out.1 HI.out.2.1 HI.out.2.2.1 HI.out.2.2.2 rfl (by decide) (.slice la ln lc) ln (lcells (lefL R j)) rfl (HRw.out.2.alloc _) ⟨Y.heap.size, 0, none⟩ 1 1 [.int .i64 (y.t : Int), .bool y.b, .int .i64 y.n, .int .i64 y.x] rfl rfl (World.news_of_block (heap_alloc_new Y _)) (by simp [Value.oneCell']) (by decide) (by unfold maxLen; omega) (by omega) (by simp; omega) _ rfl ?_; intro g cap2 w6 hown hgrow hg hlt3; have HU : Hid (Lnz W w6 t bs H R (j + 1) (.slice (some ⟨g, 0, none⟩) (ln + 1) cap2)) := (by have hup : Below Y.heap.size Y (Y.alloc (.cells #[.int .i64 (y.t : Int), .bool y.b, .int .i64 y.n, .int .i64 y.x] 90)) := (Below.refl _ Y).alloc (Nat.le_refl _) _; have hz := HRw.out.1.up hup; have hh := Rch.away H0.out hz.m hz.n (fr_grown hgrow) (fun b e => (HRw.out.2.lt b e).1); exact ⟨by rw [HLn.out.2]; exact hh.1, hh.2, by rw [HLn.out.1, lcells_snoc, List.length_append, HLe.out]; exact hown⟩); clear hown hgrow hg hlt3))
        go_roundw
        case rel => exact ⟨j + 1, by omega, by go_num, HU⟩
        case measure => simp [intOf]; omega
      · have hd : decide ((y.t : Int) > (R.s : Int)) = false := by simp; omega
        have hd2 : decide ((R.s : Int) < (y.t : Int)) = false := by simp; omega
        have HLn : Hid (lefL R (j + 1) = lefL R j ∧ lanL R (j + 1) = ldR (lanL R j) y) := ⟨by rw [lef_succ HY.out, if_neg hc], by rw [lan_succ HY.out, if_neg hc]⟩
        go_quiet (fail)
        rename Nat => n1
        have HY2 : Hid (Lnz W (X.drewN n1) t bs H R j u2 ∧ At (X.drewN n1) wr.heap.size #[.int .i64 (y.t : Int), .bool y.b, .int .i64 y.n, .int .i64 y.x] ∧ ¬ rown H wr.heap.size) := ⟨HX.out.1.up (drewN_below (Below.refl _ X) _), HX.out.2.1.below (drewN_below (Below.refl _ X) _) HX.out.2.1.lt, fun ⟨i, hi, e⟩ => by have := H0.out.blt i hi _ e; have := HX.out.2.2; omega⟩
        have HGo : Hid (∀ (V V' : World) (u : Value), Lnz W V t bs H R j u → Rch V' t bs H (lanL R (j + 1)) → Fr (fun b => b = H.rb ∨ b = H.ub) V V' → Rn V H V' H → Lnz W V'.drew t bs H R (j + 1) u) := fun V V' u m1 m2 m3 m4 => by
          have := Lnz.up (W := W) (w := V') (w' := V'.drew) (j := j + 1) (v := u) ⟨m2, m1.n.trans m4, by
            rw [HLn.out.1]
            refine row_fr m1.l m3 fun b e hb => ?_
            have h1 := (m1.l.lt b e).1
            have h2 := H0.out.rr.lt
            have h3 := H0.out.mm.lt
            omega⟩ (drew_up _)
          exact this
        clear y0 y1 y2 y3 yl q1 ql HX
        generalize (X.drewN n1) = Y at *
        have y0 := HY2.out.2.1.c 0 _ rfl
        have y1 := HY2.out.2.1.c 1 _ rfl
        have y2 := HY2.out.2.1.c 2 _ rfl
        have y3 := HY2.out.2.1.c 3 _ rfl
        have yl := HY2.out.2.1.lt
        have ql := HY2.out.1.m.c.lt
        cases hyb : y.b with
        | true =>
          have HW : Hid (y.b = true) := hyb
          rw [hyb] at y1
          go_upto_region 8 with fail
          have q0 := HY2.out.1.m.c.ms
          have q1 := HY2.out.1.m.mm.c y.n.toNat (by omega)
          have q2 := HY2.out.1.m.mm.fz
          have q3 := HY2.out.1.m.mm.lt
          go_region
          all_goals
            go_wp2_with fail
            go_roundw
            case rel =>
              refine ⟨j + 1, by omega, by go_num, ?_⟩
              have hm := HY2.out.1.m.setM (k := y.n.toNat) (by omega) y.x
              exact HGo.out _ _ _ HY2.out.1 (by rw [HLn.out.2]; unfold ldR; rw [if_pos HW.out]; exact hm.1) ((Fr.refl (fun b => b = H.rb ∨ b = H.ub) Y).setCell (.inr (.inr rfl)) _ _) hm.2
            case measure => simp [intOf]; omega
        | false =>
          have HW : Hid (y.b = false) := hyb
          have o4' := o4 hyb
          rw [hyb] at y1
          go_upto_region 9 with fail
          have q0 := HY2.out.1.m.c.rs
          have q1 := HY2.out.1.m.rr.c y.n.toNat (by omega)
          have q2 := HY2.out.1.m.rr.fz
          have q3 := HY2.out.1.m.rr.lt
          go_region
          all_goals
            go_wp2_with fail
            go_roundw
            case rel =>
              refine ⟨j + 1, by omega, by go_num, ?_⟩
              have hm := HY2.out.1.m.setR (k := y.n.toNat) (by omega) y.x
              exact HGo.out _ _ _ HY2.out.1 (by rw [HLn.out.2]; unfold ldR; rw [if_neg (by rw [HW.out]; decide)]; exact hm.1) ((Fr.refl (fun b => b = H.rb ∨ b = H.ub) Y).setCell (.inr (.inl rfl)) _ _) hm.2
            case measure => simp [intOf]; omega
    · obtain rfl : j = nn := by omega
      have j1 : ¬ (j : Int) < (j : Int) := by omega
      obtain ⟨la, lc, hu⟩ := row_slice HZ.out.l
      subst hu
      have qz := HZ.out.m.c.fz
      go_wp2_with fail
      go_end0
      have hh := H0.out.putFl HZ.out.m HZ.out.n HZ.out.l
      refine ⟨rfl, _, ?_, hh.2⟩
      rw [HQ.out, HN.out]
      exact hh.1
/-- Of the first j turns: what stays, where the place is. -/
def lefT (R : RM) (j : Nat) : List (Nat × Int) := (R.tu.take j).filter fun y => decide (R.s < y.1)
def tuaT (R : RM) (j : Nat) : Int := ((R.tu.take j).filter fun y => decide (y.1 ≤ R.s)).foldl (fun _ y => y.2) R.a
theorem lefT_succ {j : Nat} {y : Nat × Int} (h : R.tu[j]? = some y) : lefT R (j + 1) = if R.s < y.1 then lefT R j ++ [y] else lefT R j := by
  unfold lefT
  rw [take_at h, List.filter_append]
  by_cases e : R.s < y.1
  · rw [if_pos e]; simp [e]
  · rw [if_neg e]; simp [e]
theorem tua_succ {j : Nat} {y : Nat × Int} (h : R.tu[j]? = some y) : tuaT R (j + 1) = if R.s < y.1 then tuaT R j else y.2 := by
  unfold tuaT
  rw [take_at h, List.filter_append, List.foldl_append]
  by_cases e : R.s < y.1
  · rw [if_pos e]; simp [Nat.not_le.2 e]
  · rw [if_neg e]; simp [Nat.not_lt.1 e]
theorem turn_is (R : RM) : turnR R = { R with a := tuaT R R.tu.length, tu := lefT R R.tu.length } := by unfold turnR tuaT lefT; rw [List.take_length]
structure Tz (W w : World) (t : Tab) (bs : List Bn) (H : Rx) (R : RM) (j : Nat) (v : Value) : Prop where
  m : Rch w t bs H { R with a := tuaT R j }
  n : Rn W H w H
  l : w.ownsRow W.heap.size 133 2 v (lefT R j).length (tcells (lefT R j))
theorem Tz.up {j : Nat} {v : Value} (h : Tz W w t bs H R j v) (g : Below w.heap.size w w') : Tz W w' t bs H R j v := ⟨h.m.up g, h.n.up g, row_up h.l g⟩
set_option maxHeartbeats 4000000 in
theorem rturn_any (L : Nat) (h : Rch W t bs H R) (hR : R.Ok L) (hL : L ≤ 200000000) : Calls Tryd.prog 50 #[ptr H.mb] W fun e w' => IrP W t bs H (turnR R) e w' := by
  obtain ⟨i0, hi, hi2⟩ := Option.map_eq_some_iff.1 info133
  simp only [Prod.mk.injEq] at hi2
  have HI : Hid (Tryd.prog.info? 133 = some i0 ∧ i0.zero = some (.agg #[.int .i64 0, .int .i64 0]) ∧ i0.size = 2 ∧ i0.bytes = 16) := ⟨hi, hi2.1, hi2.2.1, hi2.2.2⟩
  have H0 : Hid (Rch W t bs H R) := h
  have hlf := hR.lt
  have HRf : Hid (∀ y ∈ R.tu, y.1 ≤ 200000000000 ∧ I64 y.2) := hR.u
  have HQ : Hid (turnR R = { R with a := tuaT R R.tu.length, tu := lefT R R.tu.length }) := turn_is R
  obtain ⟨nn, hnn⟩ : ∃ nn, R.tu.length = nn := ⟨_, rfl⟩
  have HN : Hid (R.tu.length = nn) := hnn
  have HZ : Hid (Tz W W t bs H R 0 (.slice none 0 0)) := ⟨h, Rn.of (Below.refl _ _), ⟨rfl, .inl ⟨rfl, rfl⟩⟩⟩
  rw [hnn] at hlf
  clear h hR hi hi2 hnn
  go_enter Tryd.func50, Tryd.ntmps50
  go_wp2_with fail
  go_loopw [2, 3] (fun v i wr => ∃ j : Nat, j ≤ nn ∧ i = .int .i64 j ∧ Hid (Tz W wr t bs H R j v)) (fun _ i _ => nn - (intOf i).toNat)
  case atStart => exact ⟨0, by omega, rfl, HZ⟩
  case round =>
    rename World => wr
    clear HZ
    obtain ⟨j, hj, rfl, HZ⟩ := hrel
    have q0 := HZ.out.m.c.tn
    obtain ⟨ao, cc, hfv⟩ := row_slice HZ.out.m.tt
    have hfv : H.tv = .slice ao R.tu.length cc := hfv
    rw [HN.out] at hfv
    have HF : Hid (H.tv = .slice ao nn cc) := hfv
    rw [hfv] at q0
    have ql := HZ.out.m.c.lt
    clear hfv
    by_cases hlt : j < nn
    · have j0 : (0 : Int) ≤ (j : Int) := by omega
      have j1 : (j : Int) < (nn : Int) := by omega
      obtain ⟨y, hy⟩ : ∃ y, R.tu[j]? = some y := ⟨_, List.getElem?_eq_getElem (by rw [HN.out]; exact hlt)⟩
      obtain ⟨g, c2, e1, gl, g3⟩ := row_ptr HZ.out.m.tt (by show 0 < R.tu.length; rw [HN.out]; omega)
      have e1 : H.tv = .slice (some ⟨g, 0, none⟩) R.tu.length c2 := e1
      rw [HF.out, HN.out] at e1
      injection e1 with e1
      subst e1
      obtain ⟨t0, t1⟩ := tcells_at hy
      have c0 := g3 _ _ t0
      have c1 := g3 _ _ t1
      have HY : Hid (R.tu[j]? = some y) := hy
      have HO := HRf.out y (List.mem_of_getElem? hy)
      clear hy t0 t1 g3
      obtain ⟨o1, o5⟩ := HO
      have j2 : ((j + 1 : Nat) : Int) = (j : Int) + 1 := by omega
      have q1 : wr.cell? ⟨H.mb, 18, none⟩ = some (.int .i64 (R.s : Int)) := HZ.out.m.c.s
      by_cases hc : R.s < y.1
      · have hd : decide ((y.1 : Int) > (R.s : Int)) = true := by simp; omega
        have hd2 : decide ((R.s : Int) < (y.1 : Int)) = true := by simp; omega
        go_upto_region 4 with fail
        go_quiet (fail)
        rename Nat => n1
        go_upto_region 5 with fail
        have HY2 : Hid (Tz W (wr.drewN n1) t bs H R j u2) := HZ.out.up (drewN_below (Below.refl _ wr) _)
        have c0' : (wr.drewN n1).cell? ⟨g, j * 2, none⟩ = some (.int .i64 (y.1 : Int)) := c0
        have c1' : (wr.drewN n1).cell? ⟨g, j * 2 + 1, none⟩ = some (.int .i64 y.2) := c1
        have q0' : (wr.drewN n1).cell? ⟨H.mb, 20, none⟩ = some (.slice (some ⟨g, 0, none⟩) nn cc) := q0
        have gl' : g < (wr.drewN n1).heap.size := gl
        have ql' : H.mb < (wr.drewN n1).heap.size := ql
        obtain ⟨la, lc, hu⟩ := row_slice HY2.out.l
        subst hu
        have hln : (lefT R j).length ≤ 200000000 := by
          unfold lefT
          have h1 := List.length_filter_le (fun y => decide (R.s < y.1)) (R.tu.take j)
          have h2 : (R.tu.take j).length ≤ R.tu.length := by rw [List.length_take]; omega
          rw [HN.out] at h2; omega
        have HRw : Hid (Tz W (wr.drewN n1) t bs H R j (.slice la (lefT R j).length lc) ∧ (wr.drewN n1).ownsRow W.heap.size 133 2 (.slice la (lefT R j).length lc) (lefT R j).length (tcells (lefT R j))) := ⟨HY2.out, HY2.out.l⟩
        have HLn : Hid (lefT R (j + 1) = lefT R j ++ [y] ∧ tuaT R (j + 1) = tuaT R j) := ⟨by rw [lefT_succ HY.out, if_pos hc], by rw [tua_succ HY.out, if_pos hc]⟩
        have hsz : W.heap.size ≤ (wr.drewN n1).heap.size := HY2.out.n.f.size
        generalize hlL : (lefT R j).length = ln at *
        have HLe : Hid ((lefT R j).length = ln) := hlL
        clear c0 c1 q0 q1 ql gl HY2 hlL HZ
        generalize (wr.drewN n1) = Y at *
        go_wp2_with (first | (at_builtin; refine wpList_append_lies _ rfl _ _ 76 rfl W.heap.size 133 i0 (.agg #[.int .i64 0, .int .i64 0]) 2 16 Tryd.underlying76 HI.out.1 HI.out.2.1 HI.out.2.2.1 HI.out.2.2.2 rfl (by decide) (.slice la ln lc) ln (tcells (lefT R j)) rfl (HRw.out.2.alloc _) ⟨Y.heap.size, 0, none⟩ 1 1 [.int .i64 (y.1 : Int), .int .i64 y.2] rfl rfl (World.news_of_block (heap_alloc_new Y _)) (by simp [Value.oneCell']) (by decide) (by unfold maxLen; omega) (by omega) (by simp; omega) _ rfl ?_; intro g cap2 w6 hown hgrow hg hlt3; have HU : Hid (Tz W w6 t bs H R (j + 1) (.slice (some ⟨g, 0, none⟩) (ln + 1) cap2)) := (by have hup : Below Y.heap.size Y (Y.alloc (.cells #[.int .i64 (y.1 : Int), .int .i64 y.2] 133)) := (Below.refl _ Y).alloc (Nat.le_refl _) _; have hz := HRw.out.1.up hup; have hh := Rch.away H0.out hz.m hz.n (fr_grown hgrow) (fun b e => (HRw.out.2.lt b e).1); exact ⟨by rw [HLn.out.2]; exact hh.1, hh.2, by rw [HLn.out.1, tcells_snoc, List.length_append, HLe.out]; exact hown⟩); clear hown hgrow hg hlt3))
        go_roundw
        case rel => exact ⟨j + 1, by omega, by go_num, HU⟩
        case measure => simp [intOf]; omega
      · have hd : decide ((y.1 : Int) > (R.s : Int)) = false := by simp; omega
        have hd2 : decide ((R.s : Int) < (y.1 : Int)) = false := by simp; omega
        have HLn : Hid (lefT R (j + 1) = lefT R j ∧ tuaT R (j + 1) = y.2) := ⟨by rw [lefT_succ HY.out, if_neg hc], by rw [tua_succ HY.out, if_neg hc]⟩
        go_upto_region 4 with fail
        go_quiet (fail)
        rename Nat => n1
        go_upto_region 6 with fail
        have HY2 : Hid (Tz W (wr.drewN n1) t bs H R j u2) := HZ.out.up (drewN_below (Below.refl _ wr) _)
        have c0' : (wr.drewN n1).cell? ⟨g, j * 2, none⟩ = some (.int .i64 (y.1 : Int)) := c0
        have c1' : (wr.drewN n1).cell? ⟨g, j * 2 + 1, none⟩ = some (.int .i64 y.2) := c1
        have q0' : (wr.drewN n1).cell? ⟨H.mb, 20, none⟩ = some (.slice (some ⟨g, 0, none⟩) nn cc) := q0
        have gl' : g < (wr.drewN n1).heap.size := gl
        have ql' : H.mb < (wr.drewN n1).heap.size := ql
        have qa := HY2.out.m.c.a
        have qz := HY2.out.m.c.fz
        clear c0 c1 q0 q1 ql gl HZ
        generalize (wr.drewN n1) = Y at *
        go_wp2_with fail
        go_roundw
        case rel =>
          refine ⟨j + 1, by omega, by go_num, ?_⟩
          have f1 := HY2.out.m.one (HY2.out.m.c.setA y.2) ((Fr.refl (One H.mb) _).setCell (.inr rfl) _ _) rfl rfl rfl rfl rfl
          refine ⟨by rw [HLn.out.2]; exact f1.1, HY2.out.n.trans f1.2, ?_⟩
          rw [HLn.out.1]
          refine row_fr HY2.out.l ((Fr.refl (One H.mb) Y).setCell (.inr rfl) _ _) fun b e hb => ?_
          have h1 := (HY2.out.l.lt b e).1
          have h2 := H0.out.c.lt
          have hb : b = H.mb := hb
          omega
        case measure => simp [intOf]; omega
    · obtain rfl : j = nn := by omega
      have j1 : ¬ (j : Int) < (j : Int) := by omega
      obtain ⟨la, lc, hu⟩ := row_slice HZ.out.l
      subst hu
      have qz := HZ.out.m.c.fz
      go_wp2_with fail
      go_end0
      have hh := H0.out.putTu HZ.out.m HZ.out.n HZ.out.l
      refine ⟨rfl, _, ?_, hh.2⟩
      rw [HQ.out, HN.out]
      exact hh.1
end
end Go.Proofs.YtldfjlepbbmhnaaDoor.Pp
