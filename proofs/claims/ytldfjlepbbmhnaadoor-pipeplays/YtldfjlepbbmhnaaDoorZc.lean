/- The document's machine: a row that it holds turns (what is in flight, turns, prints). Conditions: the machine lies in memory. -/
import Derived.Test.YtldfjlepbbmhnaaDoorZa
namespace Go.Proofs.YtldfjlepbbmhnaaDoor.Pp
open Go.ChangeShapes Go.WideShapes Go.ChangeAt Go.RowKit
open _root_.Go.Proofs.YtldfjlepbbmhnaaDoor.Op _root_.Go.Proofs.YtldfjlepbbmhnaaDoor.So _root_.Go.Proofs.YtldfjlepbbmhnaaDoor.Bu
open _root_.Go.Proofs.YtldfjlepbbmhnaaDoor.Tb (Tab TabAt Bnds)
set_option maxRecDepth 20000

theorem rless_any (a n : Int) (w : World) (ha : I64 a) (hn : I64 n) : Calls Tryd.prog 66 #[.int .i64 a, .int .i64 n] w fun e w' => e = .returned (.int .i64 (lessR a n)) ∧ w' = w := by
  obtain ⟨a0, a1⟩ := ha
  obtain ⟨n0, n1⟩ := hn
  unfold lessR
  by_cases h1 : n < 0
  · have wr : IntKind.i64.wrap (9223372036854775807 + n) = 9223372036854775807 + n := by rw [IntKind.wrap_i64]; omega
    by_cases h2 : 9223372036854775807 + n < a
    · rw [if_pos ⟨h1, h2⟩]
      go_enter Tryd.func66, Tryd.ntmps66
      go_wp2_with fail
      go_ret
      exact ⟨rfl, rfl⟩
    · have h3 : ¬ 0 < n := by omega
      rw [if_neg (fun e => h2 e.2), if_neg (fun e => h3 e.1)]
      have wd : IntKind.i64.wrap (a - n) = a - n := by rw [IntKind.wrap_i64]; omega
      obtain ⟨m, hm⟩ : ∃ m, max 0 (a - n) = m := ⟨_, rfl⟩
      rw [hm]
      go_enter Tryd.func66, Tryd.ntmps66
      go_wp2_with fail
      go_ret
      exact ⟨by first | rfl | (rw [← hm]), rfl⟩
  · by_cases h3 : 0 < n
    · have wr : IntKind.i64.wrap (-9223372036854775808 + n) = -9223372036854775808 + n := by rw [IntKind.wrap_i64]; omega
      by_cases h2 : a < -9223372036854775808 + n
      · rw [if_neg (fun e => h1 e.1), if_pos ⟨h3, h2⟩]
        go_enter Tryd.func66, Tryd.ntmps66
        go_wp2_with fail
        go_ret
        exact ⟨rfl, rfl⟩
      · rw [if_neg (fun e => h1 e.1), if_neg (fun e => h2 e.2)]
        have wd : IntKind.i64.wrap (a - n) = a - n := by rw [IntKind.wrap_i64]; omega
        obtain ⟨m, hm⟩ : ∃ m, max 0 (a - n) = m := ⟨_, rfl⟩
        rw [hm]
        go_enter Tryd.func66, Tryd.ntmps66
        go_wp2_with fail
        go_ret
        exact ⟨by first | rfl | (rw [← hm]), rfl⟩
    · obtain rfl : n = 0 := by omega
      rw [if_neg (fun e => h1 e.1), if_neg (fun e => h3 e.1)]
      have wd : IntKind.i64.wrap (a - 0) = a - 0 := by rw [IntKind.wrap_i64]; omega
      obtain ⟨m, hm⟩ : ∃ m, max 0 (a - 0) = m := ⟨_, rfl⟩
      rw [hm]
      go_enter Tryd.func66, Tryd.ntmps66
      go_wp2_with fail
      go_ret
      exact ⟨by rw [← hm, Int.sub_zero]; rfl, rfl⟩
section
variable {w : World} {t : Tab} {bs : List Bn} {H : Rx} {R : RM}
theorem rend_any (e v : Int) (h : Rch w t bs H R) : Calls Tryd.prog 51 #[ptr H.mb, .int .i64 e, .int .i64 v] w fun x w' => x = .returned (.tuple #[]) ∧ Rch w' t bs H { R with en := true, e := e, v := v } ∧ Rn w H w' H := by
  have HM : Hid _ := h
  have q0 := h.c.en
  have q1 := h.c.e
  have q2 := h.c.v
  have qz := h.c.fz
  have ql := h.c.lt
  clear h
  go_enter Tryd.func51, Tryd.ntmps51
  go_wp2_with fail
  go_end0
  have f1 := HM.out.one HM.out.c.setEn ((Fr.refl (One H.mb) _).setCell (.inr rfl) _ _) rfl rfl rfl rfl rfl
  have f2 := f1.1.one (f1.1.c.setE e) ((Fr.refl (One H.mb) _).setCell (.inr rfl) _ _) rfl rfl rfl rfl rfl
  have f3 := f2.1.one (f2.1.c.setV v) ((Fr.refl (One H.mb) _).setCell (.inr rfl) _ _) rfl rfl rfl rfl rfl
  exact ⟨rfl, f3.1, f1.2.trans (f2.2.trans f3.2)⟩
end
end Go.Proofs.YtldfjlepbbmhnaaDoor.Pp
namespace Go.Proofs.YtldfjlepbbmhnaaDoor.Pp
open Go.ChangeShapes Go.WideShapes Go.ChangeAt Go.RowKit
open _root_.Go.Proofs.YtldfjlepbbmhnaaDoor.Op _root_.Go.Proofs.YtldfjlepbbmhnaaDoor.So _root_.Go.Proofs.YtldfjlepbbmhnaaDoor.Bu
open _root_.Go.Proofs.YtldfjlepbbmhnaaDoor.Tb (Tab TabAt Bnds)
set_option maxRecDepth 20000

theorem Rch.blt {W : World} {t : Tab} {bs : List Bn} {H : Rx} {R : RM} (h : Rch W t bs H R) : ∀ j, j < 6 → ∀ b, blk H j = some b → b < W.heap.size
  | 0, _, b, e => by have e : H.mb = b := Option.some.inj e; rw [← e]; exact h.c.lt
  | 1, _, b, e => by have e : H.rb = b := Option.some.inj e; rw [← e]; exact h.rr.lt
  | 2, _, b, e => by have e : H.ub = b := Option.some.inj e; rw [← e]; exact h.mm.lt
  | 3, _, b, e => (h.ff.lt b e).2
  | 4, _, b, e => (h.tt.lt b e).2
  | 5, _, b, e => (h.pp.lt b e).2
  | j + 6, hj, _, _ => absurd hj (by omega)
/-- One part is another one, in its old block or in a new one: the parts are apart still. -/
theorem blk_new {H H' : Rx} {i sz : Nat} (hi : i < 6) (same : ∀ j, j < 6 → j ≠ i → blk H' j = blk H j) (vb : ∀ b, blk H' i = some b → blk H i = some b ∨ b = sz) (lt : ∀ j, j < 6 → ∀ b, blk H j = some b → b < sz) (d : ∀ i, i < 6 → ∀ j, j < 6 → i ≠ j → ∀ b, blk H i = some b → blk H j ≠ some b) :
    ∀ i, i < 6 → ∀ j, j < 6 → i ≠ j → ∀ b, blk H' i = some b → blk H' j ≠ some b := fun p hp q hq hpq b e1 e2 => by
  by_cases h1 : p = i
  · have h2 : q ≠ i := fun e => hpq (h1.trans e.symm)
    rw [same q hq h2] at e2
    rw [h1] at e1
    rcases vb b e1 with e | e
    · exact d i hi q hq (fun e' => h2 e'.symm) b e e2
    · have := lt q hq b e2; omega
  · rw [same p hp h1] at e1
    by_cases h2 : q = i
    · rw [h2] at e2
      rcases vb b e2 with e | e
      · exact d p hp i hi h1 b e1 e
      · have := lt p hp b e1; omega
    · rw [same q hq h2] at e2
      exact d p hp q hq hpq b e1 e2
section
variable {W W' : World} {t : Tab} {bs : List Bn} {H : Rx} {R : RM}
/-- What is in flight turns. -/
theorem Rch.rowFl (h : Rch W t bs H R) {v' : Value} {l : List Ld} (hg : W.grownBy W' (H.fv).ownBlock) (ho : W'.ownsRow 0 90 4 v' l.length (lcells l)) (hb : v'.ownBlock = (H.fv).ownBlock ∨ v'.ownBlock = some W.heap.size ∨ v'.ownBlock = none) :
    RC W' t bs.length H R ∧ Rch (W'.setCell ⟨H.mb, 19, none⟩ v') t bs { H with fv := v' } { R with fl := l } ∧ Rn W H (W'.setCell ⟨H.mb, 19, none⟩ v') { H with fv := v' } := by
  have g := fr_grown hg
  have off : ∀ j, j < 6 → j ≠ 3 → ∀ b, blk H j = some b → ¬ (H.fv).ownBlock = some b := fun j hj h0 b e1 e2 => h.d j hj 3 (by decide) h0 b e1 e2
  have c' : RC W' t bs.length H R := h.c.fr g (off 0 (by decide) (by decide) _ rfl)
  have g2 : Fr (rown H) W (W'.setCell ⟨H.mb, 19, none⟩ v') := (g.mono fun b _ e => ⟨3, by decide, e⟩).setCell (.inr ⟨0, by decide, rfl⟩) _ _
  have gx : Fr (fun b => (H.fv).ownBlock = some b ∨ b = H.mb) W (W'.setCell ⟨H.mb, 19, none⟩ v') := (g.mono fun b _ e => .inl e).setCell (.inr (.inr rfl)) _ _
  have hm := h.c.lt
  have vb : ∀ b, v'.ownBlock = some b → (H.fv).ownBlock = some b ∨ b = W.heap.size := fun b e => by
    rcases hb with hb | hb | hb
    · exact .inl (hb ▸ e)
    · rw [hb] at e; injection e with e; exact .inr e.symm
    · rw [hb] at e; cases e
  have same : ∀ j, j < 6 → j ≠ 3 → blk { H with fv := v' } j = blk H j := fun j hj h0 => by
    rcases (by omega : j = 0 ∨ j = 1 ∨ j = 2 ∨ j = 3 ∨ j = 4 ∨ j = 5) with rfl | rfl | rfl | rfl | rfl | rfl <;> first | rfl | exact absurd rfl h0
  have tn : Rn W H (W'.setCell ⟨H.mb, 19, none⟩ v') { H with fv := v' } := ⟨g2, fun b hb' => by
    obtain ⟨j, hj, e⟩ := hb'
    by_cases e0 : j = 3
    · subst e0
      exact (vb b e).imp (fun e => ⟨3, by decide, e⟩) fun e => by omega
    · rw [same j hj e0] at e
      exact .inl ⟨j, hj, e⟩, rfl, rfl, rfl, rfl⟩
  have away : ∀ j, j < 6 → j ≠ 3 → j ≠ 0 → ∀ b, blk H j = some b → ¬ ((H.fv).ownBlock = some b ∨ b = H.mb) := fun j hj h0 h1 b e e2 => by
    rcases e2 with e2 | e2
    · exact off j hj h0 b e e2
    · subst e2; exact h.d j hj 0 (by decide) h1 _ e rfl
  refine ⟨c', ⟨c'.setFl v' _, h.rr.fr gx (away 1 (by decide) (by decide) (by decide) _ rfl), h.mm.fr gx (away 2 (by decide) (by decide) (by decide) _ rfl), ?_, row_fr h.tt gx (away 4 (by decide) (by decide) (by decide)), row_fr h.pp gx (away 5 (by decide) (by decide) (by decide)), blk_new (i := 3) (sz := W.heap.size) (by decide) same vb h.blt h.d, rF_go h.bF tn⟩, tn⟩
  exact row_fr ho ((Fr.refl (One H.mb) W').setCell (.inr rfl) _ _) fun b e e2 => by
    have e2 : b = H.mb := e2
    subst e2
    rcases vb _ e with e | e
    · exact off 0 (by decide) (by decide) _ rfl e
    · omega
/-- Turns that are to be done turn. -/
theorem Rch.rowTu (h : Rch W t bs H R) {v' : Value} {l : List (Nat × Int)} (hg : W.grownBy W' (H.tv).ownBlock) (ho : W'.ownsRow 0 133 2 v' l.length (tcells l)) (hb : v'.ownBlock = (H.tv).ownBlock ∨ v'.ownBlock = some W.heap.size ∨ v'.ownBlock = none) :
    RC W' t bs.length H R ∧ Rch (W'.setCell ⟨H.mb, 20, none⟩ v') t bs { H with tv := v' } { R with tu := l } ∧ Rn W H (W'.setCell ⟨H.mb, 20, none⟩ v') { H with tv := v' } := by
  have g := fr_grown hg
  have off : ∀ j, j < 6 → j ≠ 4 → ∀ b, blk H j = some b → ¬ (H.tv).ownBlock = some b := fun j hj h0 b e1 e2 => h.d j hj 4 (by decide) h0 b e1 e2
  have c' : RC W' t bs.length H R := h.c.fr g (off 0 (by decide) (by decide) _ rfl)
  have g2 : Fr (rown H) W (W'.setCell ⟨H.mb, 20, none⟩ v') := (g.mono fun b _ e => ⟨4, by decide, e⟩).setCell (.inr ⟨0, by decide, rfl⟩) _ _
  have gx : Fr (fun b => (H.tv).ownBlock = some b ∨ b = H.mb) W (W'.setCell ⟨H.mb, 20, none⟩ v') := (g.mono fun b _ e => .inl e).setCell (.inr (.inr rfl)) _ _
  have hm := h.c.lt
  have vb : ∀ b, v'.ownBlock = some b → (H.tv).ownBlock = some b ∨ b = W.heap.size := fun b e => by
    rcases hb with hb | hb | hb
    · exact .inl (hb ▸ e)
    · rw [hb] at e; injection e with e; exact .inr e.symm
    · rw [hb] at e; cases e
  have same : ∀ j, j < 6 → j ≠ 4 → blk { H with tv := v' } j = blk H j := fun j hj h0 => by
    rcases (by omega : j = 0 ∨ j = 1 ∨ j = 2 ∨ j = 3 ∨ j = 4 ∨ j = 5) with rfl | rfl | rfl | rfl | rfl | rfl <;> first | rfl | exact absurd rfl h0
  have tn : Rn W H (W'.setCell ⟨H.mb, 20, none⟩ v') { H with tv := v' } := ⟨g2, fun b hb' => by
    obtain ⟨j, hj, e⟩ := hb'
    by_cases e0 : j = 4
    · subst e0
      exact (vb b e).imp (fun e => ⟨4, by decide, e⟩) fun e => by omega
    · rw [same j hj e0] at e
      exact .inl ⟨j, hj, e⟩, rfl, rfl, rfl, rfl⟩
  have away : ∀ j, j < 6 → j ≠ 4 → j ≠ 0 → ∀ b, blk H j = some b → ¬ ((H.tv).ownBlock = some b ∨ b = H.mb) := fun j hj h0 h1 b e e2 => by
    rcases e2 with e2 | e2
    · exact off j hj h0 b e e2
    · subst e2; exact h.d j hj 0 (by decide) h1 _ e rfl
  refine ⟨c', ⟨c'.setTu v' _, h.rr.fr gx (away 1 (by decide) (by decide) (by decide) _ rfl), h.mm.fr gx (away 2 (by decide) (by decide) (by decide) _ rfl), row_fr h.ff gx (away 3 (by decide) (by decide) (by decide)), ?_, row_fr h.pp gx (away 5 (by decide) (by decide) (by decide)), blk_new (i := 4) (sz := W.heap.size) (by decide) same vb h.blt h.d, rF_go h.bF tn⟩, tn⟩
  exact row_fr ho ((Fr.refl (One H.mb) W').setCell (.inr rfl) _ _) fun b e e2 => by
    have e2 : b = H.mb := e2
    subst e2
    rcases vb _ e with e | e
    · exact off 0 (by decide) (by decide) _ rfl e
    · omega
/-- What was printed turns. -/
theorem Rch.rowP (h : Rch W t bs H R) {v' : Value} {l : List Int} (hg : W.grownBy W' (H.pv).ownBlock) (ho : W'.ownsRow 0 2 1 v' l.length (nums l)) (hb : v'.ownBlock = (H.pv).ownBlock ∨ v'.ownBlock = some W.heap.size ∨ v'.ownBlock = none) :
    RC W' t bs.length H R ∧ Rch (W'.setCell ⟨H.mb, 24, none⟩ v') t bs { H with pv := v' } { R with p := l } ∧ Rn W H (W'.setCell ⟨H.mb, 24, none⟩ v') { H with pv := v' } := by
  have g := fr_grown hg
  have off : ∀ j, j < 6 → j ≠ 5 → ∀ b, blk H j = some b → ¬ (H.pv).ownBlock = some b := fun j hj h0 b e1 e2 => h.d j hj 5 (by decide) h0 b e1 e2
  have c' : RC W' t bs.length H R := h.c.fr g (off 0 (by decide) (by decide) _ rfl)
  have g2 : Fr (rown H) W (W'.setCell ⟨H.mb, 24, none⟩ v') := (g.mono fun b _ e => ⟨5, by decide, e⟩).setCell (.inr ⟨0, by decide, rfl⟩) _ _
  have gx : Fr (fun b => (H.pv).ownBlock = some b ∨ b = H.mb) W (W'.setCell ⟨H.mb, 24, none⟩ v') := (g.mono fun b _ e => .inl e).setCell (.inr (.inr rfl)) _ _
  have hm := h.c.lt
  have vb : ∀ b, v'.ownBlock = some b → (H.pv).ownBlock = some b ∨ b = W.heap.size := fun b e => by
    rcases hb with hb | hb | hb
    · exact .inl (hb ▸ e)
    · rw [hb] at e; injection e with e; exact .inr e.symm
    · rw [hb] at e; cases e
  have same : ∀ j, j < 6 → j ≠ 5 → blk { H with pv := v' } j = blk H j := fun j hj h0 => by
    rcases (by omega : j = 0 ∨ j = 1 ∨ j = 2 ∨ j = 3 ∨ j = 4 ∨ j = 5) with rfl | rfl | rfl | rfl | rfl | rfl <;> first | rfl | exact absurd rfl h0
  have tn : Rn W H (W'.setCell ⟨H.mb, 24, none⟩ v') { H with pv := v' } := ⟨g2, fun b hb' => by
    obtain ⟨j, hj, e⟩ := hb'
    by_cases e0 : j = 5
    · subst e0
      exact (vb b e).imp (fun e => ⟨5, by decide, e⟩) fun e => by omega
    · rw [same j hj e0] at e
      exact .inl ⟨j, hj, e⟩, rfl, rfl, rfl, rfl⟩
  have away : ∀ j, j < 6 → j ≠ 5 → j ≠ 0 → ∀ b, blk H j = some b → ¬ ((H.pv).ownBlock = some b ∨ b = H.mb) := fun j hj h0 h1 b e e2 => by
    rcases e2 with e2 | e2
    · exact off j hj h0 b e e2
    · subst e2; exact h.d j hj 0 (by decide) h1 _ e rfl
  refine ⟨c', ⟨c'.setP v' _, h.rr.fr gx (away 1 (by decide) (by decide) (by decide) _ rfl), h.mm.fr gx (away 2 (by decide) (by decide) (by decide) _ rfl), row_fr h.ff gx (away 3 (by decide) (by decide) (by decide)), row_fr h.tt gx (away 4 (by decide) (by decide) (by decide)), ?_, blk_new (i := 5) (sz := W.heap.size) (by decide) same vb h.blt h.d, rF_go h.bF tn⟩, tn⟩
  exact row_fr ho ((Fr.refl (One H.mb) W').setCell (.inr rfl) _ _) fun b e e2 => by
    have e2 : b = H.mb := e2
    subst e2
    rcases vb _ e with e | e
    · exact off 0 (by decide) (by decide) _ rfl e
    · omega
end
end Go.Proofs.YtldfjlepbbmhnaaDoor.Pp
