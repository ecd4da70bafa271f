/- An operation is issued (issue), read off the program by the walk. Conditions: the machine lies in memory, the operation is one. -/
import Derived.Test.YtldfjlepbbmhnaaDoorQe
namespace Go.Proofs.YtldfjlepbbmhnaaDoor.Pp
open Go.ChangeShapes Go.WideShapes Go.ChangeAt Go.RowKit
open _root_.Go.Proofs.YtldfjlepbbmhnaaDoor.Op _root_.Go.Proofs.YtldfjlepbbmhnaaDoor.So _root_.Go.Proofs.YtldfjlepbbmhnaaDoor.Bu
open _root_.Go.Proofs.YtldfjlepbbmhnaaDoor.Tb (Tab TabAt Bnds)
set_option maxRecDepth 20000

theorem info2b : (Tryd.prog.info? 2).map (fun i => (i.zero, i.size, i.bytes)) = some (some (.int .i64 0), 1, 8) := by kernel_rfl
/-- What is read while something is put into flight. -/
structure KM (W : World) (q : Nat) (t : Tab) (S : PM) : Prop where
  lt : q < W.heap.size
  r : ∀ k, k < 32 → W.cell? ⟨q, 14 + k, none⟩ = some (.int .i64 (S.r k))
  d : W.cell? ⟨q, 13, none⟩ = some (.int .i64 t.d)
  s : W.cell? ⟨q, 315, none⟩ = some (.int .i64 (S.s : Int))
theorem MC.km {W : World} {t : Tab} {n : Nat} {H : Hx} {S : PM} (h : MC W t n H S) : KM W H.mb t S := ⟨h.lt, h.r, h.td, h.s⟩
section
variable {W : World} {t : Tab} {bs : List Bn} {H : Hx} {S : PM}
/-- What comes of an operation that ends nothing. -/
def IsP (W : World) (t : Tab) (bs : List Bn) (H : Hx) (S' : PM) (e : Ending) (w' : World) : Prop := e = .returned (.tuple #[]) ∧ ∃ H', Mch w' t bs H' S' ∧ Tn W H w' H'
theorem box_up (h : Mch W t bs H S) (o : O) : Mch (W.alloc (.cells o.cells 55)) t bs H S ∧ Tn W H (W.alloc (.cells o.cells 55)) H ∧ At (W.alloc (.cells o.cells 55)) W.heap.size o.cells ∧ ¬ own H W.heap.size := by
  have g : Below W.heap.size W (W.alloc (.cells o.cells 55)) := (Below.refl _ _).alloc (Nat.le_refl _) _
  refine ⟨h.up g, Tn.of g, At.new _ _ _, fun e => ?_⟩
  rcases e with e | ⟨i, hi, e⟩ | e
  · have := h.c.lt; omega
  · have := ((h.rr i hi).lt _ e).2; omega
  · have := (h.pp.lt _ e).2; omega
set_option maxHeartbeats 1000000 in
theorem issue_nop (o : O) (la : Nat) (h : Mch W t bs H S) (h0 : o.op = 0) : Calls Tryd.prog 63 #[ptr H.mb, o.val, .int .i64 (la : Int)] W fun e w' => IsP W t bs H S e w' := by
  have HM : Hid _ := box_up h o
  have hb0 : (o.op == 0) = true := by simpa using h0
  clear h h0
  go_enter Tryd.func63, Tryd.ntmps63
  go_wp2_with fail
  go_end0
  exact ⟨rfl, H, HM.out.1, HM.out.2.1⟩
/-- What was printed grows, in its own block or in a new one. -/
theorem Mch.print {W' : World} (h : Mch W t bs H S) {v' : Value} {x : Int} (hg : W.grownBy W' H.pv.ownBlock) (ho : W'.ownsRow 0 2 1 v' (S.p.length + 1) ((S.p.map fun x => Value.int .i64 x) ++ [.int .i64 x])) (hb : v'.ownBlock = H.pv.ownBlock ∨ v'.ownBlock = some W.heap.size) :
    MC W' t bs.length H S ∧ Mch (W'.setCell ⟨H.mb, 314, none⟩ v') t bs { H with pv := v' } { S with p := S.p ++ [x] } ∧ Tn W H (W'.setCell ⟨H.mb, 314, none⟩ v') { H with pv := v' } := by
  have g := fr_grown hg
  have c' : MC W' t bs.length H S := h.c.fr g fun e => h.d4 e
  have g2 : Fr (own H) W (W'.setCell ⟨H.mb, 314, none⟩ v') := (g.mono fun b _ e => .inr (.inr e)).setCell (.inr (.inl rfl)) _ _
  have gx : Fr (fun b => H.pv.ownBlock = some b ∨ b = H.mb) W (W'.setCell ⟨H.mb, 314, none⟩ v') := (g.mono fun b _ e => .inl e).setCell (.inr (.inr rfl)) _ _
  have hm := h.c.lt
  have vb : ∀ b, v'.ownBlock = some b → H.pv.ownBlock = some b ∨ b = W.heap.size := fun b e => by
    rcases hb with hb | hb
    · exact .inl (hb ▸ e)
    · rw [hb] at e; injection e with e; exact .inr e.symm
  have tn : Tn W H (W'.setCell ⟨H.mb, 314, none⟩ v') { H with pv := v' } := ⟨g2, fun b hb' => by
    rcases hb' with e | e | e
    · exact .inl (.inl e)
    · exact .inl (.inr (.inl e))
    · exact (vb b e).imp (fun e => .inr (.inr e)) fun e => by omega, rfl, rfl⟩
  refine ⟨c', ⟨c'.setP v' _, fun i hi => ?_, ?_, h.d1, ?_, h.d3, ?_, bF_go h.bF tn rfl⟩, tn⟩
  · exact row_fr (h.rr i hi) gx fun b e e2 => by
      rcases e2 with e2 | e2
      · exact h.d2 i hi b e e2
      · subst e2; exact h.d3 i hi e
  · show (W'.setCell ⟨H.mb, 314, none⟩ v').ownsRow 0 2 1 v' (S.p ++ [x]).length ((S.p ++ [x]).map fun x => .int .i64 x)
    rw [List.length_append, List.map_append]
    exact row_fr ho ((Fr.refl (One H.mb) W').setCell (.inr rfl) _ _) fun b e e2 => by
      have e2 : b = H.mb := e2
      subst e2
      rcases vb _ e with e | e
      · exact h.d4 e
      · omega
  · intro i hi b e1 e2
    have e2 : v'.ownBlock = some b := e2
    rcases vb b e2 with e | e
    · exact h.d2 i hi b e1 e
    · have := ((h.rr i hi).lt b e1).2; omega
  · intro e
    have e : v'.ownBlock = some H.mb := e
    rcases vb _ e with e | e
    · exact h.d4 e
    · omega
set_option maxHeartbeats 4000000 in
theorem issue_print (o : O) (la : Nat) (h : Mch W t bs H S) (ho : OkM o) (h0 : o.op = 17) (hl : S.p.length ≤ 1000000000) : Calls Tryd.prog 63 #[ptr H.mb, o.val, .int .i64 (la : Int)] W fun e w' => IsP W t bs H { S with p := S.p ++ [S.r o.a.toNat] } e w' := by
  obtain ⟨i0, hi, hi2⟩ := Option.map_eq_some_iff.1 info2b
  simp only [Prod.mk.injEq] at hi2
  have HI : Hid (Tryd.prog.info? 2 = some i0 ∧ i0.zero = some (.int .i64 0) ∧ i0.size = 1 ∧ i0.bytes = 8) := ⟨hi, hi2.1, hi2.2.1, hi2.2.2⟩
  have a0 := ho.ok.a0
  have a1 := ho.regs.2.1
  have HX : Hid _ := box_up h o
  have hb0 : (o.op == 0) = false := by rw [h0]; rfl
  have hb1 : (o.op == 17) = true := by rw [h0]; rfl
  clear h ho h0 hi hi2
  go_enter Tryd.func63, Tryd.ntmps63
  go_upto_region 11 with fail
  generalize (W.alloc (.cells o.cells 55)) = X at *
  have r0 := HX.out.1.c.r o.a.toNat (by omega)
  have p0 := HX.out.1.c.p
  have ql := HX.out.1.c.lt
  have b2 := HX.out.2.2.1.c 2 _ rfl
  have bl := HX.out.2.2.1.lt
  have e2 : X.drew.heap.size = X.heap.size := rfl
  generalize hxx : S.r o.a.toNat = x at *
  have HXe : Hid (S.r o.a.toNat = x) := hxx
  clear hxx
  go_region_law
    ((refine step_append_lies _ (by rfl) _ _ 26 (by rfl) 0 2 i0 (.int .i64 0) 1 8 Tryd.underlying26 HI.out.1 HI.out.2.1 HI.out.2.2.1 HI.out.2.2.2 rfl (by decide) H.pv S.p.length (S.p.map fun x => .int .i64 x) (by rfl) (HX.out.1.pp.drew.alloc _) ⟨X.heap.size, 0, none⟩ 1 1 [.int .i64 x] (by rfl) rfl (World.news_of_block (heap_alloc_new X.drew (.cells #[.int .i64 x] 2))) (by simp [Value.oneCell']) (by decide) (by unfold maxLen; omega) (by omega) (Nat.zero_le _) _ rfl ?_; intro g cap2 w6 hown hgrow hg hlt3; have HU : Hid (MC w6 t bs.length H S ∧ Mch (w6.setCell ⟨H.mb, 314, none⟩ (.slice (some ⟨g, 0, none⟩) (S.p.length + 1) cap2)) t bs { H with pv := .slice (some ⟨g, 0, none⟩) (S.p.length + 1) cap2 } { S with p := S.p ++ [x] } ∧ Tn W H (w6.setCell ⟨H.mb, 314, none⟩ (.slice (some ⟨g, 0, none⟩) (S.p.length + 1) cap2)) { H with pv := .slice (some ⟨g, 0, none⟩) (S.p.length + 1) cap2 }) := (by have hup : Below X.heap.size X (X.alloc (.cells #[.int .i64 x] 2)).drew := ((Below.refl _ X).alloc (Nat.le_refl _) _).drew; have hh := (HX.out.1.up hup).print (v' := .slice (some ⟨g, 0, none⟩) (S.p.length + 1) cap2) (x := x) hgrow hown (hg.elim (fun e => .inl e.symm) (fun e => .inr (congrArg some e))); exact ⟨hh.1, hh.2.1, (HX.out.2.1.up hup).trans hh.2.2⟩); have z0 := HU.out.1.p; have z1 := HU.out.1.fz; have z2 := HU.out.1.lt; clear hown hgrow hg hlt3))
  all_goals
    go_wp2_with fail
    go_end0
    refine ⟨rfl, _, ?_, HU.out.2.2⟩
    rw [HXe.out]
    exact HU.out.2.1
set_option maxHeartbeats 2000000 in
theorem issue_halt (o : O) (la : Nat) (h : Mch W t bs H S) (ho : OkM o) (h0 : o.op = 20) : Calls Tryd.prog 63 #[ptr H.mb, o.val, .int .i64 (la : Int)] W fun e w' => e = .panicked [{ v := .iface 109 (.agg #[.int .i64 0, .int .i64 (S.r o.a.toNat)]), recovered := false }] ∧ Below W.heap.size W w' := by
  have a0 := ho.ok.a0
  have a1 := ho.regs.2.1
  have HX : Hid _ := box_up h o
  have hb0 : (o.op == 0) = false := by rw [h0]; rfl
  have hb1 : (o.op == 17) = false := by rw [h0]; rfl
  have hb2 : (o.op == 16) = false := by rw [h0]; rfl
  have hb3 : (o.op == 21) = false := by rw [h0]; rfl
  have hb4 : (o.op == 20) = true := by rw [h0]; rfl
  clear h ho h0
  go_enter Tryd.func63, Tryd.ntmps63
  go_upto_region 14 with fail
  have HB : Hid (Below W.heap.size W (W.alloc (.cells o.cells 55))) := (Below.refl _ _).alloc (Nat.le_refl _) _
  generalize (W.alloc (.cells o.cells 55)) = X at *
  have HS : Hid (∀ V, Below X.heap.size X V → KM V H.mb t S ∧ At V W.heap.size o.cells) := fun V hV => ⟨(HX.out.1.up hV).c.km, HX.out.2.2.1.below hV HX.out.2.2.1.lt⟩
  refine wp_region_held_drew (S := fun W' => KM W' H.mb t S ∧ At W' W.heap.size o.cells) (by kernel_rfl) (HS.out _ (drew_up _)) (fun hHeld => ?_)
  refine wpAnyH_take (i := 0) (v := ptr H.mb) rfl (by kernel_rfl) (by kernel_rfl) (by kernel_rfl) (fun _ _ _ h => h) (Or.inl ⟨by rfl, fun w' hSw => by (go_simp)⟩) hHeld ?_
  simp only [Act.put, List.setIfInBounds_toArray, List.set_cons_zero, List.set_cons_succ, List.getElem_cons_zero, List.getElem_toArray]
  refine wpAnyH_take (i := 1) (v := .pointer (some ⟨W.heap.size, 2, none⟩)) rfl (by kernel_rfl) (by kernel_rfl) (by kernel_rfl) (fun _ _ _ h => h) (Or.inl ⟨by rfl, fun w' hSw => by (go_simp)⟩) hHeld ?_
  simp only [Act.put, List.setIfInBounds_toArray, List.set_cons_zero, List.set_cons_succ, List.getElem_cons_zero, List.getElem_cons_succ, List.getElem_toArray]
  refine wpAnyH_take (i := 2) (v := .int .u8 o.a) rfl (by kernel_rfl) (by kernel_rfl) (by kernel_rfl) (fun _ _ _ h => h) (Or.inl ⟨by rfl, fun w' hSw => by (have y0 := hSw.2.c 0 _ rfl; have y1 := hSw.2.c 1 _ rfl; have y2 := hSw.2.c 2 _ rfl; have y3 := hSw.2.c 3 _ rfl; have y4 := hSw.2.c 4 _ rfl; have yl := hSw.2.lt; go_simp)⟩) hHeld ?_
  simp only [Act.put, List.setIfInBounds_toArray, List.set_cons_zero, List.set_cons_succ, List.getElem_cons_zero, List.getElem_cons_succ, List.getElem_toArray]
  refine wpAnyH_take (i := 3) (v := ptr H.mb) rfl (by kernel_rfl) (by kernel_rfl) (by kernel_rfl) (fun _ _ _ h => h) (Or.inl ⟨by rfl, fun w' hSw => by (go_simp)⟩) hHeld ?_
  simp only [Act.put, List.setIfInBounds_toArray, List.set_cons_zero, List.set_cons_succ, List.getElem_cons_zero, List.getElem_cons_succ, List.getElem_toArray]
  refine wpAnyH_take (i := 4) (v := .pointer (some ⟨H.mb, 14, none⟩)) rfl (by kernel_rfl) (by kernel_rfl) (by kernel_rfl) (fun _ _ _ h => h) (Or.inl ⟨by rfl, fun w' hSw => by (go_simp)⟩) hHeld ?_
  simp only [Act.put, List.setIfInBounds_toArray, List.set_cons_zero, List.set_cons_succ, List.getElem_cons_zero, List.getElem_cons_succ, List.getElem_toArray]
  refine wpAnyH_take (i := 5) (v := .pointer (some ⟨H.mb, 14 + o.a.toNat, none⟩)) rfl (by kernel_rfl) (by kernel_rfl) (by kernel_rfl) (fun _ _ _ h => h) (Or.inl ⟨by rfl, fun w' hSw => by (go_simp)⟩) hHeld ?_
  simp only [Act.put, List.setIfInBounds_toArray, List.set_cons_zero, List.set_cons_succ, List.getElem_cons_zero, List.getElem_cons_succ, List.getElem_toArray]
  refine wpAnyH_take (i := 6) (v := .int .i64 (S.r o.a.toNat)) rfl (by kernel_rfl) (by kernel_rfl) (by kernel_rfl) (fun _ _ _ h => h) (Or.inl ⟨by rfl, fun w' hSw => by (have q := hSw.1.r o.a.toNat (by omega); have ql := hSw.1.lt; go_simp)⟩) hHeld ?_
  simp only [Act.put, List.setIfInBounds_toArray, List.set_cons_zero, List.set_cons_succ, List.getElem_cons_zero, List.getElem_cons_succ, List.getElem_toArray]
  refine wpAnyH_take (i := 7) (v := .agg #[.int .i64 0, .int .i64 (S.r o.a.toNat)]) rfl (by kernel_rfl) (by kernel_rfl) (by kernel_rfl) (fun _ _ _ h => h) (Or.inl ⟨by rfl, fun w' hSw => by (go_simp)⟩) hHeld ?_
  simp only [Act.put, List.setIfInBounds_toArray, List.set_cons_zero, List.set_cons_succ, List.getElem_cons_zero, List.getElem_cons_succ, List.getElem_toArray]
  refine wpAnyH_take (i := 8) (v := .iface 109 (.agg #[.int .i64 0, .int .i64 (S.r o.a.toNat)])) rfl (by kernel_rfl) (by kernel_rfl) (by kernel_rfl) (fun _ _ _ h => h) (Or.inl ⟨by rfl, fun w' hSw => by (go_simp)⟩) hHeld ?_
  simp only [Act.put, List.setIfInBounds_toArray, List.set_cons_zero, List.set_cons_succ, List.getElem_cons_zero, List.getElem_cons_succ, List.getElem_toArray]
  refine wpAnyH_ready (rs := [9]) (by kernel_rfl) (by simp) ?_
  refine AllReadyH.cons rfl (fun K hK => ?_) AllReadyH.nil
  go_simp
  exact ⟨rfl, rfl, HB.out.drew⟩
end
end Go.Proofs.YtldfjlepbbmhnaaDoor.Pp
