/- The document's machine: a turn, a result (goes, lands), read off the program by the walk. Conditions: the machine lies in memory. -/
import Derived.Test.YtldfjlepbbmhnaaDoorZc
namespace Go.Proofs.YtldfjlepbbmhnaaDoor.Pp
open Go.ChangeShapes Go.WideShapes Go.ChangeAt Go.RowKit
open _root_.Go.Proofs.YtldfjlepbbmhnaaDoor.Op _root_.Go.Proofs.YtldfjlepbbmhnaaDoor.So _root_.Go.Proofs.YtldfjlepbbmhnaaDoor.Bu
open _root_.Go.Proofs.YtldfjlepbbmhnaaDoor.Tb (Tab TabAt Bnds)
set_option maxRecDepth 20000

theorem info133 : (Tryd.prog.info? 133).map (fun i => (i.zero, i.size, i.bytes)) = some (some (.agg #[.int .i64 0, .int .i64 0]), 2, 16) := by kernel_rfl
theorem info90 : (Tryd.prog.info? 90).map (fun i => (i.zero, i.size, i.bytes)) = some (some (.agg #[.int .i64 0, .bool false, .int .i64 0, .int .i64 0]), 4, 32) := by kernel_rfl
section
variable {W : World} {t : Tab} {bs : List Bn} {H : Rx} {R : RM}
set_option maxHeartbeats 4000000 in
theorem rgoes_any (o : O) (h : Rch W t bs H R) (hd : 0 ≤ t.d ∧ t.d ≤ 7) (hs : R.s ≤ 100000000000) (hl : R.tu.length ≤ 1000000000) : Calls Tryd.prog 65 #[ptr H.mb, o.val] W fun e w' => e = .returned (.tuple #[]) ∧ ∃ H', Rch w' t bs H' (goesR t R o) ∧ Rn W H w' H' := by
  obtain ⟨i0, hi, hi2⟩ := Option.map_eq_some_iff.1 info133
  simp only [Prod.mk.injEq] at hi2
  have HI : Hid (Tryd.prog.info? 133 = some i0 ∧ i0.zero = some (.agg #[.int .i64 0, .int .i64 0]) ∧ i0.size = 2 ∧ i0.bytes = 16) := ⟨hi, hi2.1, hi2.2.1, hi2.2.2⟩
  have eT : ((R.s + 1 + t.d.toNat : Nat) : Int) = (R.s : Int) + 1 + t.d := by omega
  have HT : Hid (goesR t R o = { R with tu := R.tu ++ [(R.s + 1 + t.d.toNat, o.im)] } ∧ ((R.s + 1 + t.d.toNat : Nat) : Int) = (R.s : Int) + 1 + t.d) := ⟨rfl, eT⟩
  obtain ⟨d0, d1⟩ := hd
  have s1 : IntKind.i64.wrap ((R.s : Int) + 1) = (R.s : Int) + 1 := by rw [IntKind.wrap_i64]; omega
  have s2 : IntKind.i64.wrap ((R.s : Int) + 1 + t.d) = (R.s : Int) + 1 + t.d := by rw [IntKind.wrap_i64]; omega
  have HM : Hid (Rch W t bs H R) := h
  clear h hi hi2 eT
  go_enter Tryd.func65, Tryd.ntmps65
  go_upto_region 1 with fail
  have HX : Hid (Rch (W.alloc (.cells #[.int .i8 o.op, .int .u8 o.d, .int .u8 o.a, .int .u8 o.b, .int .i64 o.im] 55)) t bs H R ∧ Rn W H (W.alloc (.cells #[.int .i8 o.op, .int .u8 o.d, .int .u8 o.a, .int .u8 o.b, .int .i64 o.im] 55)) H ∧ At (W.alloc (.cells #[.int .i8 o.op, .int .u8 o.d, .int .u8 o.a, .int .u8 o.b, .int .i64 o.im] 55)) W.heap.size #[.int .i8 o.op, .int .u8 o.d, .int .u8 o.a, .int .u8 o.b, .int .i64 o.im]) := by
    have g : Below W.heap.size W (W.alloc (.cells #[.int .i8 o.op, .int .u8 o.d, .int .u8 o.a, .int .u8 o.b, .int .i64 o.im] 55)) := (Below.refl _ _).alloc (Nat.le_refl _) _
    exact ⟨HM.out.up g, Rn.of g, At.new _ _ _⟩
  have HN : Hid ((H.tv).ownBlock ≠ some W.heap.size ∧ W.heap.size ≠ H.mb) := ⟨fun e => absurd (HM.out.blt 4 (by decide) _ e) (by omega), fun e => absurd HM.out.c.lt (by omega)⟩
  clear HM
  generalize hX : (W.alloc (.cells #[.int .i8 o.op, .int .u8 o.d, .int .u8 o.a, .int .u8 o.b, .int .i64 o.im] 55)) = X at *
  clear hX
  have HS : Hid (∀ V, Below X.heap.size X V → V.cell? ⟨H.mb, 18, none⟩ = some (.int .i64 (R.s : Int)) ∧ V.cell? ⟨H.mb, 13, none⟩ = some (.int .i64 t.d) ∧ H.mb < V.heap.size ∧ At V W.heap.size #[.int .i8 o.op, .int .u8 o.d, .int .u8 o.a, .int .u8 o.b, .int .i64 o.im]) := fun V hV => ⟨(HX.out.1.up hV).c.s, (HX.out.1.up hV).c.td, (HX.out.1.up hV).c.lt, At.frb HX.out.2.2 (Fr.of (X := Non) hV) (fun e => e)⟩
  have q4 : X.drew.cell? ⟨H.mb, 20, none⟩ = some H.tv := HX.out.1.c.tn
  have ql : H.mb < X.drew.heap.size := HX.out.1.c.lt
  have HG : Hid (∀ g cap w6, (X.drew.alloc (.cells #[.int .i64 ((R.s : Int) + 1 + t.d), .int .i64 o.im] 133)).grownBy w6 (H.tv).ownBlock → w6.ownsRow 0 133 2 (.slice (some ⟨g, 0, none⟩) (R.tu.length + 1) cap) (R.tu.length + 1) (tcells R.tu ++ [.int .i64 ((R.s : Int) + 1 + t.d), .int .i64 o.im]) → ((H.tv).ownBlock = some g ∨ g = (X.drew.alloc (.cells #[.int .i64 ((R.s : Int) + 1 + t.d), .int .i64 o.im] 133)).heap.size) → RC w6 t bs.length H R ∧ Rch (w6.setCell ⟨H.mb, 20, none⟩ (.slice (some ⟨g, 0, none⟩) (R.tu.length + 1) cap)) t bs { H with tv := .slice (some ⟨g, 0, none⟩) (R.tu.length + 1) cap } (goesR t R o) ∧ Rn W H (w6.setCell ⟨H.mb, 20, none⟩ (.slice (some ⟨g, 0, none⟩) (R.tu.length + 1) cap)) { H with tv := .slice (some ⟨g, 0, none⟩) (R.tu.length + 1) cap } ∧ At w6 W.heap.size #[.int .i8 o.op, .int .u8 o.d, .int .u8 o.a, .int .u8 o.b, .int .i64 o.im] ∧ At (w6.setCell ⟨H.mb, 20, none⟩ (.slice (some ⟨g, 0, none⟩) (R.tu.length + 1) cap)) W.heap.size #[.int .i8 o.op, .int .u8 o.d, .int .u8 o.a, .int .u8 o.b, .int .i64 o.im]) := fun g cap w6 h1 h2 h3 => by
    have hup : Below X.heap.size X (X.drew.alloc (.cells #[.int .i64 ((R.s : Int) + 1 + t.d), .int .i64 o.im] 133)) := ((Below.refl _ X).drew).alloc (Nat.le_refl _) _
    have hh := (HX.out.1.up hup).rowTu (v' := .slice (some ⟨g, 0, none⟩) (R.tu.length + 1) cap) (l := R.tu ++ [(R.s + 1 + t.d.toNat, o.im)]) h1 (by rw [tcells_snoc, List.length_append, HT.out.2]; exact h2) (h3.elim (fun e => .inl e.symm) (fun e => .inr (.inl (congrArg some e))))
    have ha := At.frb (HS.out _ hup).2.2.2 (fr_grown h1) (fun e => HN.out.1 e)
    rw [HT.out.1]
    exact ⟨hh.1, hh.2.1, (HX.out.2.1.up hup).trans hh.2.2, ha, At.frb ha ((Fr.refl (One H.mb) w6).setCell (.inr rfl) _ _) (fun e => HN.out.2 e)⟩
  have HO : Hid (X.ownsRow 0 133 2 H.tv R.tu.length (tcells R.tu)) := HX.out.1.tt
  refine wp_region_held_drew (S := fun V => V.cell? ⟨H.mb, 18, none⟩ = some (.int .i64 (R.s : Int)) ∧ V.cell? ⟨H.mb, 13, none⟩ = some (.int .i64 t.d) ∧ H.mb < V.heap.size ∧ At V W.heap.size #[.int .i8 o.op, .int .u8 o.d, .int .u8 o.a, .int .u8 o.b, .int .i64 o.im]) (by kernel_rfl) (HS.out _ ((Below.refl _ X).drew)) (fun hHeld => ?_)
  refine wpAnyH_take (i := 0) (v := .pointer (some ⟨H.mb, 0, none⟩)) rfl (by kernel_rfl) (by kernel_rfl) (by kernel_rfl) (fun _ _ _ h => h) (Or.inl ⟨by rfl, fun w' hSw => by (go_simp)⟩) hHeld ?_
  simp only [Act.put, List.setIfInBounds_toArray, List.set_cons_zero, List.set_cons_succ, List.getElem_cons_zero, List.getElem_toArray]
  refine wpAnyH_take (i := 1) (v := .pointer (some ⟨H.mb, 0, none⟩)) rfl (by kernel_rfl) (by kernel_rfl) (by kernel_rfl) (fun _ _ _ h => h) (Or.inl ⟨by rfl, fun w' hSw => by (go_simp)⟩) hHeld ?_
  simp only [Act.put, List.setIfInBounds_toArray, List.set_cons_zero, List.set_cons_succ, List.getElem_cons_zero, List.getElem_cons_succ, List.getElem_toArray]
  refine wpAnyH_take (i := 2) (v := .pointer (some ⟨H.mb, 0, none⟩)) rfl (by kernel_rfl) (by kernel_rfl) (by kernel_rfl) (fun _ _ _ h => h) (Or.inl ⟨by rfl, fun w' hSw => by (go_simp)⟩) hHeld ?_
  simp only [Act.put, List.setIfInBounds_toArray, List.set_cons_zero, List.set_cons_succ, List.getElem_cons_zero, List.getElem_cons_succ, List.getElem_toArray]
  refine wpAnyH_take (i := 3) (v := .pointer (some ⟨H.mb, 20, none⟩)) rfl (by kernel_rfl) (by kernel_rfl) (by kernel_rfl) (fun _ _ _ h => h) (Or.inl ⟨by rfl, fun w' hSw => by (go_simp)⟩) hHeld ?_
  simp only [Act.put, List.setIfInBounds_toArray, List.set_cons_zero, List.set_cons_succ, List.getElem_cons_zero, List.getElem_cons_succ, List.getElem_toArray]
  refine wpAnyH_take (i := 5) (v := .pointer (some ⟨H.mb, 0, none⟩)) rfl (by kernel_rfl) (by kernel_rfl) (by kernel_rfl) (fun _ _ _ h => h) (Or.inl ⟨by rfl, fun w' hSw => by (go_simp)⟩) hHeld ?_
  simp only [Act.put, List.setIfInBounds_toArray, List.set_cons_zero, List.set_cons_succ, List.getElem_cons_zero, List.getElem_cons_succ, List.getElem_toArray]
  refine wpAnyH_take (i := 6) (v := .pointer (some ⟨H.mb, 0, none⟩)) rfl (by kernel_rfl) (by kernel_rfl) (by kernel_rfl) (fun _ _ _ h => h) (Or.inl ⟨by rfl, fun w' hSw => by (go_simp)⟩) hHeld ?_
  simp only [Act.put, List.setIfInBounds_toArray, List.set_cons_zero, List.set_cons_succ, List.getElem_cons_zero, List.getElem_cons_succ, List.getElem_toArray]
  refine wpAnyH_take (i := 7) (v := .pointer (some ⟨H.mb, 18, none⟩)) rfl (by kernel_rfl) (by kernel_rfl) (by kernel_rfl) (fun _ _ _ h => h) (Or.inl ⟨by rfl, fun w' hSw => by (go_simp)⟩) hHeld ?_
  simp only [Act.put, List.setIfInBounds_toArray, List.set_cons_zero, List.set_cons_succ, List.getElem_cons_zero, List.getElem_cons_succ, List.getElem_toArray]
  refine wpAnyH_take (i := 8) (v := .int .i64 (R.s : Int)) rfl (by kernel_rfl) (by kernel_rfl) (by kernel_rfl) (fun _ _ _ h => h) (Or.inl ⟨by rfl, fun w' hSw => by (have y := hSw.1; have yl := hSw.2.2.1; go_simp)⟩) hHeld ?_
  simp only [Act.put, List.setIfInBounds_toArray, List.set_cons_zero, List.set_cons_succ, List.getElem_cons_zero, List.getElem_cons_succ, List.getElem_toArray]
  refine wpAnyH_take (i := 9) (v := .int .i64 ((R.s : Int) + 1)) rfl (by kernel_rfl) (by kernel_rfl) (by kernel_rfl) (fun _ _ _ h => h) (Or.inl ⟨by rfl, fun w' hSw => by (go_simp)⟩) hHeld ?_
  simp only [Act.put, List.setIfInBounds_toArray, List.set_cons_zero, List.set_cons_succ, List.getElem_cons_zero, List.getElem_cons_succ, List.getElem_toArray]
  refine wpAnyH_take (i := 10) (v := .pointer (some ⟨H.mb, 0, none⟩)) rfl (by kernel_rfl) (by kernel_rfl) (by kernel_rfl) (fun _ _ _ h => h) (Or.inl ⟨by rfl, fun w' hSw => by (go_simp)⟩) hHeld ?_
  simp only [Act.put, List.setIfInBounds_toArray, List.set_cons_zero, List.set_cons_succ, List.getElem_cons_zero, List.getElem_cons_succ, List.getElem_toArray]
  refine wpAnyH_take (i := 11) (v := .pointer (some ⟨H.mb, 0, none⟩)) rfl (by kernel_rfl) (by kernel_rfl) (by kernel_rfl) (fun _ _ _ h => h) (Or.inl ⟨by rfl, fun w' hSw => by (go_simp)⟩) hHeld ?_
  simp only [Act.put, List.setIfInBounds_toArray, List.set_cons_zero, List.set_cons_succ, List.getElem_cons_zero, List.getElem_cons_succ, List.getElem_toArray]
  refine wpAnyH_take (i := 12) (v := .pointer (some ⟨H.mb, 1, none⟩)) rfl (by kernel_rfl) (by kernel_rfl) (by kernel_rfl) (fun _ _ _ h => h) (Or.inl ⟨by rfl, fun w' hSw => by (go_simp)⟩) hHeld ?_
  simp only [Act.put, List.setIfInBounds_toArray, List.set_cons_zero, List.set_cons_succ, List.getElem_cons_zero, List.getElem_cons_succ, List.getElem_toArray]
  refine wpAnyH_take (i := 13) (v := .pointer (some ⟨H.mb, 13, none⟩)) rfl (by kernel_rfl) (by kernel_rfl) (by kernel_rfl) (fun _ _ _ h => h) (Or.inl ⟨by rfl, fun w' hSw => by (go_simp)⟩) hHeld ?_
  simp only [Act.put, List.setIfInBounds_toArray, List.set_cons_zero, List.set_cons_succ, List.getElem_cons_zero, List.getElem_cons_succ, List.getElem_toArray]
  refine wpAnyH_take (i := 14) (v := .int .i64 t.d) rfl (by kernel_rfl) (by kernel_rfl) (by kernel_rfl) (fun _ _ _ h => h) (Or.inl ⟨by rfl, fun w' hSw => by (have y := hSw.2.1; have yl := hSw.2.2.1; go_simp)⟩) hHeld ?_
  simp only [Act.put, List.setIfInBounds_toArray, List.set_cons_zero, List.set_cons_succ, List.getElem_cons_zero, List.getElem_cons_succ, List.getElem_toArray]
  refine wpAnyH_take (i := 15) (v := .int .i64 ((R.s : Int) + 1 + t.d)) rfl (by kernel_rfl) (by kernel_rfl) (by kernel_rfl) (fun _ _ _ h => h) (Or.inl ⟨by rfl, fun w' hSw => by (go_simp)⟩) hHeld ?_
  simp only [Act.put, List.setIfInBounds_toArray, List.set_cons_zero, List.set_cons_succ, List.getElem_cons_zero, List.getElem_cons_succ, List.getElem_toArray]
  refine wpAnyH_take (i := 16) (v := .pointer (some ⟨W.heap.size, 4, none⟩)) rfl (by kernel_rfl) (by kernel_rfl) (by kernel_rfl) (fun _ _ _ h => h) (Or.inl ⟨by rfl, fun w' hSw => by (go_simp)⟩) hHeld ?_
  simp only [Act.put, List.setIfInBounds_toArray, List.set_cons_zero, List.set_cons_succ, List.getElem_cons_zero, List.getElem_cons_succ, List.getElem_toArray]
  refine wpAnyH_take (i := 17) (v := .int .i64 o.im) rfl (by kernel_rfl) (by kernel_rfl) (by kernel_rfl) (fun _ _ _ h => h) (Or.inl ⟨by rfl, fun w' hSw => by (have y := hSw.2.2.2.c 4 _ rfl; have yl := hSw.2.2.2.lt; go_simp)⟩) hHeld ?_
  simp only [Act.put, List.setIfInBounds_toArray, List.set_cons_zero, List.set_cons_succ, List.getElem_cons_zero, List.getElem_cons_succ, List.getElem_toArray]
  refine wpAnyH_take (i := 18) (v := .agg #[.int .i64 ((R.s : Int) + 1 + t.d), .int .i64 o.im]) rfl (by kernel_rfl) (by kernel_rfl) (by kernel_rfl) (fun _ _ _ h => h) (Or.inl ⟨by rfl, fun w' hSw => by (go_simp)⟩) hHeld ?_
  simp only [Act.put, List.setIfInBounds_toArray, List.set_cons_zero, List.set_cons_succ, List.getElem_cons_zero, List.getElem_cons_succ, List.getElem_toArray]
  refine wpAnyH_ready (rs := [4, 19]) (by kernel_rfl) (by simp) ?_
  refine AllReadyH.cons rfl (fun K hK => ?_) (AllReadyH.cons rfl (fun K hK => ?_) AllReadyH.nil)
  · go_simp
    refine hK.out _ _ hHeld (fun hHeld => ?_)
    clear hK K
    refine wpAnyH_ready (rs := [19]) (by kernel_rfl) (by simp) ?_
    refine AllReadyH.cons rfl (fun K hK => ?_) AllReadyH.nil
    go_simp
    refine hK.out _ _ (HS.out _ (((Below.refl _ X).drew).alloc (Nat.le_refl _) _)) (fun hHeld => ?_)
    clear hK K
    refine wpAnyH_ready (rs := [20]) (by kernel_rfl) (by simp) ?_
    refine AllReadyH.cons rfl (fun K hK => ?_) AllReadyH.nil
    refine step_append_lies _ (by rfl) _ _ 76 (by rfl) 0 133 i0 (.agg #[.int .i64 0, .int .i64 0]) 2 16 Tryd.underlying76 HI.out.1 HI.out.2.1 HI.out.2.2.1 HI.out.2.2.2 rfl (by decide) H.tv R.tu.length (tcells R.tu) (by rfl) (HO.out.drew.alloc _) ⟨X.heap.size, 0, none⟩ 1 1 [.int .i64 ((R.s : Int) + 1 + t.d), .int .i64 o.im] (by rfl) rfl (World.news_of_block (heap_alloc_new X.drew (.cells #[.int .i64 ((R.s : Int) + 1 + t.d), .int .i64 o.im] 133))) (by simp [Value.oneCell']) (by decide) (by unfold maxLen; omega) (by omega) (Nat.zero_le _) _ rfl ?_
    intro g cap w6 hown hgrow hg hlt6
    have HP : Hid _ := HG.out g cap w6 hgrow hown hg
    clear hown hgrow hg hlt6
    refine hK.out _ _ ⟨HP.out.1.s, HP.out.1.td, HP.out.1.lt, HP.out.2.2.2.1⟩ (fun hHeld => ?_)
    clear hK K
    refine wpAnyH_take (i := 21) (v := .pointer (some ⟨H.mb, 0, none⟩)) rfl (by kernel_rfl) (by kernel_rfl) (by kernel_rfl) (fun _ _ _ h => h) (Or.inl ⟨by rfl, fun w' hSw => by (go_simp)⟩) hHeld ?_
    simp only [Act.put, List.setIfInBounds_toArray, List.set_cons_zero, List.set_cons_succ, List.getElem_cons_zero, List.getElem_cons_succ, List.getElem_toArray]
    refine wpAnyH_take (i := 22) (v := .pointer (some ⟨H.mb, 20, none⟩)) rfl (by kernel_rfl) (by kernel_rfl) (by kernel_rfl) (fun _ _ _ h => h) (Or.inl ⟨by rfl, fun w' hSw => by (go_simp)⟩) hHeld ?_
    simp only [Act.put, List.setIfInBounds_toArray, List.set_cons_zero, List.set_cons_succ, List.getElem_cons_zero, List.getElem_cons_succ, List.getElem_toArray]
    refine wpAnyH_ready (rs := [23]) (by kernel_rfl) (by simp) ?_
    refine AllReadyH.cons rfl (fun K hK => ?_) AllReadyH.nil
    have z1 := HP.out.1.tn
    have z2 := HP.out.1.fz
    have z3 := HP.out.1.lt
    go_simp
    refine hK.out _ _ ⟨HP.out.2.1.c.s, HP.out.2.1.c.td, HP.out.2.1.c.lt, HP.out.2.2.2.2⟩ (fun hHeld => ?_)
    clear hK K
    clear hHeld z1 z2 z3
    refine wpAnyH_done (by kernel_rfl) ?_ _
    clear HG HS HO q4 ql
    go_wp2_with fail
    go_end0
    exact ⟨rfl, _, HP.out.2.1, HP.out.2.2.1⟩
  · go_simp
    refine hK.out _ _ (HS.out _ (((Below.refl _ X).drew).alloc (Nat.le_refl _) _)) (fun hHeld => ?_)
    clear hK K
    refine wpAnyH_ready (rs := [4]) (by kernel_rfl) (by simp) ?_
    refine AllReadyH.cons rfl (fun K hK => ?_) AllReadyH.nil
    have q5 : (X.alloc (.cells #[.int .i64 ((R.s : Int) + 1 + t.d), .int .i64 o.im] 133)).cell? ⟨H.mb, 20, none⟩ = some H.tv := (World.cell?_alloc_some _ _ _ (by rw [show X.cell? _ = _ from q4]; rfl)).trans q4
    go_simp
    refine hK.out _ _ hHeld (fun hHeld => ?_)
    clear hK K
    clear q5
    refine wpAnyH_ready (rs := [20]) (by kernel_rfl) (by simp) ?_
    refine AllReadyH.cons rfl (fun K hK => ?_) AllReadyH.nil
    refine step_append_lies _ (by rfl) _ _ 76 (by rfl) 0 133 i0 (.agg #[.int .i64 0, .int .i64 0]) 2 16 Tryd.underlying76 HI.out.1 HI.out.2.1 HI.out.2.2.1 HI.out.2.2.2 rfl (by decide) H.tv R.tu.length (tcells R.tu) (by rfl) (HO.out.drew.alloc _) ⟨X.heap.size, 0, none⟩ 1 1 [.int .i64 ((R.s : Int) + 1 + t.d), .int .i64 o.im] (by rfl) rfl (World.news_of_block (heap_alloc_new X.drew (.cells #[.int .i64 ((R.s : Int) + 1 + t.d), .int .i64 o.im] 133))) (by simp [Value.oneCell']) (by decide) (by unfold maxLen; omega) (by omega) (Nat.zero_le _) _ rfl ?_
    intro g cap w6 hown hgrow hg hlt6
    have HP : Hid _ := HG.out g cap w6 hgrow hown hg
    clear hown hgrow hg hlt6
    refine hK.out _ _ ⟨HP.out.1.s, HP.out.1.td, HP.out.1.lt, HP.out.2.2.2.1⟩ (fun hHeld => ?_)
    clear hK K
    refine wpAnyH_take (i := 21) (v := .pointer (some ⟨H.mb, 0, none⟩)) rfl (by kernel_rfl) (by kernel_rfl) (by kernel_rfl) (fun _ _ _ h => h) (Or.inl ⟨by rfl, fun w' hSw => by (go_simp)⟩) hHeld ?_
    simp only [Act.put, List.setIfInBounds_toArray, List.set_cons_zero, List.set_cons_succ, List.getElem_cons_zero, List.getElem_cons_succ, List.getElem_toArray]
    refine wpAnyH_take (i := 22) (v := .pointer (some ⟨H.mb, 20, none⟩)) rfl (by kernel_rfl) (by kernel_rfl) (by kernel_rfl) (fun _ _ _ h => h) (Or.inl ⟨by rfl, fun w' hSw => by (go_simp)⟩) hHeld ?_
    simp only [Act.put, List.setIfInBounds_toArray, List.set_cons_zero, List.set_cons_succ, List.getElem_cons_zero, List.getElem_cons_succ, List.getElem_toArray]
    refine wpAnyH_ready (rs := [23]) (by kernel_rfl) (by simp) ?_
    refine AllReadyH.cons rfl (fun K hK => ?_) AllReadyH.nil
    have z1 := HP.out.1.tn
    have z2 := HP.out.1.fz
    have z3 := HP.out.1.lt
    go_simp
    refine hK.out _ _ ⟨HP.out.2.1.c.s, HP.out.2.1.c.td, HP.out.2.1.c.lt, HP.out.2.2.2.2⟩ (fun hHeld => ?_)
    clear hK K
    clear hHeld z1 z2 z3
    refine wpAnyH_done (by kernel_rfl) ?_ _
    clear HG HS HO q4 ql
    go_wp2_with fail
    go_end0
    exact ⟨rfl, _, HP.out.2.1, HP.out.2.2.1⟩
set_option maxHeartbeats 4000000 in
theorem rlands_any (k : Nat) (b : Bool) (n x : Int) (h : Rch W t bs H R) (hk : k < 4) (hd : 1 ≤ t.l k ∧ t.l k ≤ 8) (hs : R.s ≤ 100000000000) (hl : R.fl.length ≤ 1000000000) : Calls Tryd.prog 64 #[ptr H.mb, .int .i64 (k : Int), .bool b, .int .i64 n, .int .i64 x] W fun e w' => e = .returned (.tuple #[]) ∧ ∃ H', Rch w' t bs H' (landsR t k R b n x) ∧ Rn W H w' H' := by
  obtain ⟨i0, hi, hi2⟩ := Option.map_eq_some_iff.1 info90
  simp only [Prod.mk.injEq] at hi2
  have HI : Hid (Tryd.prog.info? 90 = some i0 ∧ i0.zero = some (.agg #[.int .i64 0, .bool false, .int .i64 0, .int .i64 0]) ∧ i0.size = 4 ∧ i0.bytes = 32) := ⟨hi, hi2.1, hi2.2.1, hi2.2.2⟩
  have eT : ((R.s + (t.l k).toNat : Nat) : Int) = (R.s : Int) + t.l k := by omega
  have HT : Hid (landsR t k R b n x = { R with fl := R.fl ++ [⟨R.s + (t.l k).toNat, b, n, x⟩] } ∧ ((R.s + (t.l k).toNat : Nat) : Int) = (R.s : Int) + t.l k) := ⟨rfl, eT⟩
  obtain ⟨d0, d1⟩ := hd
  have s2 : IntKind.i64.wrap ((R.s : Int) + t.l k) = (R.s : Int) + t.l k := by rw [IntKind.wrap_i64]; omega
  have k0 : (0 : Int) ≤ (k : Int) := by omega
  have k1 : (k : Int) < 4 := by omega
  have HX : Hid (Rch W t bs H R) := h
  have HS : Hid (∀ V, Below W.heap.size W V → V.cell? ⟨H.mb, 18, none⟩ = some (.int .i64 (R.s : Int)) ∧ V.cell? ⟨H.mb, 5 + k, none⟩ = some (.int .i64 (t.l k)) ∧ H.mb < V.heap.size) := fun V hV => ⟨(HX.out.up hV).c.s, (HX.out.up hV).c.tl k hk, (HX.out.up hV).c.lt⟩
  have q4 : W.drew.cell? ⟨H.mb, 19, none⟩ = some H.fv := HX.out.c.fl
  have ql : H.mb < W.drew.heap.size := HX.out.c.lt
  have HG : Hid (∀ g cap w6, (W.drew.alloc (.cells #[.int .i64 ((R.s : Int) + t.l k), .bool b, .int .i64 n, .int .i64 x] 90)).grownBy w6 (H.fv).ownBlock → w6.ownsRow 0 90 4 (.slice (some ⟨g, 0, none⟩) (R.fl.length + 1) cap) (R.fl.length + 1) (lcells R.fl ++ [.int .i64 ((R.s : Int) + t.l k), .bool b, .int .i64 n, .int .i64 x]) → ((H.fv).ownBlock = some g ∨ g = (W.drew.alloc (.cells #[.int .i64 ((R.s : Int) + t.l k), .bool b, .int .i64 n, .int .i64 x] 90)).heap.size) → RC w6 t bs.length H R ∧ Rch (w6.setCell ⟨H.mb, 19, none⟩ (.slice (some ⟨g, 0, none⟩) (R.fl.length + 1) cap)) t bs { H with fv := .slice (some ⟨g, 0, none⟩) (R.fl.length + 1) cap } (landsR t k R b n x) ∧ Rn W H (w6.setCell ⟨H.mb, 19, none⟩ (.slice (some ⟨g, 0, none⟩) (R.fl.length + 1) cap)) { H with fv := .slice (some ⟨g, 0, none⟩) (R.fl.length + 1) cap }) := fun g cap w6 h1 h2 h3 => by
    have hup : Below W.heap.size W (W.drew.alloc (.cells #[.int .i64 ((R.s : Int) + t.l k), .bool b, .int .i64 n, .int .i64 x] 90)) := ((Below.refl _ W).drew).alloc (Nat.le_refl _) _
    have hh := (HX.out.up hup).rowFl (v' := .slice (some ⟨g, 0, none⟩) (R.fl.length + 1) cap) (l := R.fl ++ [⟨R.s + (t.l k).toNat, b, n, x⟩]) h1 (by rw [lcells_snoc, List.length_append, HT.out.2]; exact h2) (h3.elim (fun e => .inl e.symm) (fun e => .inr (.inl (congrArg some e))))
    rw [HT.out.1]
    exact ⟨hh.1, hh.2.1, (Rn.of hup).trans hh.2.2⟩
  have HO : Hid (W.ownsRow 0 90 4 H.fv R.fl.length (lcells R.fl)) := HX.out.ff
  have HK : Hid (k < 4) := hk
  clear h hi hi2 eT hk
  go_enter Tryd.func64, Tryd.ntmps64
  go_upto_region 0 with fail
  refine wp_region_held_drew (S := fun V => V.cell? ⟨H.mb, 18, none⟩ = some (.int .i64 (R.s : Int)) ∧ V.cell? ⟨H.mb, 5 + k, none⟩ = some (.int .i64 (t.l k)) ∧ H.mb < V.heap.size) (by kernel_rfl) (HS.out _ ((Below.refl _ W).drew)) (fun hHeld => ?_)
  refine wpAnyH_take (i := 0) (v := .pointer (some ⟨H.mb, 0, none⟩)) rfl (by kernel_rfl) (by kernel_rfl) (by kernel_rfl) (fun _ _ _ h => h) (Or.inl ⟨by rfl, fun w' hSw => by (go_simp)⟩) hHeld ?_
  simp only [Act.put, List.setIfInBounds_toArray, List.set_cons_zero, List.set_cons_succ, List.getElem_cons_zero, List.getElem_toArray]
  refine wpAnyH_take (i := 1) (v := .pointer (some ⟨H.mb, 0, none⟩)) rfl (by kernel_rfl) (by kernel_rfl) (by kernel_rfl) (fun _ _ _ h => h) (Or.inl ⟨by rfl, fun w' hSw => by (go_simp)⟩) hHeld ?_
  simp only [Act.put, List.setIfInBounds_toArray, List.set_cons_zero, List.set_cons_succ, List.getElem_cons_zero, List.getElem_cons_succ, List.getElem_toArray]
  refine wpAnyH_take (i := 2) (v := .pointer (some ⟨H.mb, 0, none⟩)) rfl (by kernel_rfl) (by kernel_rfl) (by kernel_rfl) (fun _ _ _ h => h) (Or.inl ⟨by rfl, fun w' hSw => by (go_simp)⟩) hHeld ?_
  simp only [Act.put, List.setIfInBounds_toArray, List.set_cons_zero, List.set_cons_succ, List.getElem_cons_zero, List.getElem_cons_succ, List.getElem_toArray]
  refine wpAnyH_take (i := 3) (v := .pointer (some ⟨H.mb, 19, none⟩)) rfl (by kernel_rfl) (by kernel_rfl) (by kernel_rfl) (fun _ _ _ h => h) (Or.inl ⟨by rfl, fun w' hSw => by (go_simp)⟩) hHeld ?_
  simp only [Act.put, List.setIfInBounds_toArray, List.set_cons_zero, List.set_cons_succ, List.getElem_cons_zero, List.getElem_cons_succ, List.getElem_toArray]
  refine wpAnyH_take (i := 5) (v := .pointer (some ⟨H.mb, 0, none⟩)) rfl (by kernel_rfl) (by kernel_rfl) (by kernel_rfl) (fun _ _ _ h => h) (Or.inl ⟨by rfl, fun w' hSw => by (go_simp)⟩) hHeld ?_
  simp only [Act.put, List.setIfInBounds_toArray, List.set_cons_zero, List.set_cons_succ, List.getElem_cons_zero, List.getElem_cons_succ, List.getElem_toArray]
  refine wpAnyH_take (i := 6) (v := .pointer (some ⟨H.mb, 0, none⟩)) rfl (by kernel_rfl) (by kernel_rfl) (by kernel_rfl) (fun _ _ _ h => h) (Or.inl ⟨by rfl, fun w' hSw => by (go_simp)⟩) hHeld ?_
  simp only [Act.put, List.setIfInBounds_toArray, List.set_cons_zero, List.set_cons_succ, List.getElem_cons_zero, List.getElem_cons_succ, List.getElem_toArray]
  refine wpAnyH_take (i := 7) (v := .pointer (some ⟨H.mb, 18, none⟩)) rfl (by kernel_rfl) (by kernel_rfl) (by kernel_rfl) (fun _ _ _ h => h) (Or.inl ⟨by rfl, fun w' hSw => by (go_simp)⟩) hHeld ?_
  simp only [Act.put, List.setIfInBounds_toArray, List.set_cons_zero, List.set_cons_succ, List.getElem_cons_zero, List.getElem_cons_succ, List.getElem_toArray]
  refine wpAnyH_take (i := 8) (v := .int .i64 (R.s : Int)) rfl (by kernel_rfl) (by kernel_rfl) (by kernel_rfl) (fun _ _ _ h => h) (Or.inl ⟨by rfl, fun w' hSw => by (have y := hSw.1; have yl := hSw.2.2; go_simp)⟩) hHeld ?_
  simp only [Act.put, List.setIfInBounds_toArray, List.set_cons_zero, List.set_cons_succ, List.getElem_cons_zero, List.getElem_cons_succ, List.getElem_toArray]
  refine wpAnyH_take (i := 9) (v := .pointer (some ⟨H.mb, 0, none⟩)) rfl (by kernel_rfl) (by kernel_rfl) (by kernel_rfl) (fun _ _ _ h => h) (Or.inl ⟨by rfl, fun w' hSw => by (go_simp)⟩) hHeld ?_
  simp only [Act.put, List.setIfInBounds_toArray, List.set_cons_zero, List.set_cons_succ, List.getElem_cons_zero, List.getElem_cons_succ, List.getElem_toArray]
  refine wpAnyH_take (i := 10) (v := .int .i64 (k : Int)) rfl (by kernel_rfl) (by kernel_rfl) (by kernel_rfl) (fun _ _ _ h => h) (Or.inl ⟨by rfl, fun w' hSw => by (go_simp)⟩) hHeld ?_
  simp only [Act.put, List.setIfInBounds_toArray, List.set_cons_zero, List.set_cons_succ, List.getElem_cons_zero, List.getElem_cons_succ, List.getElem_toArray]
  refine wpAnyH_take (i := 11) (v := .pointer (some ⟨H.mb, 0, none⟩)) rfl (by kernel_rfl) (by kernel_rfl) (by kernel_rfl) (fun _ _ _ h => h) (Or.inl ⟨by rfl, fun w' hSw => by (go_simp)⟩) hHeld ?_
  simp only [Act.put, List.setIfInBounds_toArray, List.set_cons_zero, List.set_cons_succ, List.getElem_cons_zero, List.getElem_cons_succ, List.getElem_toArray]
  refine wpAnyH_take (i := 12) (v := .pointer (some ⟨H.mb, 1, none⟩)) rfl (by kernel_rfl) (by kernel_rfl) (by kernel_rfl) (fun _ _ _ h => h) (Or.inl ⟨by rfl, fun w' hSw => by (go_simp)⟩) hHeld ?_
  simp only [Act.put, List.setIfInBounds_toArray, List.set_cons_zero, List.set_cons_succ, List.getElem_cons_zero, List.getElem_cons_succ, List.getElem_toArray]
  refine wpAnyH_take (i := 13) (v := .pointer (some ⟨H.mb, 5, none⟩)) rfl (by kernel_rfl) (by kernel_rfl) (by kernel_rfl) (fun _ _ _ h => h) (Or.inl ⟨by rfl, fun w' hSw => by (go_simp)⟩) hHeld ?_
  simp only [Act.put, List.setIfInBounds_toArray, List.set_cons_zero, List.set_cons_succ, List.getElem_cons_zero, List.getElem_cons_succ, List.getElem_toArray]
  refine wpAnyH_take (i := 14) (v := .pointer (some ⟨H.mb, 5 + k, none⟩)) rfl (by kernel_rfl) (by kernel_rfl) (by kernel_rfl) (fun _ _ _ h => h) (Or.inl ⟨by rfl, fun w' hSw => by (go_simp)⟩) hHeld ?_
  simp only [Act.put, List.setIfInBounds_toArray, List.set_cons_zero, List.set_cons_succ, List.getElem_cons_zero, List.getElem_cons_succ, List.getElem_toArray]
  refine wpAnyH_take (i := 15) (v := .int .i64 (t.l k)) rfl (by kernel_rfl) (by kernel_rfl) (by kernel_rfl) (fun _ _ _ h => h) (Or.inl ⟨by rfl, fun w' hSw => by (have y := hSw.2.1; have yl := hSw.2.2; go_simp)⟩) hHeld ?_
  simp only [Act.put, List.setIfInBounds_toArray, List.set_cons_zero, List.set_cons_succ, List.getElem_cons_zero, List.getElem_cons_succ, List.getElem_toArray]
  refine wpAnyH_take (i := 16) (v := .int .i64 ((R.s : Int) + t.l k)) rfl (by kernel_rfl) (by kernel_rfl) (by kernel_rfl) (fun _ _ _ h => h) (Or.inl ⟨by rfl, fun w' hSw => by (go_simp)⟩) hHeld ?_
  simp only [Act.put, List.setIfInBounds_toArray, List.set_cons_zero, List.set_cons_succ, List.getElem_cons_zero, List.getElem_cons_succ, List.getElem_toArray]
  refine wpAnyH_take (i := 17) (v := .bool b) rfl (by kernel_rfl) (by kernel_rfl) (by kernel_rfl) (fun _ _ _ h => h) (Or.inl ⟨by rfl, fun w' hSw => by (go_simp)⟩) hHeld ?_
  simp only [Act.put, List.setIfInBounds_toArray, List.set_cons_zero, List.set_cons_succ, List.getElem_cons_zero, List.getElem_cons_succ, List.getElem_toArray]
  refine wpAnyH_take (i := 18) (v := .int .i64 n) rfl (by kernel_rfl) (by kernel_rfl) (by kernel_rfl) (fun _ _ _ h => h) (Or.inl ⟨by rfl, fun w' hSw => by (go_simp)⟩) hHeld ?_
  simp only [Act.put, List.setIfInBounds_toArray, List.set_cons_zero, List.set_cons_succ, List.getElem_cons_zero, List.getElem_cons_succ, List.getElem_toArray]
  refine wpAnyH_take (i := 19) (v := .int .i64 x) rfl (by kernel_rfl) (by kernel_rfl) (by kernel_rfl) (fun _ _ _ h => h) (Or.inl ⟨by rfl, fun w' hSw => by (go_simp)⟩) hHeld ?_
  simp only [Act.put, List.setIfInBounds_toArray, List.set_cons_zero, List.set_cons_succ, List.getElem_cons_zero, List.getElem_cons_succ, List.getElem_toArray]
  refine wpAnyH_take (i := 20) (v := .agg #[.int .i64 ((R.s : Int) + t.l k), .bool b, .int .i64 n, .int .i64 x]) rfl (by kernel_rfl) (by kernel_rfl) (by kernel_rfl) (fun _ _ _ h => h) (Or.inl ⟨by rfl, fun w' hSw => by (go_simp)⟩) hHeld ?_
  simp only [Act.put, List.setIfInBounds_toArray, List.set_cons_zero, List.set_cons_succ, List.getElem_cons_zero, List.getElem_cons_succ, List.getElem_toArray]
  refine wpAnyH_ready (rs := [4, 21]) (by kernel_rfl) (by simp) ?_
  refine AllReadyH.cons rfl (fun K hK => ?_) (AllReadyH.cons rfl (fun K hK => ?_) AllReadyH.nil)
  · go_simp
    refine hK.out _ _ hHeld (fun hHeld => ?_)
    clear hK K
    refine wpAnyH_ready (rs := [21]) (by kernel_rfl) (by simp) ?_
    refine AllReadyH.cons rfl (fun K hK => ?_) AllReadyH.nil
    go_simp
    refine hK.out _ _ (HS.out _ (((Below.refl _ W).drew).alloc (Nat.le_refl _) _)) (fun hHeld => ?_)
    clear hK K
    refine wpAnyH_ready (rs := [22]) (by kernel_rfl) (by simp) ?_
    refine AllReadyH.cons rfl (fun K hK => ?_) AllReadyH.nil
    refine step_append_lies _ (by rfl) _ _ 75 (by rfl) 0 90 i0 (.agg #[.int .i64 0, .bool false, .int .i64 0, .int .i64 0]) 4 32 Tryd.underlying75 HI.out.1 HI.out.2.1 HI.out.2.2.1 HI.out.2.2.2 rfl (by decide) H.fv R.fl.length (lcells R.fl) (by rfl) (HO.out.drew.alloc _) ⟨W.heap.size, 0, none⟩ 1 1 [.int .i64 ((R.s : Int) + t.l k), .bool b, .int .i64 n, .int .i64 x] (by rfl) rfl (World.news_of_block (heap_alloc_new W.drew (.cells #[.int .i64 ((R.s : Int) + t.l k), .bool b, .int .i64 n, .int .i64 x] 90))) (by simp [Value.oneCell']) (by decide) (by unfold maxLen; omega) (by omega) (Nat.zero_le _) _ rfl ?_
    intro g cap w6 hown hgrow hg hlt6
    have HP : Hid _ := HG.out g cap w6 hgrow hown hg
    clear hown hgrow hg hlt6
    refine hK.out _ _ ⟨HP.out.1.s, HP.out.1.tl k HK.out, HP.out.1.lt⟩ (fun hHeld => ?_)
    clear hK K
    refine wpAnyH_take (i := 23) (v := .pointer (some ⟨H.mb, 0, none⟩)) rfl (by kernel_rfl) (by kernel_rfl) (by kernel_rfl) (fun _ _ _ h => h) (Or.inl ⟨by rfl, fun w' hSw => by (go_simp)⟩) hHeld ?_
    simp only [Act.put, List.setIfInBounds_toArray, List.set_cons_zero, List.set_cons_succ, List.getElem_cons_zero, List.getElem_cons_succ, List.getElem_toArray]
    refine wpAnyH_take (i := 24) (v := .pointer (some ⟨H.mb, 19, none⟩)) rfl (by kernel_rfl) (by kernel_rfl) (by kernel_rfl) (fun _ _ _ h => h) (Or.inl ⟨by rfl, fun w' hSw => by (go_simp)⟩) hHeld ?_
    simp only [Act.put, List.setIfInBounds_toArray, List.set_cons_zero, List.set_cons_succ, List.getElem_cons_zero, List.getElem_cons_succ, List.getElem_toArray]
    refine wpAnyH_ready (rs := [25]) (by kernel_rfl) (by simp) ?_
    refine AllReadyH.cons rfl (fun K hK => ?_) AllReadyH.nil
    have z1 := HP.out.1.fl
    have z2 := HP.out.1.fz
    have z3 := HP.out.1.lt
    go_simp
    refine hK.out _ _ ⟨HP.out.2.1.c.s, HP.out.2.1.c.tl k HK.out, HP.out.2.1.c.lt⟩ (fun hHeld => ?_)
    clear hK K
    clear hHeld z1 z2 z3
    refine wpAnyH_done (by kernel_rfl) ?_ _
    clear HG HS HO q4 ql
    go_wp2_with fail
    go_end0
    exact ⟨rfl, _, HP.out.2.1, HP.out.2.2⟩
  · go_simp
    refine hK.out _ _ (HS.out _ (((Below.refl _ W).drew).alloc (Nat.le_refl _) _)) (fun hHeld => ?_)
    clear hK K
    refine wpAnyH_ready (rs := [4]) (by kernel_rfl) (by simp) ?_
    refine AllReadyH.cons rfl (fun K hK => ?_) AllReadyH.nil
    have q5 : (W.alloc (.cells #[.int .i64 ((R.s : Int) + t.l k), .bool b, .int .i64 n, .int .i64 x] 90)).cell? ⟨H.mb, 19, none⟩ = some H.fv := (World.cell?_alloc_some _ _ _ (by rw [show W.cell? _ = _ from q4]; rfl)).trans q4
    go_simp
    refine hK.out _ _ hHeld (fun hHeld => ?_)
    clear hK K
    clear q5
    refine wpAnyH_ready (rs := [22]) (by kernel_rfl) (by simp) ?_
    refine AllReadyH.cons rfl (fun K hK => ?_) AllReadyH.nil
    refine step_append_lies _ (by rfl) _ _ 75 (by rfl) 0 90 i0 (.agg #[.int .i64 0, .bool false, .int .i64 0, .int .i64 0]) 4 32 Tryd.underlying75 HI.out.1 HI.out.2.1 HI.out.2.2.1 HI.out.2.2.2 rfl (by decide) H.fv R.fl.length (lcells R.fl) (by rfl) (HO.out.drew.alloc _) ⟨W.heap.size, 0, none⟩ 1 1 [.int .i64 ((R.s : Int) + t.l k), .bool b, .int .i64 n, .int .i64 x] (by rfl) rfl (World.news_of_block (heap_alloc_new W.drew (.cells #[.int .i64 ((R.s : Int) + t.l k), .bool b, .int .i64 n, .int .i64 x] 90))) (by simp [Value.oneCell']) (by decide) (by unfold maxLen; omega) (by omega) (Nat.zero_le _) _ rfl ?_
    intro g cap w6 hown hgrow hg hlt6
    have HP : Hid _ := HG.out g cap w6 hgrow hown hg
    clear hown hgrow hg hlt6
    refine hK.out _ _ ⟨HP.out.1.s, HP.out.1.tl k HK.out, HP.out.1.lt⟩ (fun hHeld => ?_)
    clear hK K
    refine wpAnyH_take (i := 23) (v := .pointer (some ⟨H.mb, 0, none⟩)) rfl (by kernel_rfl) (by kernel_rfl) (by kernel_rfl) (fun _ _ _ h => h) (Or.inl ⟨by rfl, fun w' hSw => by (go_simp)⟩) hHeld ?_
    simp only [Act.put, List.setIfInBounds_toArray, List.set_cons_zero, List.set_cons_succ, List.getElem_cons_zero, List.getElem_cons_succ, List.getElem_toArray]
    refine wpAnyH_take (i := 24) (v := .pointer (some ⟨H.mb, 19, none⟩)) rfl (by kernel_rfl) (by kernel_rfl) (by kernel_rfl) (fun _ _ _ h => h) (Or.inl ⟨by rfl, fun w' hSw => by (go_simp)⟩) hHeld ?_
    simp only [Act.put, List.setIfInBounds_toArray, List.set_cons_zero, List.set_cons_succ, List.getElem_cons_zero, List.getElem_cons_succ, List.getElem_toArray]
    refine wpAnyH_ready (rs := [25]) (by kernel_rfl) (by simp) ?_
    refine AllReadyH.cons rfl (fun K hK => ?_) AllReadyH.nil
    have z1 := HP.out.1.fl
    have z2 := HP.out.1.fz
    have z3 := HP.out.1.lt
    go_simp
    refine hK.out _ _ ⟨HP.out.2.1.c.s, HP.out.2.1.c.tl k HK.out, HP.out.2.1.c.lt⟩ (fun hHeld => ?_)
    clear hK K
    clear hHeld z1 z2 z3
    refine wpAnyH_done (by kernel_rfl) ?_ _
    clear HG HS HO q4 ql
    go_wp2_with fail
    go_end0
    exact ⟨rfl, _, HP.out.2.1, HP.out.2.2⟩
end
end Go.Proofs.YtldfjlepbbmhnaaDoor.Pp
