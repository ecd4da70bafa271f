/- The document's answer on what is ahead of an operation; two lists of sets that are the same: read off the program by the walk. Conditions: the program lies in memory. -/
import Derived.Test.YtddcndlogoajkaaGreatDoorQDc
import Derived.Test.YtddcndlogoajkaaGreatDoorBa
namespace Go.Proofs.YtddcndlogoajkaaGreatDoor.L8.Li
open Go.ChangeShapes Go.WideShapes Go.ChangeAt Go.RowKit
open _root_.Go.Proofs.YtddcndlogoajkaaGreatDoor.L8.So _root_.Go.Proofs.YtddcndlogoajkaaGreatDoor.L8.Op _root_.Go.Proofs.YtddcndlogoajkaaGreatDoor.L8.Fl _root_.Go.Proofs.YtddcndlogoajkaaGreatDoor.L8.Lv
set_option maxRecDepth 20000

def ucl (xs : List Nat) : List Value := xs.map fun (x : Nat) => Value.int .u32 (x : Int)
/-- The row of sets so far. -/
structure Or (w wI wr : World) (ao : Option Addr) (cap : Nat) (ps : List Bk) (v : Value) (ys : List Nat) : Prop where
  q : Bw w wr ao cap ps
  row : wr.ownsRow wI.heap.size 99 1 v ys.length (ucl ys)
  b : Below wI.heap.size wI wr
theorem Or.up {w wI wr w' : World} {ao : Option Addr} {cap : Nat} {ps : List Bk} {v : Value} {ys : List Nat} (h : Or w wI wr ao cap ps v ys) (hb : Below wr.heap.size wr w') : Or w wI w' ao cap ps v ys := ⟨h.q.up hb, row_below' h.row hb, h.b.trans (hb.mono h.b.size)⟩
theorem Or.put {w wI wr w4 : World} {ao : Option Addr} {cap : Nat} {ps : List Bk} {v v4 : Value} {ys : List Nat} {y : Nat} {o : Obj} (hq : Bw w wI ao cap ps) (h : Or w wI wr ao cap ps v ys) (ho : w4.ownsRow wI.heap.size 99 1 v4 (ys.length + 1) (ucl ys ++ [.int .u32 (y : Int)])) (hg : (wr.alloc o).grownBy w4 v.ownBlock) : Or w wI w4 ao cap ps v4 (ys ++ [y]) := by
  have hb : Below wI.heap.size wI w4 := (h.b.alloc h.b.size o).grown hg (by have := h.b.size; simp; omega) (fun b hb => (h.row.lt b hb).1)
  refine ⟨hq.up hb, ?_, hb⟩
  rw [List.length_append]
  simpa [ucl] using ho
theorem ul_row {w : World} {B c : Nat} {a : Option Addr} {xs : List Nat} (h : w.ownsRow B 99 1 (.slice a xs.length c) xs.length (ucl xs)) : Ul w a xs := ⟨fun h0 => by
  obtain ⟨g, cp, e, hg, hlt⟩ := h.form h0
  injection e with e1 e2 e3
  subst e1
  refine ⟨g, rfl, hlt, fun i hi => ?_⟩
  rw [h.cellAt i (by omega)]
  simp [ucl, hi]⟩
set_option maxHeartbeats 2000000 in
theorem refOut_is (I : List Nat) (ao : Option Addr) (cap : Nat) (ps : List Bk) (w : World) (hI0 : InIs ps I) (h : PAt w ao ps) (hc : ckP ps = 0) :
    Calls Tryz.prog 75 #[.agg #[.slice ao ps.length cap]] w fun e w' => ∃ a c, e = .returned (.slice a ps.length c) ∧ Ul w' a (ps.map fun x => endN (bOf x) I) ∧ IsIn ps I ∧ Below w.heap.size w w' := by
  have HK : Hid _ := refIn_is I ao cap ps (w.alloc (.cells #[.slice ao ps.length cap] 24)) hI0 (h.below (below_al _))
  have HP : Hid (PAt w ao ps) := h
  obtain ⟨i1, hi, hi2⟩ := Option.map_eq_some_iff.1 info99
  simp only [Prod.mk.injEq] at hi2
  obtain ⟨hz0, hz1, hz2⟩ := hi2
  have HJ : Hid (Tryz.prog.info? 99 = some i1 ∧ i1.zero = some (.int .u32 0) ∧ i1.size = 1 ∧ i1.bytes = 4) := ⟨hi, hz0, hz1, hz2⟩
  have hpl := (good_of hc).le
  have hp0 := (good_of hc).pos
  have HL : Hid (IsIn ps I → I.length = ps.length) := fun hI => by
    have := hI.len
    rw [if_pos hc] at this
    exact this
  have HE : Hid (∀ (k : Nat) (hk : k < ps.length), endB ps[k] ps.length = true) := fun k hk => end_of (ck_blocks hc _ (List.getElem_mem hk))
  clear hi hz0 hz1 hz2 h hI0 hc
  go_enter Tryz.func75, Tryz.ntmps75
  go_wp2_with (first
    | (go_at_call 95; refine Calls.mono HK.out ?_; rintro e w1 ⟨a, c, rfl, hU, hI, hb⟩; obtain ⟨a1, hb0, hz⟩ := one_new w _ _ hb; have HA1 : Hid (Bw w w1 ao cap ps) := ⟨a1, hb0⟩; have HI1 : Hid (Ul w1 a I ∧ IsIn ps I) := ⟨hU, hI⟩; rw [HL.out hI]; have HLl : Hid _ := HL.out hI; clear hb hb0 a1 HK hU hI))
  go_loopw [4, 5] (fun v i wr => ∃ (k : Nat), k ≤ ps.length ∧ i = .int .i64 k ∧ Hid (Or w w1 wr ao cap ps v ((List.range k).map (endAt ps I)))) (fun _ i _ => ps.length - (intOf i).toNat)
  case atStart => exact ⟨0, by omega, rfl, HA1.out, World.ownsRow_nil _ _ _ _, Below.refl _ _⟩
  case round =>
    rename_i wr
    obtain ⟨k, hk, rfl, HO⟩ := hrel
    have cb := HO.out.q.cell
    by_cases hkp : k < ps.length
    · have hkpz : (k : Int) < (ps.length : Int) := by omega
      obtain ⟨bp, fp, rfl, hblt, hx⟩ := HP.out.is (by omega)
      obtain ⟨p, hp, hin⟩ := hx k hkp
      obtain ⟨p0, p1, p2, p3, p4, p5⟩ := hp.below HO.out.q.b hblt
      have HC : Hid (Calls Tryz.prog 96 #[ps[k].val p, .slice a ps.length c] wr fun e w' => e = .returned (.int .u32 ((endAt ps I k : Nat) : Int)) ∧ Below wr.heap.size wr w') := by
        have hA := refEnd8_any ps[k] p a c I wr (hin.below HO.out.q.b) (HI1.out.1.below HO.out.b) HI1.out.2.fit (by rw [HLl.out]; omega) (by rw [HLl.out]; exact HE.out k hkp)
        rw [HLl.out] at hA
        rw [endAt_eq hkp]
        exact hA
      have hA : Hid ((List.range (k + 1)).map (endAt ps I) = (List.range k).map (endAt ps I) ++ [endAt ps I k]) := by
        show _ = _
        rw [List.range_succ, List.map_append]; rfl
      have hln : ((List.range k).map (endAt ps I)).length = k := by simp
      generalize (List.range k).map (endAt ps I) = ys at *
      generalize endAt ps I k = y at *
      clear hp hx hin
      go_wp2_with (first
        | (go_at_call 96; refine Calls.mono HC.out ?_; rintro e w2 ⟨rfl, hb2⟩; have HO2 : Hid (Or w w1 w2 (some ⟨bp, fp, none⟩) cap ps u4 ys) := HO.out.up hb2; have hsz : Hid (w1.heap.size ≤ w2.heap.size) := HO2.out.b.size; clear hb2 HC p0 p1 p2 p3 p4 p5 cb HO)
        | (at_builtin; refine wpList_append_lies _ rfl _ _ 97 rfl w1.heap.size 99 i1 (.int .u32 0) 1 4 Tryz.underlying97 HJ.out.1 HJ.out.2.1 HJ.out.2.2.1 HJ.out.2.2.2 rfl (by decide) _ _ _ rfl (HO2.out.row.alloc _) ⟨w2.heap.size, 0, none⟩ 1 1 [.int .u32 (y : Int)] rfl rfl (World.news_of_block (heap_alloc_new w2 _)) (by simp [Value.oneCell']) (by decide) (by unfold maxLen; omega) (by omega) (by have := hsz.out; simp; omega) (w2.heap.size + 1) (by simp) ?_; intro g cap' w4 hown1 hgrow hat hlt3))
      go_roundw
      case rel => exact ⟨k + 1, by omega, by go_num, by rw [hA.out]; exact Or.put HA1.out HO2.out (by have h9 := hown1; rw [hln] at h9 ⊢; exact h9) hgrow⟩
      case measure => simp [intOf]; omega
    · obtain rfl : k = ps.length := by omega
      have HR : Hid (Or w w1 wr ao cap ps u4 (ps.map fun x => endN (bOf x) I) ∧ IsIn ps I) := ⟨by rw [← out_map]; exact HO.out, HI1.out.2⟩
      clear HO HI1
      go_wp2
      go_ret
      obtain ⟨a', c', e⟩ := row_slice HR.out.1.row
      subst e
      exact ⟨a', c', by rw [List.length_map]; rfl, ul_row HR.out.1.row, HR.out.2, HR.out.1.q.b⟩
end Go.Proofs.YtddcndlogoajkaaGreatDoor.L8.Li
namespace Go.Proofs.YtddcndlogoajkaaGreatDoor.L8.Li
open Go.ChangeShapes Go.WideShapes Go.ChangeAt Go.RowKit
open _root_.Go.Proofs.YtddcndlogoajkaaGreatDoor.L8.So _root_.Go.Proofs.YtddcndlogoajkaaGreatDoor.L8.Op _root_.Go.Proofs.YtddcndlogoajkaaGreatDoor.L8.Fl _root_.Go.Proofs.YtddcndlogoajkaaGreatDoor.L8.Lv
set_option maxRecDepth 20000

theorem refAt_yes (I : List Nat) (ao : Option Addr) (cap : Nat) (ps : List Bk) (g op : Nat) (w : World) (hI0 : InIs ps I) (h : PAt w ao ps) (hc : ckP ps = 0) (hg : g < ps.length) (ho : op ≤ ps[g].ops.length) :
    Calls Tryz.prog 45 #[.agg #[.slice ao ps.length cap], .int .i64 g, .int .i64 op] w fun e w' => e = .returned (.int .u32 ((aheadNL ((ps[g].ops.drop op).map wOf) (endN (bOf ps[g]) I) : Nat) : Int)) ∧ Below w.heap.size w w' ∧ IsIn ps I := by
  have hok := psOk_of h
  have HK : Hid (Calls Tryz.prog 75 #[.agg #[.slice ao ps.length cap]] (w.alloc (.cells #[.slice ao ps.length cap] 24)) fun e w' => ∃ a c, e = .returned (.slice (some ⟨a, 0, none⟩) ps.length c) ∧ (a < w'.heap.size ∧ w'.cell? ⟨a, g, none⟩ = some (.int .u32 ((endN (bOf ps[g]) I : Nat) : Int))) ∧ IsIn ps I ∧ Below (w.alloc (.cells #[.slice ao ps.length cap] 24)).heap.size (w.alloc (.cells #[.slice ao ps.length cap] 24)) w') :=
    (refOut_is I ao cap ps _ hI0 (h.below (below_al _)) hc).mono fun e w' ⟨a, c, h1, h2, h3, h4⟩ => by
      obtain ⟨b, rfl, hlt, hcl⟩ := h2.is (by rw [List.length_map]; omega)
      have hcl := hcl g (by rw [List.length_map]; exact hg)
      rw [List.getElem_map] at hcl
      exact ⟨b, c, h1, ⟨hlt, hcl⟩, h3, h4⟩
  obtain ⟨bp, fp, rfl, hblt, hx⟩ := h.is (by omega)
  obtain ⟨p, hp, hin⟩ := hx g hg
  have HP : Hid (BAt w bp (fp + g * 6) ps[g] p ∧ BIn w ps[g] p) := ⟨hp, hin⟩
  have hgz : (g : Int) < (ps.length : Int) := by omega
  have hgz' : ¬ (ps.length : Int) ≤ (g : Int) := by omega
  have hoz : ¬ (ps[g].ops.length : Int) < (op : Int) := by omega
  have HLi : Hid (IsIn ps I → ∀ W, BIn W ps[g] p → Calls Tryz.prog 76 #[.slice p.oa ps[g].ops.length p.oc, .int .i64 op, .int .u32 ((endN (bOf ps[g]) I : Nat) : Int)] W fun e w' => e = .returned (.int .u32 ((aheadNL ((ps[g].ops.drop op).map wOf) (endN (bOf ps[g]) I) : Nat) : Int)) ∧ Below W.heap.size W w') := fun hI W hB =>
    refList_any p.oa p.oc ps[g].ops op _ W hB.o (endN_lt (pb_small hc hok g _ (pb_at hg)) hI.fit) ho
  generalize hIs : IsIn ps I = IS at *
  generalize aheadNL ((ps[g].ops.drop op).map wOf) (endN (bOf ps[g]) I) = y2 at *
  generalize endN (bOf ps[g]) I = y1 at *
  generalize ps[g] = x at *
  clear h hx hp hin hok hc hIs hI0
  obtain ⟨xo, xf, xa, xb, xt, xe⟩ := x
  go_enter Tryz.func45, Tryz.ntmps45
  go_wp2_with (first
    | (go_at_call 75; refine Calls.mono HK.out ?_; rintro e w1 ⟨a, c, rfl, ⟨ia, ca⟩, hI, hb⟩; obtain ⟨a1, hb0, hz⟩ := one_new w _ _ hb; have H1 : Hid (Bw w w1 (some ⟨bp, fp, none⟩) cap ps ∧ IS) := ⟨⟨a1, hb0⟩, hI⟩; have cb := H1.out.1.cell; obtain ⟨c0, c1, c2, c3, c4, c5⟩ := HP.out.1.below hb0 hblt; have HA : Hid (a < w1.heap.size ∧ w1.cell? ⟨a, g, none⟩ = some (.int .u32 (y1 : Int))) := ⟨ia, ca⟩; clear hb hb0 a1 HK hI ia ca))
  have hub : ∀ z : Wd (Below w1.heap.size w1), Bw w z.w (some ⟨bp, fp, none⟩) cap ps := fun z => H1.out.1.up z.ok
  have HUb : Hid _ := hub
  have e0 : ∀ z : Wd (Below w1.heap.size w1), z.w.cell? ⟨w.heap.size, 0, none⟩ = some (.slice (some ⟨bp, fp, none⟩) ps.length cap) := fun z => (hub z).cell
  have e1 : ∀ z : Wd (Below w1.heap.size w1), z.w.cell? ⟨bp, fp + g * 6, none⟩ = some (.slice p.oa xo.length p.oc) := fun z => (HP.out.1.below (hub z).b hblt).c0
  have e2 : ∀ z : Wd (Below w1.heap.size w1), z.w.cell? ⟨a, g, none⟩ = some (.int .u32 (y1 : Int)) := fun z => by rw [(bcell z.ok).1 _ _ HA.out.1]; exact HA.out.2
  haveI inst : Nonempty (Wd (Below w1.heap.size w1)) := ⟨⟨w1, Below.refl _ _⟩⟩
  have i1 : (0 : Int) ≤ (g : Int) := by omega
  clear hub c0 c1 c2 c3 c4 c5 cb HA
  refine wp_region_in (Below w1.heap.size w1) (by kernel_rfl) (by kernel_rfl) ((Below.refl _ _).drew) ?_
  repeat (first | go_big_quiet_step ((first
    | (go_at_call 76; exact calls_in (Nat.le_refl _) _ (HLi.out H1.out.2 _ (HP.out.2.below (HUb.out _).b))))))
  refine wpQuiet_nil ?_
  rintro _ ⟨x, rfl⟩
  have hx := HUb.out x
  go_wp2_with fail
  go_ret
  exact ⟨rfl, hx.b, H1.out.2⟩
end Go.Proofs.YtddcndlogoajkaaGreatDoor.L8.Li
