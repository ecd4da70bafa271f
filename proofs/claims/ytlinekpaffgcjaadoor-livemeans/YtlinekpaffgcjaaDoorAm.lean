/- Places behind one, of a loop's body: read off the program by the walk. Conditions: the program lies in memory. -/
import Derived.Test.YtlinekpaffgcjaaDoorAl
namespace Go.Proofs.YtlinekpaffgcjaaDoor.Li
open Go.ChangeShapes Go.WideShapes Go.ChangeAt Go.RowKit Go.Maps
open _root_.Go.Proofs.YtlinekpaffgcjaaDoor.So _root_.Go.Proofs.YtlinekpaffgcjaaDoor.Op _root_.Go.Proofs.YtlinekpaffgcjaaDoor.Fl _root_.Go.Proofs.YtlinekpaffgcjaaDoor.Lv
set_option maxRecDepth 20000

set_option maxHeartbeats 8000000 in
theorem along_body (ao : Option Addr) (cap : Nat) (ps : List Bk) (g op : Nat) (r : Nat) (w : World) (h : PAt w ao ps) (hg : g < ps.length) (hop : op < ps[g].body.length) :
    Calls Tryd.prog 19 #[.agg #[.slice ao ps.length cap], .agg #[.int .i64 (g : Int), .int .i64 2, .int .i64 (op : Int)], .int .u8 (r : Int)] w fun e w' => Alg w w' e [⟨g, 2, op + 1⟩] ((rdL ps[g].body[op]).contains r) (wrB ps[g].body[op] && wrD ps[g].body[op] == r) := by
  obtain ⟨bp, fp, rfl, hblt, hx⟩ := h.is (by omega)
  obtain ⟨p, hp, hin⟩ := hx g hg
  have hgz : (g : Int) < (ps.length : Int) := by omega
  have hlen := hin.b.len
  have hoko := hin.b.ok _ (List.getElem_mem hop)
  have HW0 := fun W => writes_any ps[g].body[op] W hoko
  have HR : Hid _ := fun W => reads_sl ps[g].body[op] W hoko
  have HC : Hid (∀ a c W, Rl W a (rdL ps[g].body[op]) → Calls Tryd.prog 34 #[.slice a (rdL ps[g].body[op]).length c, .int .u8 (r : Int)] W fun e w' => e = .returned (.bool ((rdL ps[g].body[op]).contains r)) ∧ w' = W) := fun a c W hR => hasReg_any a c _ r W hR (by unfold rdL; split <;> (try split) <;> (try split) <;> simp)
  obtain ⟨b1, f1, e1, hz1, hoc⟩ := hin.b.is (by omega)
  have HOc : Hid (OAt w b1 (f1 + op * 5) ps[g].body[op]) := hoc op hop
  obtain ⟨c0, c1, c2, c3, c4, c5⟩ := hp
  have hopz : (op : Int) < (ps[g].body.length : Int) := by omega
  rw [e1] at c3
  generalize hoo : ps[g].body[op] = o at *
  generalize hrc : (rdL o).contains r = cr at *
  generalize rdL o = rs at *
  generalize ps[g] = x at *
  clear h hx hin hoc hoko hoo hrc
  obtain ⟨oa, oc, ba, bc⟩ := p
  obtain ⟨xo, xf, xa, xb, xt, xe⟩ := x
  simp only at c0 c1 c2 c3 c4 c5 e1 hop hopz hlen
  generalize hwb : wrB o = wb at *
  generalize hwd : wrD o = wd at *
  have HW : Hid (∀ W, Calls Tryd.prog 20 #[o.val] W fun e w' => e = .returned (.tuple #[.int .u8 wd, .bool wb]) ∧ Below W.heap.size W w') := HW0
  clear HW0 hwb hwd
  have hwrap : IntKind.i64.wrap ((op : Int) + 1) = (op : Int) + 1 := by simp [IntKind.wrap, IntKind.bits, IntKind.signed]; omega
  go_enter Tryd.func19, Tryd.ntmps19
  go_upto_region 2 with fail
  have HV : Hid (Ab w (((w.alloc (.cells #[.slice (some ⟨bp, fp, none⟩) ps.length cap] 24)).alloc (.cells #[.int .i64 (g : Int), .int .i64 2, .int .i64 (op : Int)] 39)).alloc (.cells #[.slice oa xo.length oc, .int .i8 xf, .int .u8 xa, .slice (some ⟨b1, f1, none⟩) xb.length bc, .int .i64 xt, .int .i64 xe] 47)) (some ⟨bp, fp, none⟩) cap ps g 2 op ⟨xo, xf, xa, xb, xt, xe⟩ ⟨oa, oc, some ⟨b1, f1, none⟩, bc⟩) := Ab.mk' w (some ⟨bp, fp, none⟩) cap ps g 2 op ⟨xo, xf, xa, xb, xt, xe⟩ ⟨oa, oc, some ⟨b1, f1, none⟩, bc⟩
  generalize hV : ((w.alloc (.cells #[.slice (some ⟨bp, fp, none⟩) ps.length cap] 24)).alloc (.cells #[.int .i64 (g : Int), .int .i64 2, .int .i64 (op : Int)] 39)).alloc (.cells #[.slice oa xo.length oc, .int .i8 xf, .int .u8 xa, .slice (some ⟨b1, f1, none⟩) xb.length bc, .int .i64 xt, .int .i64 xe] 47) = V at *
  have k0 := HV.out.a1.c 0 _ rfl
  have k1 := HV.out.a1.c 1 _ rfl
  have k2 := HV.out.a1.c 2 _ rfl
  have k3 := HV.out.a2.c 0 _ rfl
  have k4 := HV.out.a2.c 3 _ rfl
  clear hV c0 c1 c2 c3 c4 c5
  obtain ⟨o0, o1, o2, o3, o4⟩ := HOc.out.below HV.out.b hz1
  go_upto_region 8 with (first
    | (go_at_call 20; refine Calls.mono (HW.out _) ?_; rintro e w1 ⟨rfl, hb⟩; have H1 : Hid (Ab w w1 (some ⟨bp, fp, none⟩) cap ps g 2 op ⟨xo, xf, xa, xb, xt, xe⟩ ⟨oa, oc, some ⟨b1, f1, none⟩, bc⟩) := HV.out.up hb; clear hb HW))
  clear k0 k1 k2 k3 k4 o0 o1 o2 o3 o4 HV
  have HS : Hid (∀ W, Below w1.heap.size w1 W → W.cell? ⟨w.heap.size + 1, 0, none⟩ = some (.int .i64 (g : Int)) ∧ W.cell? ⟨w.heap.size + 1, 1, none⟩ = some (.int .i64 2) ∧ W.cell? ⟨w.heap.size + 1, 2, none⟩ = some (.int .i64 (op : Int)) ∧ W.cell? ⟨b1, f1 + op * 5, none⟩ = some (.int .i8 o.op) ∧ W.cell? ⟨b1, f1 + op * 5 + 1, none⟩ = some (.int .u8 o.d) ∧ W.cell? ⟨b1, f1 + op * 5 + 2, none⟩ = some (.int .u8 o.a) ∧ W.cell? ⟨b1, f1 + op * 5 + 3, none⟩ = some (.int .u8 o.b) ∧ W.cell? ⟨b1, f1 + op * 5 + 4, none⟩ = some (.int .i64 o.im)) := fun W hW => by
    have hA := (H1.out.up hW)
    obtain ⟨o0, o1, o2, o3, o4⟩ := HOc.out.below hA.b hz1
    exact ⟨hA.a1.c 0 _ rfl, hA.a1.c 1 _ rfl, hA.a1.c 2 _ rfl, o0, o1, o2, o3, o4⟩
  have HB : Hid (Below w.heap.size w w1) := H1.out.b
  clear H1 HOc
  go_wp2_with fail
  have hd0 : Below w1.heap.size w1 w1.drew := ⟨rfl, rfl, rfl, Nat.le_refl _, fun _ _ => rfl⟩
  refine wp_region_held_drew (S := fun w' => w'.cell? ⟨w.heap.size + 1, 0, none⟩ = some (.int .i64 (g : Int)) ∧ w'.cell? ⟨w.heap.size + 1, 1, none⟩ = some (.int .i64 2) ∧ w'.cell? ⟨w.heap.size + 1, 2, none⟩ = some (.int .i64 (op : Int)) ∧ w'.cell? ⟨b1, f1 + op * 5, none⟩ = some (.int .i8 o.op) ∧ w'.cell? ⟨b1, f1 + op * 5 + 1, none⟩ = some (.int .u8 o.d) ∧ w'.cell? ⟨b1, f1 + op * 5 + 2, none⟩ = some (.int .u8 o.a) ∧ w'.cell? ⟨b1, f1 + op * 5 + 3, none⟩ = some (.int .u8 o.b) ∧ w'.cell? ⟨b1, f1 + op * 5 + 4, none⟩ = some (.int .i64 o.im)) (by kernel_rfl) (HS.out _ hd0) (fun hHeld => ?_)
  refine wpAnyH_take (i := 0) (v := .pointer (some ⟨w.heap.size + 1, 0, none⟩)) rfl (by kernel_rfl) (by kernel_rfl) (by kernel_rfl) (fun _ _ _ h => h) (Or.inl ⟨by rfl, fun w' hSw => by (dsimp only at hSw; obtain ⟨s0, s1, s2, s3, s4, s5, s6, s7⟩ := hSw; go_simp)⟩) hHeld ?_
  simp only [Act.put, List.setIfInBounds_toArray, List.set_cons_zero, List.set_cons_succ, List.getElem_cons_zero, List.getElem_toArray]
  refine wpAnyH_take (i := 1) (v := .int .i64 (g : Int)) rfl (by kernel_rfl) (by kernel_rfl) (by kernel_rfl) (fun _ _ _ h => h) (Or.inl ⟨by rfl, fun w' hSw => by (dsimp only at hSw; obtain ⟨s0, s1, s2, s3, s4, s5, s6, s7⟩ := hSw; go_simp)⟩) hHeld ?_
  simp only [Act.put, List.setIfInBounds_toArray, List.set_cons_zero, List.set_cons_succ, List.getElem_cons_zero, List.getElem_cons_succ, List.getElem_toArray]
  refine wpAnyH_take (i := 2) (v := .pointer (some ⟨w.heap.size + 1, 1, none⟩)) rfl (by kernel_rfl) (by kernel_rfl) (by kernel_rfl) (fun _ _ _ h => h) (Or.inl ⟨by rfl, fun w' hSw => by (dsimp only at hSw; obtain ⟨s0, s1, s2, s3, s4, s5, s6, s7⟩ := hSw; go_simp)⟩) hHeld ?_
  simp only [Act.put, List.setIfInBounds_toArray, List.set_cons_zero, List.set_cons_succ, List.getElem_cons_zero, List.getElem_cons_succ, List.getElem_toArray]
  refine wpAnyH_take (i := 3) (v := .int .i64 2) rfl (by kernel_rfl) (by kernel_rfl) (by kernel_rfl) (fun _ _ _ h => h) (Or.inl ⟨by rfl, fun w' hSw => by (dsimp only at hSw; obtain ⟨s0, s1, s2, s3, s4, s5, s6, s7⟩ := hSw; go_simp)⟩) hHeld ?_
  simp only [Act.put, List.setIfInBounds_toArray, List.set_cons_zero, List.set_cons_succ, List.getElem_cons_zero, List.getElem_cons_succ, List.getElem_toArray]
  refine wpAnyH_take (i := 4) (v := .pointer (some ⟨w.heap.size + 1, 2, none⟩)) rfl (by kernel_rfl) (by kernel_rfl) (by kernel_rfl) (fun _ _ _ h => h) (Or.inl ⟨by rfl, fun w' hSw => by (dsimp only at hSw; obtain ⟨s0, s1, s2, s3, s4, s5, s6, s7⟩ := hSw; go_simp)⟩) hHeld ?_
  simp only [Act.put, List.setIfInBounds_toArray, List.set_cons_zero, List.set_cons_succ, List.getElem_cons_zero, List.getElem_cons_succ, List.getElem_toArray]
  refine wpAnyH_take (i := 5) (v := .int .i64 (op : Int)) rfl (by kernel_rfl) (by kernel_rfl) (by kernel_rfl) (fun _ _ _ h => h) (Or.inl ⟨by rfl, fun w' hSw => by (dsimp only at hSw; obtain ⟨s0, s1, s2, s3, s4, s5, s6, s7⟩ := hSw; go_simp)⟩) hHeld ?_
  simp only [Act.put, List.setIfInBounds_toArray, List.set_cons_zero, List.set_cons_succ, List.getElem_cons_zero, List.getElem_cons_succ, List.getElem_toArray]
  refine wpAnyH_take (i := 6) (v := .int .i64 ((op : Int) + 1)) rfl (by kernel_rfl) (by kernel_rfl) (by kernel_rfl) (fun _ _ _ h => h) (Or.inl ⟨by rfl, fun w' hSw => by (dsimp only at hSw; obtain ⟨s0, s1, s2, s3, s4, s5, s6, s7⟩ := hSw; go_simp)⟩) hHeld ?_
  simp only [Act.put, List.setIfInBounds_toArray, List.set_cons_zero, List.set_cons_succ, List.getElem_cons_zero, List.getElem_cons_succ, List.getElem_toArray]
  refine wpAnyH_take (i := 7) (v := .agg #[.int .i64 (g : Int), .int .i64 2, .int .i64 ((op : Int) + 1)]) rfl (by kernel_rfl) (by kernel_rfl) (by kernel_rfl) (fun _ _ _ h => h) (Or.inl ⟨by rfl, fun w' hSw => by (dsimp only at hSw; obtain ⟨s0, s1, s2, s3, s4, s5, s6, s7⟩ := hSw; go_simp)⟩) hHeld ?_
  simp only [Act.put, List.setIfInBounds_toArray, List.set_cons_zero, List.set_cons_succ, List.getElem_cons_zero, List.getElem_cons_succ, List.getElem_toArray]
  refine wpAnyH_take (i := 9) (v := .slice (some ⟨b1, f1, none⟩) xb.length bc) rfl (by kernel_rfl) (by kernel_rfl) (by kernel_rfl) (fun _ _ _ h => h) (Or.inl ⟨by rfl, fun w' hSw => by (dsimp only at hSw; obtain ⟨s0, s1, s2, s3, s4, s5, s6, s7⟩ := hSw; go_simp)⟩) hHeld ?_
  simp only [Act.put, List.setIfInBounds_toArray, List.set_cons_zero, List.set_cons_succ, List.getElem_cons_zero, List.getElem_cons_succ, List.getElem_toArray]
  refine wpAnyH_take (i := 10) (v := .pointer (some ⟨w.heap.size + 1, 2, none⟩)) rfl (by kernel_rfl) (by kernel_rfl) (by kernel_rfl) (fun _ _ _ h => h) (Or.inl ⟨by rfl, fun w' hSw => by (dsimp only at hSw; obtain ⟨s0, s1, s2, s3, s4, s5, s6, s7⟩ := hSw; go_simp)⟩) hHeld ?_
  simp only [Act.put, List.setIfInBounds_toArray, List.set_cons_zero, List.set_cons_succ, List.getElem_cons_zero, List.getElem_cons_succ, List.getElem_toArray]
  refine wpAnyH_take (i := 11) (v := .int .i64 (op : Int)) rfl (by kernel_rfl) (by kernel_rfl) (by kernel_rfl) (fun _ _ _ h => h) (Or.inl ⟨by rfl, fun w' hSw => by (dsimp only at hSw; obtain ⟨s0, s1, s2, s3, s4, s5, s6, s7⟩ := hSw; go_simp)⟩) hHeld ?_
  simp only [Act.put, List.setIfInBounds_toArray, List.set_cons_zero, List.set_cons_succ, List.getElem_cons_zero, List.getElem_cons_succ, List.getElem_toArray]
  refine wpAnyH_take (i := 12) (v := .pointer (some ⟨b1, f1 + op * 5, none⟩)) rfl (by kernel_rfl) (by kernel_rfl) (by kernel_rfl) (fun _ _ _ h => h) (Or.inl ⟨by rfl, fun w' hSw => by (dsimp only at hSw; obtain ⟨s0, s1, s2, s3, s4, s5, s6, s7⟩ := hSw; go_simp)⟩) hHeld ?_
  simp only [Act.put, List.setIfInBounds_toArray, List.set_cons_zero, List.set_cons_succ, List.getElem_cons_zero, List.getElem_cons_succ, List.getElem_toArray]
  refine wpAnyH_take (i := 13) (v := o.val) rfl (by kernel_rfl) (by kernel_rfl) (by kernel_rfl) (fun _ _ _ h => h) (Or.inl ⟨by rfl, fun w' hSw => by (dsimp only at hSw; obtain ⟨s0, s1, s2, s3, s4, s5, s6, s7⟩ := hSw; go_simp)⟩) hHeld ?_
  simp only [Act.put, List.setIfInBounds_toArray, List.set_cons_zero, List.set_cons_succ, List.getElem_cons_zero, List.getElem_cons_succ, List.getElem_toArray]
  refine wpAnyH_take (i := 15) (v := .int .u8 (r : Int)) rfl (by kernel_rfl) (by kernel_rfl) (by kernel_rfl) (fun _ _ _ h => h) (Or.inl ⟨by rfl, fun w' hSw => by (dsimp only at hSw; obtain ⟨s0, s1, s2, s3, s4, s5, s6, s7⟩ := hSw; go_simp)⟩) hHeld ?_
  simp only [Act.put, List.setIfInBounds_toArray, List.set_cons_zero, List.set_cons_succ, List.getElem_cons_zero, List.getElem_cons_succ, List.getElem_toArray]
  cases wb with
  | false =>
    refine wpAnyH_take (i := 17) (v := .bool false) rfl (by kernel_rfl) (by kernel_rfl) (by kernel_rfl) (fun _ _ _ h => h) (Or.inl ⟨by rfl, fun w' hSw => by (dsimp only at hSw; obtain ⟨s0, s1, s2, s3, s4, s5, s6, s7⟩ := hSw; go_simp)⟩) hHeld ?_
    simp only [Act.put, List.setIfInBounds_toArray, List.set_cons_zero, List.set_cons_succ, List.getElem_cons_zero, List.getElem_cons_succ, List.getElem_toArray]
    refine wpAnyH_ready (rs := [8, 14]) (by kernel_rfl) (by simp) ?_
    refine AllReadyH.cons rfl (fun K hK => ?_) (AllReadyH.cons rfl (fun K hK => ?_) AllReadyH.nil)
    · go_simp
      have hb1 : Below w1.heap.size w1 (w1.drew.alloc (.cells #[.int .i64 (g : Int), .int .i64 2, .int .i64 ((op : Int) + 1)] 39)) := hd0.alloc (Nat.le_refl _) _
      have HA1 : Hid (Op.At (w1.drew.alloc (.cells #[.int .i64 (g : Int), .int .i64 2, .int .i64 ((op : Int) + 1)] 39)) w1.heap.size #[.int .i64 (g : Int), .int .i64 2, .int .i64 ((op : Int) + 1)]) := Op.At.new w1.drew _ _
      refine hK.out _ _ (HS.out _ hb1) (fun hHeld => ?_)
      clear hK K
      refine wpAnyH_ready (rs := [14]) (by kernel_rfl) (by simp) ?_
      refine AllReadyH.cons rfl (fun K hK => ?_) AllReadyH.nil
      go_simp
      refine Calls.mono (HR.out _) ?_
      rintro e w2 ⟨ra, rc, rfl, hl, hb⟩
      have HB2 : Hid (Below w1.heap.size w1 w2) := (hb1).trans (hb.mono (hb1).size)
      have HR2 : Hid (Rl w2 ra rs) := hl
      have HA2 : Hid (Op.At w2 w1.heap.size #[.int .i64 (g : Int), .int .i64 2, .int .i64 ((op : Int) + 1)]) := HA1.out.below hb HA1.out.lt
      clear hb hl
      refine hK.out _ _ (HS.out _ HB2.out) (fun hHeld => ?_)
      clear hK K
      refine wpAnyH_ready (rs := [16]) (by kernel_rfl) (by simp) ?_
      refine AllReadyH.cons rfl (fun K hK => ?_) AllReadyH.nil
      go_simp
      refine Calls.mono (HC.out _ _ _ (HR2.out)) ?_
      rintro e w3 ⟨rfl, hw3⟩
      subst w3
      refine hK.out _ _ (HS.out _ (HB2.out)) (fun hHeld => ?_)
      clear hK K
      refine wpAnyH_take (i := 18) (v := .bool false) rfl (by kernel_rfl) (by kernel_rfl) (by kernel_rfl) (fun _ _ _ h => h) (Or.inl ⟨by rfl, fun w' hSw => by (dsimp only at hSw; obtain ⟨s0, s1, s2, s3, s4, s5, s6, s7⟩ := hSw; go_simp)⟩) hHeld ?_
      simp only [Act.put, List.setIfInBounds_toArray, List.set_cons_zero, List.set_cons_succ, List.getElem_cons_zero, List.getElem_cons_succ, List.getElem_toArray]
      refine wpAnyH_take (i := 19) (v := undef) rfl (by kernel_rfl) (by kernel_rfl) (by kernel_rfl) (fun _ _ _ h => h) (Or.inr ⟨by rfl, rfl⟩) hHeld ?_
      simp only [Act.put, List.setIfInBounds_toArray, List.set_cons_zero, List.set_cons_succ, List.getElem_cons_zero, List.getElem_cons_succ, List.getElem_toArray]
      refine wpAnyH_take (i := 20) (v := undef) rfl (by kernel_rfl) (by kernel_rfl) (by kernel_rfl) (fun _ _ _ h => h) (Or.inr ⟨by rfl, rfl⟩) hHeld ?_
      simp only [Act.put, List.setIfInBounds_toArray, List.set_cons_zero, List.set_cons_succ, List.getElem_cons_zero, List.getElem_cons_succ, List.getElem_toArray]
      refine wpAnyH_take (i := 21) (v := undef) rfl (by kernel_rfl) (by kernel_rfl) (by kernel_rfl) (fun _ _ _ h => h) (Or.inr ⟨by rfl, rfl⟩) hHeld ?_
      simp only [Act.put, List.setIfInBounds_toArray, List.set_cons_zero, List.set_cons_succ, List.getElem_cons_zero, List.getElem_cons_succ, List.getElem_toArray]
      refine wpAnyH_take (i := 22) (v := .bool false) rfl (by kernel_rfl) (by kernel_rfl) (by kernel_rfl) (fun _ _ _ h => h) (Or.inl ⟨by rfl, fun w' hSw => by (dsimp only at hSw; obtain ⟨s0, s1, s2, s3, s4, s5, s6, s7⟩ := hSw; go_simp)⟩) hHeld ?_
      simp only [Act.put, List.setIfInBounds_toArray, List.set_cons_zero, List.set_cons_succ, List.getElem_cons_zero, List.getElem_cons_succ, List.getElem_toArray]
      refine wpAnyH_take (i := 23) (v := .slice (some ⟨w1.heap.size, 0, none⟩) 1 1) rfl (by kernel_rfl) (by kernel_rfl) (by kernel_rfl) (fun _ _ _ h => h) (Or.inl ⟨by rfl, fun w' hSw => by (dsimp only at hSw; obtain ⟨s0, s1, s2, s3, s4, s5, s6, s7⟩ := hSw; go_simp)⟩) hHeld ?_
      simp only [Act.put, List.setIfInBounds_toArray, List.set_cons_zero, List.set_cons_succ, List.getElem_cons_zero, List.getElem_cons_succ, List.getElem_toArray]
      refine wpAnyH_take (i := 24) (v := .bool cr) rfl (by kernel_rfl) (by kernel_rfl) (by kernel_rfl) (fun _ _ _ h => h) (Or.inl ⟨by rfl, fun w' hSw => by (dsimp only at hSw; obtain ⟨s0, s1, s2, s3, s4, s5, s6, s7⟩ := hSw; go_simp)⟩) hHeld ?_
      simp only [Act.put, List.setIfInBounds_toArray, List.set_cons_zero, List.set_cons_succ, List.getElem_cons_zero, List.getElem_cons_succ, List.getElem_toArray]
      refine wpAnyH_take (i := 25) (v := .bool false) rfl (by kernel_rfl) (by kernel_rfl) (by kernel_rfl) (fun _ _ _ h => h) (Or.inl ⟨by rfl, fun w' hSw => by (dsimp only at hSw; obtain ⟨s0, s1, s2, s3, s4, s5, s6, s7⟩ := hSw; go_simp)⟩) hHeld ?_
      simp only [Act.put, List.setIfInBounds_toArray, List.set_cons_zero, List.set_cons_succ, List.getElem_cons_zero, List.getElem_cons_succ, List.getElem_toArray]
      refine wpAnyH_done (by kernel_rfl) ?_ _
      go_wp2_with fail
      refine bodyPost_ret (v := .tuple #[.slice (some ⟨w1.heap.size, 0, none⟩) 1 1, .bool cr, .bool false]) (by simp [results, Tryd.results19, go_sem]) rfl ?_
      exact ⟨some ⟨w1.heap.size, 0, none⟩, 1, by (first | rfl | simp [hwq]), pls_one (HA2.out) (by have := HB.out.size; have := HB2.out.size; omega), HB.out.trans ((HB2.out).mono HB.out.size)⟩
    · go_simp
      refine Calls.mono (HR.out _) ?_
      rintro e w2 ⟨ra, rc, rfl, hl, hb⟩
      have HB2 : Hid (Below w1.heap.size w1 w2) := (hd0).trans (hb.mono (hd0).size)
      have HR2 : Hid (Rl w2 ra rs) := hl
      clear hb hl
      refine hK.out _ _ (HS.out _ HB2.out) (fun hHeld => ?_)
      clear hK K
      refine wpAnyH_ready (rs := [8, 16]) (by kernel_rfl) (by simp) ?_
      refine AllReadyH.cons rfl (fun K hK => ?_) (AllReadyH.cons rfl (fun K hK => ?_) AllReadyH.nil)
      · go_simp
        have hb1 : Below w1.heap.size w1 (w2.alloc (.cells #[.int .i64 (g : Int), .int .i64 2, .int .i64 ((op : Int) + 1)] 39)) := HB2.out.alloc HB2.out.size _
        have HA1 : Hid (Op.At (w2.alloc (.cells #[.int .i64 (g : Int), .int .i64 2, .int .i64 ((op : Int) + 1)] 39)) w2.heap.size #[.int .i64 (g : Int), .int .i64 2, .int .i64 ((op : Int) + 1)]) := Op.At.new w2 _ _
        refine hK.out _ _ (HS.out _ hb1) (fun hHeld => ?_)
        clear hK K
        refine wpAnyH_ready (rs := [16]) (by kernel_rfl) (by simp) ?_
        refine AllReadyH.cons rfl (fun K hK => ?_) AllReadyH.nil
        go_simp
        refine Calls.mono (HC.out _ _ _ (HR2.out.below (below_al _))) ?_
        rintro e w3 ⟨rfl, hw3⟩
        subst w3
        refine hK.out _ _ (HS.out _ (hb1)) (fun hHeld => ?_)
        clear hK K
        refine wpAnyH_take (i := 18) (v := .bool false) rfl (by kernel_rfl) (by kernel_rfl) (by kernel_rfl) (fun _ _ _ h => h) (Or.inl ⟨by rfl, fun w' hSw => by (dsimp only at hSw; obtain ⟨s0, s1, s2, s3, s4, s5, s6, s7⟩ := hSw; go_simp)⟩) hHeld ?_
        simp only [Act.put, List.setIfInBounds_toArray, List.set_cons_zero, List.set_cons_succ, List.getElem_cons_zero, List.getElem_cons_succ, List.getElem_toArray]
        refine wpAnyH_take (i := 19) (v := undef) rfl (by kernel_rfl) (by kernel_rfl) (by kernel_rfl) (fun _ _ _ h => h) (Or.inr ⟨by rfl, rfl⟩) hHeld ?_
        simp only [Act.put, List.setIfInBounds_toArray, List.set_cons_zero, List.set_cons_succ, List.getElem_cons_zero, List.getElem_cons_succ, List.getElem_toArray]
        refine wpAnyH_take (i := 20) (v := undef) rfl (by kernel_rfl) (by kernel_rfl) (by kernel_rfl) (fun _ _ _ h => h) (Or.inr ⟨by rfl, rfl⟩) hHeld ?_
        simp only [Act.put, List.setIfInBounds_toArray, List.set_cons_zero, List.set_cons_succ, List.getElem_cons_zero, List.getElem_cons_succ, List.getElem_toArray]
        refine wpAnyH_take (i := 21) (v := undef) rfl (by kernel_rfl) (by kernel_rfl) (by kernel_rfl) (fun _ _ _ h => h) (Or.inr ⟨by rfl, rfl⟩) hHeld ?_
        simp only [Act.put, List.setIfInBounds_toArray, List.set_cons_zero, List.set_cons_succ, List.getElem_cons_zero, List.getElem_cons_succ, List.getElem_toArray]
        refine wpAnyH_take (i := 22) (v := .bool false) rfl (by kernel_rfl) (by kernel_rfl) (by kernel_rfl) (fun _ _ _ h => h) (Or.inl ⟨by rfl, fun w' hSw => by (dsimp only at hSw; obtain ⟨s0, s1, s2, s3, s4, s5, s6, s7⟩ := hSw; go_simp)⟩) hHeld ?_
        simp only [Act.put, List.setIfInBounds_toArray, List.set_cons_zero, List.set_cons_succ, List.getElem_cons_zero, List.getElem_cons_succ, List.getElem_toArray]
        refine wpAnyH_take (i := 23) (v := .slice (some ⟨w2.heap.size, 0, none⟩) 1 1) rfl (by kernel_rfl) (by kernel_rfl) (by kernel_rfl) (fun _ _ _ h => h) (Or.inl ⟨by rfl, fun w' hSw => by (dsimp only at hSw; obtain ⟨s0, s1, s2, s3, s4, s5, s6, s7⟩ := hSw; go_simp)⟩) hHeld ?_
        simp only [Act.put, List.setIfInBounds_toArray, List.set_cons_zero, List.set_cons_succ, List.getElem_cons_zero, List.getElem_cons_succ, List.getElem_toArray]
        refine wpAnyH_take (i := 24) (v := .bool cr) rfl (by kernel_rfl) (by kernel_rfl) (by kernel_rfl) (fun _ _ _ h => h) (Or.inl ⟨by rfl, fun w' hSw => by (dsimp only at hSw; obtain ⟨s0, s1, s2, s3, s4, s5, s6, s7⟩ := hSw; go_simp)⟩) hHeld ?_
        simp only [Act.put, List.setIfInBounds_toArray, List.set_cons_zero, List.set_cons_succ, List.getElem_cons_zero, List.getElem_cons_succ, List.getElem_toArray]
        refine wpAnyH_take (i := 25) (v := .bool false) rfl (by kernel_rfl) (by kernel_rfl) (by kernel_rfl) (fun _ _ _ h => h) (Or.inl ⟨by rfl, fun w' hSw => by (dsimp only at hSw; obtain ⟨s0, s1, s2, s3, s4, s5, s6, s7⟩ := hSw; go_simp)⟩) hHeld ?_
        simp only [Act.put, List.setIfInBounds_toArray, List.set_cons_zero, List.set_cons_succ, List.getElem_cons_zero, List.getElem_cons_succ, List.getElem_toArray]
        refine wpAnyH_done (by kernel_rfl) ?_ _
        go_wp2_with fail
        refine bodyPost_ret (v := .tuple #[.slice (some ⟨w2.heap.size, 0, none⟩) 1 1, .bool cr, .bool false]) (by simp [results, Tryd.results19, go_sem]) rfl ?_
        exact ⟨some ⟨w2.heap.size, 0, none⟩, 1, by (first | rfl | simp [hwq]), pls_one (HA1.out) (by have := HB.out.size; have := HB2.out.size; omega), HB.out.trans ((hb1).mono HB.out.size)⟩
      · go_simp
        refine Calls.mono (HC.out _ _ _ (HR2.out)) ?_
        rintro e w3 ⟨rfl, hw3⟩
        subst w3
        refine hK.out _ _ (HS.out _ (HB2.out)) (fun hHeld => ?_)
        clear hK K
        refine wpAnyH_take (i := 18) (v := .bool false) rfl (by kernel_rfl) (by kernel_rfl) (by kernel_rfl) (fun _ _ _ h => h) (Or.inl ⟨by rfl, fun w' hSw => by (dsimp only at hSw; obtain ⟨s0, s1, s2, s3, s4, s5, s6, s7⟩ := hSw; go_simp)⟩) hHeld ?_
        simp only [Act.put, List.setIfInBounds_toArray, List.set_cons_zero, List.set_cons_succ, List.getElem_cons_zero, List.getElem_cons_succ, List.getElem_toArray]
        refine wpAnyH_take (i := 19) (v := undef) rfl (by kernel_rfl) (by kernel_rfl) (by kernel_rfl) (fun _ _ _ h => h) (Or.inr ⟨by rfl, rfl⟩) hHeld ?_
        simp only [Act.put, List.setIfInBounds_toArray, List.set_cons_zero, List.set_cons_succ, List.getElem_cons_zero, List.getElem_cons_succ, List.getElem_toArray]
        refine wpAnyH_take (i := 20) (v := undef) rfl (by kernel_rfl) (by kernel_rfl) (by kernel_rfl) (fun _ _ _ h => h) (Or.inr ⟨by rfl, rfl⟩) hHeld ?_
        simp only [Act.put, List.setIfInBounds_toArray, List.set_cons_zero, List.set_cons_succ, List.getElem_cons_zero, List.getElem_cons_succ, List.getElem_toArray]
        refine wpAnyH_take (i := 21) (v := undef) rfl (by kernel_rfl) (by kernel_rfl) (by kernel_rfl) (fun _ _ _ h => h) (Or.inr ⟨by rfl, rfl⟩) hHeld ?_
        simp only [Act.put, List.setIfInBounds_toArray, List.set_cons_zero, List.set_cons_succ, List.getElem_cons_zero, List.getElem_cons_succ, List.getElem_toArray]
        refine wpAnyH_take (i := 22) (v := .bool false) rfl (by kernel_rfl) (by kernel_rfl) (by kernel_rfl) (fun _ _ _ h => h) (Or.inl ⟨by rfl, fun w' hSw => by (dsimp only at hSw; obtain ⟨s0, s1, s2, s3, s4, s5, s6, s7⟩ := hSw; go_simp)⟩) hHeld ?_
        simp only [Act.put, List.setIfInBounds_toArray, List.set_cons_zero, List.set_cons_succ, List.getElem_cons_zero, List.getElem_cons_succ, List.getElem_toArray]
        refine wpAnyH_ready (rs := [8]) (by kernel_rfl) (by simp) ?_
        refine AllReadyH.cons rfl (fun K hK => ?_) AllReadyH.nil
        go_simp
        have hb1 : Below w1.heap.size w1 (w2.alloc (.cells #[.int .i64 (g : Int), .int .i64 2, .int .i64 ((op : Int) + 1)] 39)) := HB2.out.alloc HB2.out.size _
        have HA1 : Hid (Op.At (w2.alloc (.cells #[.int .i64 (g : Int), .int .i64 2, .int .i64 ((op : Int) + 1)] 39)) w2.heap.size #[.int .i64 (g : Int), .int .i64 2, .int .i64 ((op : Int) + 1)]) := Op.At.new w2 _ _
        refine hK.out _ _ (HS.out _ hb1) (fun hHeld => ?_)
        clear hK K
        refine wpAnyH_take (i := 23) (v := .slice (some ⟨w2.heap.size, 0, none⟩) 1 1) rfl (by kernel_rfl) (by kernel_rfl) (by kernel_rfl) (fun _ _ _ h => h) (Or.inl ⟨by rfl, fun w' hSw => by (dsimp only at hSw; obtain ⟨s0, s1, s2, s3, s4, s5, s6, s7⟩ := hSw; go_simp)⟩) hHeld ?_
        simp only [Act.put, List.setIfInBounds_toArray, List.set_cons_zero, List.set_cons_succ, List.getElem_cons_zero, List.getElem_cons_succ, List.getElem_toArray]
        refine wpAnyH_take (i := 24) (v := .bool cr) rfl (by kernel_rfl) (by kernel_rfl) (by kernel_rfl) (fun _ _ _ h => h) (Or.inl ⟨by rfl, fun w' hSw => by (dsimp only at hSw; obtain ⟨s0, s1, s2, s3, s4, s5, s6, s7⟩ := hSw; go_simp)⟩) hHeld ?_
        simp only [Act.put, List.setIfInBounds_toArray, List.set_cons_zero, List.set_cons_succ, List.getElem_cons_zero, List.getElem_cons_succ, List.getElem_toArray]
        refine wpAnyH_take (i := 25) (v := .bool false) rfl (by kernel_rfl) (by kernel_rfl) (by kernel_rfl) (fun _ _ _ h => h) (Or.inl ⟨by rfl, fun w' hSw => by (dsimp only at hSw; obtain ⟨s0, s1, s2, s3, s4, s5, s6, s7⟩ := hSw; go_simp)⟩) hHeld ?_
        simp only [Act.put, List.setIfInBounds_toArray, List.set_cons_zero, List.set_cons_succ, List.getElem_cons_zero, List.getElem_cons_succ, List.getElem_toArray]
        refine wpAnyH_done (by kernel_rfl) ?_ _
        go_wp2_with fail
        refine bodyPost_ret (v := .tuple #[.slice (some ⟨w2.heap.size, 0, none⟩) 1 1, .bool cr, .bool false]) (by simp [results, Tryd.results19, go_sem]) rfl ?_
        exact ⟨some ⟨w2.heap.size, 0, none⟩, 1, by (first | rfl | simp [hwq]), pls_one (HA1.out) (by have := HB.out.size; have := HB2.out.size; omega), HB.out.trans ((hb1).mono HB.out.size)⟩
  | true =>
    by_cases hwr : wd = (r : Int)
    · have hwq : (wd == (r : Int)) = true := by simpa using hwr
      refine wpAnyH_take (i := 17) (v := .bool true) rfl (by kernel_rfl) (by kernel_rfl) (by kernel_rfl) (fun _ _ _ h => h) (Or.inl ⟨by rfl, fun w' hSw => by (dsimp only at hSw; obtain ⟨s0, s1, s2, s3, s4, s5, s6, s7⟩ := hSw; go_simp)⟩) hHeld ?_
      simp only [Act.put, List.setIfInBounds_toArray, List.set_cons_zero, List.set_cons_succ, List.getElem_cons_zero, List.getElem_cons_succ, List.getElem_toArray]
      refine wpAnyH_ready (rs := [8, 14]) (by kernel_rfl) (by simp) ?_
      refine AllReadyH.cons rfl (fun K hK => ?_) (AllReadyH.cons rfl (fun K hK => ?_) AllReadyH.nil)
      · go_simp
        have hb1 : Below w1.heap.size w1 (w1.drew.alloc (.cells #[.int .i64 (g : Int), .int .i64 2, .int .i64 ((op : Int) + 1)] 39)) := hd0.alloc (Nat.le_refl _) _
        have HA1 : Hid (Op.At (w1.drew.alloc (.cells #[.int .i64 (g : Int), .int .i64 2, .int .i64 ((op : Int) + 1)] 39)) w1.heap.size #[.int .i64 (g : Int), .int .i64 2, .int .i64 ((op : Int) + 1)]) := Op.At.new w1.drew _ _
        refine hK.out _ _ (HS.out _ hb1) (fun hHeld => ?_)
        clear hK K
        refine wpAnyH_ready (rs := [14]) (by kernel_rfl) (by simp) ?_
        refine AllReadyH.cons rfl (fun K hK => ?_) AllReadyH.nil
        go_simp
        refine Calls.mono (HR.out _) ?_
        rintro e w2 ⟨ra, rc, rfl, hl, hb⟩
        have HB2 : Hid (Below w1.heap.size w1 w2) := (hb1).trans (hb.mono (hb1).size)
        have HR2 : Hid (Rl w2 ra rs) := hl
        have HA2 : Hid (Op.At w2 w1.heap.size #[.int .i64 (g : Int), .int .i64 2, .int .i64 ((op : Int) + 1)]) := HA1.out.below hb HA1.out.lt
        clear hb hl
        refine hK.out _ _ (HS.out _ HB2.out) (fun hHeld => ?_)
        clear hK K
        refine wpAnyH_ready (rs := [16]) (by kernel_rfl) (by simp) ?_
        refine AllReadyH.cons rfl (fun K hK => ?_) AllReadyH.nil
        go_simp
        refine Calls.mono (HC.out _ _ _ (HR2.out)) ?_
        rintro e w3 ⟨rfl, hw3⟩
        subst w3
        refine hK.out _ _ (HS.out _ (HB2.out)) (fun hHeld => ?_)
        clear hK K
        refine wpAnyH_take (i := 18) (v := .bool true) rfl (by kernel_rfl) (by kernel_rfl) (by kernel_rfl) (fun _ _ _ h => h) (Or.inl ⟨by rfl, fun w' hSw => by (dsimp only at hSw; obtain ⟨s0, s1, s2, s3, s4, s5, s6, s7⟩ := hSw; go_simp)⟩) hHeld ?_
        simp only [Act.put, List.setIfInBounds_toArray, List.set_cons_zero, List.set_cons_succ, List.getElem_cons_zero, List.getElem_cons_succ, List.getElem_toArray]
        refine wpAnyH_take (i := 19) (v := .int .u8 wd) rfl (by kernel_rfl) (by kernel_rfl) (by kernel_rfl) (fun _ _ _ h => h) (Or.inl ⟨by rfl, fun w' hSw => by (dsimp only at hSw; obtain ⟨s0, s1, s2, s3, s4, s5, s6, s7⟩ := hSw; go_simp)⟩) hHeld ?_
        simp only [Act.put, List.setIfInBounds_toArray, List.set_cons_zero, List.set_cons_succ, List.getElem_cons_zero, List.getElem_cons_succ, List.getElem_toArray]
        refine wpAnyH_take (i := 20) (v := .int .u8 (r : Int)) rfl (by kernel_rfl) (by kernel_rfl) (by kernel_rfl) (fun _ _ _ h => h) (Or.inl ⟨by rfl, fun w' hSw => by (dsimp only at hSw; obtain ⟨s0, s1, s2, s3, s4, s5, s6, s7⟩ := hSw; go_simp)⟩) hHeld ?_
        simp only [Act.put, List.setIfInBounds_toArray, List.set_cons_zero, List.set_cons_succ, List.getElem_cons_zero, List.getElem_cons_succ, List.getElem_toArray]
        refine wpAnyH_take (i := 21) (v := .bool true) rfl (by kernel_rfl) (by kernel_rfl) (by kernel_rfl) (fun _ _ _ h => h) (Or.inl ⟨by rfl, fun w' hSw => by (dsimp only at hSw; obtain ⟨s0, s1, s2, s3, s4, s5, s6, s7⟩ := hSw; go_simp)⟩) hHeld ?_
        simp only [Act.put, List.setIfInBounds_toArray, List.set_cons_zero, List.set_cons_succ, List.getElem_cons_zero, List.getElem_cons_succ, List.getElem_toArray]
        refine wpAnyH_take (i := 22) (v := .bool true) rfl (by kernel_rfl) (by kernel_rfl) (by kernel_rfl) (fun _ _ _ h => h) (Or.inl ⟨by rfl, fun w' hSw => by (dsimp only at hSw; obtain ⟨s0, s1, s2, s3, s4, s5, s6, s7⟩ := hSw; go_simp)⟩) hHeld ?_
        simp only [Act.put, List.setIfInBounds_toArray, List.set_cons_zero, List.set_cons_succ, List.getElem_cons_zero, List.getElem_cons_succ, List.getElem_toArray]
        refine wpAnyH_take (i := 23) (v := .slice (some ⟨w1.heap.size, 0, none⟩) 1 1) rfl (by kernel_rfl) (by kernel_rfl) (by kernel_rfl) (fun _ _ _ h => h) (Or.inl ⟨by rfl, fun w' hSw => by (dsimp only at hSw; obtain ⟨s0, s1, s2, s3, s4, s5, s6, s7⟩ := hSw; go_simp)⟩) hHeld ?_
        simp only [Act.put, List.setIfInBounds_toArray, List.set_cons_zero, List.set_cons_succ, List.getElem_cons_zero, List.getElem_cons_succ, List.getElem_toArray]
        refine wpAnyH_take (i := 24) (v := .bool cr) rfl (by kernel_rfl) (by kernel_rfl) (by kernel_rfl) (fun _ _ _ h => h) (Or.inl ⟨by rfl, fun w' hSw => by (dsimp only at hSw; obtain ⟨s0, s1, s2, s3, s4, s5, s6, s7⟩ := hSw; go_simp)⟩) hHeld ?_
        simp only [Act.put, List.setIfInBounds_toArray, List.set_cons_zero, List.set_cons_succ, List.getElem_cons_zero, List.getElem_cons_succ, List.getElem_toArray]
        refine wpAnyH_take (i := 25) (v := .bool true) rfl (by kernel_rfl) (by kernel_rfl) (by kernel_rfl) (fun _ _ _ h => h) (Or.inl ⟨by rfl, fun w' hSw => by (dsimp only at hSw; obtain ⟨s0, s1, s2, s3, s4, s5, s6, s7⟩ := hSw; go_simp)⟩) hHeld ?_
        simp only [Act.put, List.setIfInBounds_toArray, List.set_cons_zero, List.set_cons_succ, List.getElem_cons_zero, List.getElem_cons_succ, List.getElem_toArray]
        refine wpAnyH_done (by kernel_rfl) ?_ _
        go_wp2_with fail
        refine bodyPost_ret (v := .tuple #[.slice (some ⟨w1.heap.size, 0, none⟩) 1 1, .bool cr, .bool true]) (by simp [results, Tryd.results19, go_sem]) rfl ?_
        exact ⟨some ⟨w1.heap.size, 0, none⟩, 1, by (first | rfl | simp [hwq]), pls_one (HA2.out) (by have := HB.out.size; have := HB2.out.size; omega), HB.out.trans ((HB2.out).mono HB.out.size)⟩
      · go_simp
        refine Calls.mono (HR.out _) ?_
        rintro e w2 ⟨ra, rc, rfl, hl, hb⟩
        have HB2 : Hid (Below w1.heap.size w1 w2) := (hd0).trans (hb.mono (hd0).size)
        have HR2 : Hid (Rl w2 ra rs) := hl
        clear hb hl
        refine hK.out _ _ (HS.out _ HB2.out) (fun hHeld => ?_)
        clear hK K
        refine wpAnyH_ready (rs := [8, 16]) (by kernel_rfl) (by simp) ?_
        refine AllReadyH.cons rfl (fun K hK => ?_) (AllReadyH.cons rfl (fun K hK => ?_) AllReadyH.nil)
        · go_simp
          have hb1 : Below w1.heap.size w1 (w2.alloc (.cells #[.int .i64 (g : Int), .int .i64 2, .int .i64 ((op : Int) + 1)] 39)) := HB2.out.alloc HB2.out.size _
          have HA1 : Hid (Op.At (w2.alloc (.cells #[.int .i64 (g : Int), .int .i64 2, .int .i64 ((op : Int) + 1)] 39)) w2.heap.size #[.int .i64 (g : Int), .int .i64 2, .int .i64 ((op : Int) + 1)]) := Op.At.new w2 _ _
          refine hK.out _ _ (HS.out _ hb1) (fun hHeld => ?_)
          clear hK K
          refine wpAnyH_ready (rs := [16]) (by kernel_rfl) (by simp) ?_
          refine AllReadyH.cons rfl (fun K hK => ?_) AllReadyH.nil
          go_simp
          refine Calls.mono (HC.out _ _ _ (HR2.out.below (below_al _))) ?_
          rintro e w3 ⟨rfl, hw3⟩
          subst w3
          refine hK.out _ _ (HS.out _ (hb1)) (fun hHeld => ?_)
          clear hK K
          refine wpAnyH_take (i := 18) (v := .bool true) rfl (by kernel_rfl) (by kernel_rfl) (by kernel_rfl) (fun _ _ _ h => h) (Or.inl ⟨by rfl, fun w' hSw => by (dsimp only at hSw; obtain ⟨s0, s1, s2, s3, s4, s5, s6, s7⟩ := hSw; go_simp)⟩) hHeld ?_
          simp only [Act.put, List.setIfInBounds_toArray, List.set_cons_zero, List.set_cons_succ, List.getElem_cons_zero, List.getElem_cons_succ, List.getElem_toArray]
          refine wpAnyH_take (i := 19) (v := .int .u8 wd) rfl (by kernel_rfl) (by kernel_rfl) (by kernel_rfl) (fun _ _ _ h => h) (Or.inl ⟨by rfl, fun w' hSw => by (dsimp only at hSw; obtain ⟨s0, s1, s2, s3, s4, s5, s6, s7⟩ := hSw; go_simp)⟩) hHeld ?_
          simp only [Act.put, List.setIfInBounds_toArray, List.set_cons_zero, List.set_cons_succ, List.getElem_cons_zero, List.getElem_cons_succ, List.getElem_toArray]
          refine wpAnyH_take (i := 20) (v := .int .u8 (r : Int)) rfl (by kernel_rfl) (by kernel_rfl) (by kernel_rfl) (fun _ _ _ h => h) (Or.inl ⟨by rfl, fun w' hSw => by (dsimp only at hSw; obtain ⟨s0, s1, s2, s3, s4, s5, s6, s7⟩ := hSw; go_simp)⟩) hHeld ?_
          simp only [Act.put, List.setIfInBounds_toArray, List.set_cons_zero, List.set_cons_succ, List.getElem_cons_zero, List.getElem_cons_succ, List.getElem_toArray]
          refine wpAnyH_take (i := 21) (v := .bool true) rfl (by kernel_rfl) (by kernel_rfl) (by kernel_rfl) (fun _ _ _ h => h) (Or.inl ⟨by rfl, fun w' hSw => by (dsimp only at hSw; obtain ⟨s0, s1, s2, s3, s4, s5, s6, s7⟩ := hSw; go_simp)⟩) hHeld ?_
          simp only [Act.put, List.setIfInBounds_toArray, List.set_cons_zero, List.set_cons_succ, List.getElem_cons_zero, List.getElem_cons_succ, List.getElem_toArray]
          refine wpAnyH_take (i := 22) (v := .bool true) rfl (by kernel_rfl) (by kernel_rfl) (by kernel_rfl) (fun _ _ _ h => h) (Or.inl ⟨by rfl, fun w' hSw => by (dsimp only at hSw; obtain ⟨s0, s1, s2, s3, s4, s5, s6, s7⟩ := hSw; go_simp)⟩) hHeld ?_
          simp only [Act.put, List.setIfInBounds_toArray, List.set_cons_zero, List.set_cons_succ, List.getElem_cons_zero, List.getElem_cons_succ, List.getElem_toArray]
          refine wpAnyH_take (i := 23) (v := .slice (some ⟨w2.heap.size, 0, none⟩) 1 1) rfl (by kernel_rfl) (by kernel_rfl) (by kernel_rfl) (fun _ _ _ h => h) (Or.inl ⟨by rfl, fun w' hSw => by (dsimp only at hSw; obtain ⟨s0, s1, s2, s3, s4, s5, s6, s7⟩ := hSw; go_simp)⟩) hHeld ?_
          simp only [Act.put, List.setIfInBounds_toArray, List.set_cons_zero, List.set_cons_succ, List.getElem_cons_zero, List.getElem_cons_succ, List.getElem_toArray]
          refine wpAnyH_take (i := 24) (v := .bool cr) rfl (by kernel_rfl) (by kernel_rfl) (by kernel_rfl) (fun _ _ _ h => h) (Or.inl ⟨by rfl, fun w' hSw => by (dsimp only at hSw; obtain ⟨s0, s1, s2, s3, s4, s5, s6, s7⟩ := hSw; go_simp)⟩) hHeld ?_
          simp only [Act.put, List.setIfInBounds_toArray, List.set_cons_zero, List.set_cons_succ, List.getElem_cons_zero, List.getElem_cons_succ, List.getElem_toArray]
          refine wpAnyH_take (i := 25) (v := .bool true) rfl (by kernel_rfl) (by kernel_rfl) (by kernel_rfl) (fun _ _ _ h => h) (Or.inl ⟨by rfl, fun w' hSw => by (dsimp only at hSw; obtain ⟨s0, s1, s2, s3, s4, s5, s6, s7⟩ := hSw; go_simp)⟩) hHeld ?_
          simp only [Act.put, List.setIfInBounds_toArray, List.set_cons_zero, List.set_cons_succ, List.getElem_cons_zero, List.getElem_cons_succ, List.getElem_toArray]
          refine wpAnyH_done (by kernel_rfl) ?_ _
          go_wp2_with fail
          refine bodyPost_ret (v := .tuple #[.slice (some ⟨w2.heap.size, 0, none⟩) 1 1, .bool cr, .bool true]) (by simp [results, Tryd.results19, go_sem]) rfl ?_
          exact ⟨some ⟨w2.heap.size, 0, none⟩, 1, by (first | rfl | simp [hwq]), pls_one (HA1.out) (by have := HB.out.size; have := HB2.out.size; omega), HB.out.trans ((hb1).mono HB.out.size)⟩
        · go_simp
          refine Calls.mono (HC.out _ _ _ (HR2.out)) ?_
          rintro e w3 ⟨rfl, hw3⟩
          subst w3
          refine hK.out _ _ (HS.out _ (HB2.out)) (fun hHeld => ?_)
          clear hK K
          refine wpAnyH_take (i := 18) (v := .bool true) rfl (by kernel_rfl) (by kernel_rfl) (by kernel_rfl) (fun _ _ _ h => h) (Or.inl ⟨by rfl, fun w' hSw => by (dsimp only at hSw; obtain ⟨s0, s1, s2, s3, s4, s5, s6, s7⟩ := hSw; go_simp)⟩) hHeld ?_
          simp only [Act.put, List.setIfInBounds_toArray, List.set_cons_zero, List.set_cons_succ, List.getElem_cons_zero, List.getElem_cons_succ, List.getElem_toArray]
          refine wpAnyH_take (i := 19) (v := .int .u8 wd) rfl (by kernel_rfl) (by kernel_rfl) (by kernel_rfl) (fun _ _ _ h => h) (Or.inl ⟨by rfl, fun w' hSw => by (dsimp only at hSw; obtain ⟨s0, s1, s2, s3, s4, s5, s6, s7⟩ := hSw; go_simp)⟩) hHeld ?_
          simp only [Act.put, List.setIfInBounds_toArray, List.set_cons_zero, List.set_cons_succ, List.getElem_cons_zero, List.getElem_cons_succ, List.getElem_toArray]
          refine wpAnyH_take (i := 20) (v := .int .u8 (r : Int)) rfl (by kernel_rfl) (by kernel_rfl) (by kernel_rfl) (fun _ _ _ h => h) (Or.inl ⟨by rfl, fun w' hSw => by (dsimp only at hSw; obtain ⟨s0, s1, s2, s3, s4, s5, s6, s7⟩ := hSw; go_simp)⟩) hHeld ?_
          simp only [Act.put, List.setIfInBounds_toArray, List.set_cons_zero, List.set_cons_succ, List.getElem_cons_zero, List.getElem_cons_succ, List.getElem_toArray]
          refine wpAnyH_take (i := 21) (v := .bool true) rfl (by kernel_rfl) (by kernel_rfl) (by kernel_rfl) (fun _ _ _ h => h) (Or.inl ⟨by rfl, fun w' hSw => by (dsimp only at hSw; obtain ⟨s0, s1, s2, s3, s4, s5, s6, s7⟩ := hSw; go_simp)⟩) hHeld ?_
          simp only [Act.put, List.setIfInBounds_toArray, List.set_cons_zero, List.set_cons_succ, List.getElem_cons_zero, List.getElem_cons_succ, List.getElem_toArray]
          refine wpAnyH_take (i := 22) (v := .bool true) rfl (by kernel_rfl) (by kernel_rfl) (by kernel_rfl) (fun _ _ _ h => h) (Or.inl ⟨by rfl, fun w' hSw => by (dsimp only at hSw; obtain ⟨s0, s1, s2, s3, s4, s5, s6, s7⟩ := hSw; go_simp)⟩) hHeld ?_
          simp only [Act.put, List.setIfInBounds_toArray, List.set_cons_zero, List.set_cons_succ, List.getElem_cons_zero, List.getElem_cons_succ, List.getElem_toArray]
          refine wpAnyH_ready (rs := [8]) (by kernel_rfl) (by simp) ?_
          refine AllReadyH.cons rfl (fun K hK => ?_) AllReadyH.nil
          go_simp
          have hb1 : Below w1.heap.size w1 (w2.alloc (.cells #[.int .i64 (g : Int), .int .i64 2, .int .i64 ((op : Int) + 1)] 39)) := HB2.out.alloc HB2.out.size _
          have HA1 : Hid (Op.At (w2.alloc (.cells #[.int .i64 (g : Int), .int .i64 2, .int .i64 ((op : Int) + 1)] 39)) w2.heap.size #[.int .i64 (g : Int), .int .i64 2, .int .i64 ((op : Int) + 1)]) := Op.At.new w2 _ _
          refine hK.out _ _ (HS.out _ hb1) (fun hHeld => ?_)
          clear hK K
          refine wpAnyH_take (i := 23) (v := .slice (some ⟨w2.heap.size, 0, none⟩) 1 1) rfl (by kernel_rfl) (by kernel_rfl) (by kernel_rfl) (fun _ _ _ h => h) (Or.inl ⟨by rfl, fun w' hSw => by (dsimp only at hSw; obtain ⟨s0, s1, s2, s3, s4, s5, s6, s7⟩ := hSw; go_simp)⟩) hHeld ?_
          simp only [Act.put, List.setIfInBounds_toArray, List.set_cons_zero, List.set_cons_succ, List.getElem_cons_zero, List.getElem_cons_succ, List.getElem_toArray]
          refine wpAnyH_take (i := 24) (v := .bool cr) rfl (by kernel_rfl) (by kernel_rfl) (by kernel_rfl) (fun _ _ _ h => h) (Or.inl ⟨by rfl, fun w' hSw => by (dsimp only at hSw; obtain ⟨s0, s1, s2, s3, s4, s5, s6, s7⟩ := hSw; go_simp)⟩) hHeld ?_
          simp only [Act.put, List.setIfInBounds_toArray, List.set_cons_zero, List.set_cons_succ, List.getElem_cons_zero, List.getElem_cons_succ, List.getElem_toArray]
          refine wpAnyH_take (i := 25) (v := .bool true) rfl (by kernel_rfl) (by kernel_rfl) (by kernel_rfl) (fun _ _ _ h => h) (Or.inl ⟨by rfl, fun w' hSw => by (dsimp only at hSw; obtain ⟨s0, s1, s2, s3, s4, s5, s6, s7⟩ := hSw; go_simp)⟩) hHeld ?_
          simp only [Act.put, List.setIfInBounds_toArray, List.set_cons_zero, List.set_cons_succ, List.getElem_cons_zero, List.getElem_cons_succ, List.getElem_toArray]
          refine wpAnyH_done (by kernel_rfl) ?_ _
          go_wp2_with fail
          refine bodyPost_ret (v := .tuple #[.slice (some ⟨w2.heap.size, 0, none⟩) 1 1, .bool cr, .bool true]) (by simp [results, Tryd.results19, go_sem]) rfl ?_
          exact ⟨some ⟨w2.heap.size, 0, none⟩, 1, by (first | rfl | simp [hwq]), pls_one (HA1.out) (by have := HB.out.size; have := HB2.out.size; omega), HB.out.trans ((hb1).mono HB.out.size)⟩
    · have hwq : (wd == (r : Int)) = false := by simpa using hwr
      refine wpAnyH_take (i := 17) (v := .bool true) rfl (by kernel_rfl) (by kernel_rfl) (by kernel_rfl) (fun _ _ _ h => h) (Or.inl ⟨by rfl, fun w' hSw => by (dsimp only at hSw; obtain ⟨s0, s1, s2, s3, s4, s5, s6, s7⟩ := hSw; go_simp)⟩) hHeld ?_
      simp only [Act.put, List.setIfInBounds_toArray, List.set_cons_zero, List.set_cons_succ, List.getElem_cons_zero, List.getElem_cons_succ, List.getElem_toArray]
      refine wpAnyH_ready (rs := [8, 14]) (by kernel_rfl) (by simp) ?_
      refine AllReadyH.cons rfl (fun K hK => ?_) (AllReadyH.cons rfl (fun K hK => ?_) AllReadyH.nil)
      · go_simp
        have hb1 : Below w1.heap.size w1 (w1.drew.alloc (.cells #[.int .i64 (g : Int), .int .i64 2, .int .i64 ((op : Int) + 1)] 39)) := hd0.alloc (Nat.le_refl _) _
        have HA1 : Hid (Op.At (w1.drew.alloc (.cells #[.int .i64 (g : Int), .int .i64 2, .int .i64 ((op : Int) + 1)] 39)) w1.heap.size #[.int .i64 (g : Int), .int .i64 2, .int .i64 ((op : Int) + 1)]) := Op.At.new w1.drew _ _
        refine hK.out _ _ (HS.out _ hb1) (fun hHeld => ?_)
        clear hK K
        refine wpAnyH_ready (rs := [14]) (by kernel_rfl) (by simp) ?_
        refine AllReadyH.cons rfl (fun K hK => ?_) AllReadyH.nil
        go_simp
        refine Calls.mono (HR.out _) ?_
        rintro e w2 ⟨ra, rc, rfl, hl, hb⟩
        have HB2 : Hid (Below w1.heap.size w1 w2) := (hb1).trans (hb.mono (hb1).size)
        have HR2 : Hid (Rl w2 ra rs) := hl
        have HA2 : Hid (Op.At w2 w1.heap.size #[.int .i64 (g : Int), .int .i64 2, .int .i64 ((op : Int) + 1)]) := HA1.out.below hb HA1.out.lt
        clear hb hl
        refine hK.out _ _ (HS.out _ HB2.out) (fun hHeld => ?_)
        clear hK K
        refine wpAnyH_ready (rs := [16]) (by kernel_rfl) (by simp) ?_
        refine AllReadyH.cons rfl (fun K hK => ?_) AllReadyH.nil
        go_simp
        refine Calls.mono (HC.out _ _ _ (HR2.out)) ?_
        rintro e w3 ⟨rfl, hw3⟩
        subst w3
        refine hK.out _ _ (HS.out _ (HB2.out)) (fun hHeld => ?_)
        clear hK K
        refine wpAnyH_take (i := 18) (v := .bool true) rfl (by kernel_rfl) (by kernel_rfl) (by kernel_rfl) (fun _ _ _ h => h) (Or.inl ⟨by rfl, fun w' hSw => by (dsimp only at hSw; obtain ⟨s0, s1, s2, s3, s4, s5, s6, s7⟩ := hSw; go_simp)⟩) hHeld ?_
        simp only [Act.put, List.setIfInBounds_toArray, List.set_cons_zero, List.set_cons_succ, List.getElem_cons_zero, List.getElem_cons_succ, List.getElem_toArray]
        refine wpAnyH_take (i := 19) (v := .int .u8 wd) rfl (by kernel_rfl) (by kernel_rfl) (by kernel_rfl) (fun _ _ _ h => h) (Or.inl ⟨by rfl, fun w' hSw => by (dsimp only at hSw; obtain ⟨s0, s1, s2, s3, s4, s5, s6, s7⟩ := hSw; go_simp)⟩) hHeld ?_
        simp only [Act.put, List.setIfInBounds_toArray, List.set_cons_zero, List.set_cons_succ, List.getElem_cons_zero, List.getElem_cons_succ, List.getElem_toArray]
        refine wpAnyH_take (i := 20) (v := .int .u8 (r : Int)) rfl (by kernel_rfl) (by kernel_rfl) (by kernel_rfl) (fun _ _ _ h => h) (Or.inl ⟨by rfl, fun w' hSw => by (dsimp only at hSw; obtain ⟨s0, s1, s2, s3, s4, s5, s6, s7⟩ := hSw; go_simp)⟩) hHeld ?_
        simp only [Act.put, List.setIfInBounds_toArray, List.set_cons_zero, List.set_cons_succ, List.getElem_cons_zero, List.getElem_cons_succ, List.getElem_toArray]
        refine wpAnyH_take (i := 21) (v := .bool false) rfl (by kernel_rfl) (by kernel_rfl) (by kernel_rfl) (fun _ _ _ h => h) (Or.inl ⟨by rfl, fun w' hSw => by (dsimp only at hSw; obtain ⟨s0, s1, s2, s3, s4, s5, s6, s7⟩ := hSw; go_simp)⟩) hHeld ?_
        simp only [Act.put, List.setIfInBounds_toArray, List.set_cons_zero, List.set_cons_succ, List.getElem_cons_zero, List.getElem_cons_succ, List.getElem_toArray]
        refine wpAnyH_take (i := 22) (v := .bool false) rfl (by kernel_rfl) (by kernel_rfl) (by kernel_rfl) (fun _ _ _ h => h) (Or.inl ⟨by rfl, fun w' hSw => by (dsimp only at hSw; obtain ⟨s0, s1, s2, s3, s4, s5, s6, s7⟩ := hSw; go_simp)⟩) hHeld ?_
        simp only [Act.put, List.setIfInBounds_toArray, List.set_cons_zero, List.set_cons_succ, List.getElem_cons_zero, List.getElem_cons_succ, List.getElem_toArray]
        refine wpAnyH_take (i := 23) (v := .slice (some ⟨w1.heap.size, 0, none⟩) 1 1) rfl (by kernel_rfl) (by kernel_rfl) (by kernel_rfl) (fun _ _ _ h => h) (Or.inl ⟨by rfl, fun w' hSw => by (dsimp only at hSw; obtain ⟨s0, s1, s2, s3, s4, s5, s6, s7⟩ := hSw; go_simp)⟩) hHeld ?_
        simp only [Act.put, List.setIfInBounds_toArray, List.set_cons_zero, List.set_cons_succ, List.getElem_cons_zero, List.getElem_cons_succ, List.getElem_toArray]
        refine wpAnyH_take (i := 24) (v := .bool cr) rfl (by kernel_rfl) (by kernel_rfl) (by kernel_rfl) (fun _ _ _ h => h) (Or.inl ⟨by rfl, fun w' hSw => by (dsimp only at hSw; obtain ⟨s0, s1, s2, s3, s4, s5, s6, s7⟩ := hSw; go_simp)⟩) hHeld ?_
        simp only [Act.put, List.setIfInBounds_toArray, List.set_cons_zero, List.set_cons_succ, List.getElem_cons_zero, List.getElem_cons_succ, List.getElem_toArray]
        refine wpAnyH_take (i := 25) (v := .bool false) rfl (by kernel_rfl) (by kernel_rfl) (by kernel_rfl) (fun _ _ _ h => h) (Or.inl ⟨by rfl, fun w' hSw => by (dsimp only at hSw; obtain ⟨s0, s1, s2, s3, s4, s5, s6, s7⟩ := hSw; go_simp)⟩) hHeld ?_
        simp only [Act.put, List.setIfInBounds_toArray, List.set_cons_zero, List.set_cons_succ, List.getElem_cons_zero, List.getElem_cons_succ, List.getElem_toArray]
        refine wpAnyH_done (by kernel_rfl) ?_ _
        go_wp2_with fail
        refine bodyPost_ret (v := .tuple #[.slice (some ⟨w1.heap.size, 0, none⟩) 1 1, .bool cr, .bool false]) (by simp [results, Tryd.results19, go_sem]) rfl ?_
        exact ⟨some ⟨w1.heap.size, 0, none⟩, 1, by (first | rfl | simp [hwq]), pls_one (HA2.out) (by have := HB.out.size; have := HB2.out.size; omega), HB.out.trans ((HB2.out).mono HB.out.size)⟩
      · go_simp
        refine Calls.mono (HR.out _) ?_
        rintro e w2 ⟨ra, rc, rfl, hl, hb⟩
        have HB2 : Hid (Below w1.heap.size w1 w2) := (hd0).trans (hb.mono (hd0).size)
        have HR2 : Hid (Rl w2 ra rs) := hl
        clear hb hl
        refine hK.out _ _ (HS.out _ HB2.out) (fun hHeld => ?_)
        clear hK K
        refine wpAnyH_ready (rs := [8, 16]) (by kernel_rfl) (by simp) ?_
        refine AllReadyH.cons rfl (fun K hK => ?_) (AllReadyH.cons rfl (fun K hK => ?_) AllReadyH.nil)
        · go_simp
          have hb1 : Below w1.heap.size w1 (w2.alloc (.cells #[.int .i64 (g : Int), .int .i64 2, .int .i64 ((op : Int) + 1)] 39)) := HB2.out.alloc HB2.out.size _
          have HA1 : Hid (Op.At (w2.alloc (.cells #[.int .i64 (g : Int), .int .i64 2, .int .i64 ((op : Int) + 1)] 39)) w2.heap.size #[.int .i64 (g : Int), .int .i64 2, .int .i64 ((op : Int) + 1)]) := Op.At.new w2 _ _
          refine hK.out _ _ (HS.out _ hb1) (fun hHeld => ?_)
          clear hK K
          refine wpAnyH_ready (rs := [16]) (by kernel_rfl) (by simp) ?_
          refine AllReadyH.cons rfl (fun K hK => ?_) AllReadyH.nil
          go_simp
          refine Calls.mono (HC.out _ _ _ (HR2.out.below (below_al _))) ?_
          rintro e w3 ⟨rfl, hw3⟩
          subst w3
          refine hK.out _ _ (HS.out _ (hb1)) (fun hHeld => ?_)
          clear hK K
          refine wpAnyH_take (i := 18) (v := .bool true) rfl (by kernel_rfl) (by kernel_rfl) (by kernel_rfl) (fun _ _ _ h => h) (Or.inl ⟨by rfl, fun w' hSw => by (dsimp only at hSw; obtain ⟨s0, s1, s2, s3, s4, s5, s6, s7⟩ := hSw; go_simp)⟩) hHeld ?_
          simp only [Act.put, List.setIfInBounds_toArray, List.set_cons_zero, List.set_cons_succ, List.getElem_cons_zero, List.getElem_cons_succ, List.getElem_toArray]
          refine wpAnyH_take (i := 19) (v := .int .u8 wd) rfl (by kernel_rfl) (by kernel_rfl) (by kernel_rfl) (fun _ _ _ h => h) (Or.inl ⟨by rfl, fun w' hSw => by (dsimp only at hSw; obtain ⟨s0, s1, s2, s3, s4, s5, s6, s7⟩ := hSw; go_simp)⟩) hHeld ?_
          simp only [Act.put, List.setIfInBounds_toArray, List.set_cons_zero, List.set_cons_succ, List.getElem_cons_zero, List.getElem_cons_succ, List.getElem_toArray]
          refine wpAnyH_take (i := 20) (v := .int .u8 (r : Int)) rfl (by kernel_rfl) (by kernel_rfl) (by kernel_rfl) (fun _ _ _ h => h) (Or.inl ⟨by rfl, fun w' hSw => by (dsimp only at hSw; obtain ⟨s0, s1, s2, s3, s4, s5, s6, s7⟩ := hSw; go_simp)⟩) hHeld ?_
          simp only [Act.put, List.setIfInBounds_toArray, List.set_cons_zero, List.set_cons_succ, List.getElem_cons_zero, List.getElem_cons_succ, List.getElem_toArray]
          refine wpAnyH_take (i := 21) (v := .bool false) rfl (by kernel_rfl) (by kernel_rfl) (by kernel_rfl) (fun _ _ _ h => h) (Or.inl ⟨by rfl, fun w' hSw => by (dsimp only at hSw; obtain ⟨s0, s1, s2, s3, s4, s5, s6, s7⟩ := hSw; go_simp)⟩) hHeld ?_
          simp only [Act.put, List.setIfInBounds_toArray, List.set_cons_zero, List.set_cons_succ, List.getElem_cons_zero, List.getElem_cons_succ, List.getElem_toArray]
          refine wpAnyH_take (i := 22) (v := .bool false) rfl (by kernel_rfl) (by kernel_rfl) (by kernel_rfl) (fun _ _ _ h => h) (Or.inl ⟨by rfl, fun w' hSw => by (dsimp only at hSw; obtain ⟨s0, s1, s2, s3, s4, s5, s6, s7⟩ := hSw; go_simp)⟩) hHeld ?_
          simp only [Act.put, List.setIfInBounds_toArray, List.set_cons_zero, List.set_cons_succ, List.getElem_cons_zero, List.getElem_cons_succ, List.getElem_toArray]
          refine wpAnyH_take (i := 23) (v := .slice (some ⟨w2.heap.size, 0, none⟩) 1 1) rfl (by kernel_rfl) (by kernel_rfl) (by kernel_rfl) (fun _ _ _ h => h) (Or.inl ⟨by rfl, fun w' hSw => by (dsimp only at hSw; obtain ⟨s0, s1, s2, s3, s4, s5, s6, s7⟩ := hSw; go_simp)⟩) hHeld ?_
          simp only [Act.put, List.setIfInBounds_toArray, List.set_cons_zero, List.set_cons_succ, List.getElem_cons_zero, List.getElem_cons_succ, List.getElem_toArray]
          refine wpAnyH_take (i := 24) (v := .bool cr) rfl (by kernel_rfl) (by kernel_rfl) (by kernel_rfl) (fun _ _ _ h => h) (Or.inl ⟨by rfl, fun w' hSw => by (dsimp only at hSw; obtain ⟨s0, s1, s2, s3, s4, s5, s6, s7⟩ := hSw; go_simp)⟩) hHeld ?_
          simp only [Act.put, List.setIfInBounds_toArray, List.set_cons_zero, List.set_cons_succ, List.getElem_cons_zero, List.getElem_cons_succ, List.getElem_toArray]
          refine wpAnyH_take (i := 25) (v := .bool false) rfl (by kernel_rfl) (by kernel_rfl) (by kernel_rfl) (fun _ _ _ h => h) (Or.inl ⟨by rfl, fun w' hSw => by (dsimp only at hSw; obtain ⟨s0, s1, s2, s3, s4, s5, s6, s7⟩ := hSw; go_simp)⟩) hHeld ?_
          simp only [Act.put, List.setIfInBounds_toArray, List.set_cons_zero, List.set_cons_succ, List.getElem_cons_zero, List.getElem_cons_succ, List.getElem_toArray]
          refine wpAnyH_done (by kernel_rfl) ?_ _
          go_wp2_with fail
          refine bodyPost_ret (v := .tuple #[.slice (some ⟨w2.heap.size, 0, none⟩) 1 1, .bool cr, .bool false]) (by simp [results, Tryd.results19, go_sem]) rfl ?_
          exact ⟨some ⟨w2.heap.size, 0, none⟩, 1, by (first | rfl | simp [hwq]), pls_one (HA1.out) (by have := HB.out.size; have := HB2.out.size; omega), HB.out.trans ((hb1).mono HB.out.size)⟩
        · go_simp
          refine Calls.mono (HC.out _ _ _ (HR2.out)) ?_
          rintro e w3 ⟨rfl, hw3⟩
          subst w3
          refine hK.out _ _ (HS.out _ (HB2.out)) (fun hHeld => ?_)
          clear hK K
          refine wpAnyH_take (i := 18) (v := .bool true) rfl (by kernel_rfl) (by kernel_rfl) (by kernel_rfl) (fun _ _ _ h => h) (Or.inl ⟨by rfl, fun w' hSw => by (dsimp only at hSw; obtain ⟨s0, s1, s2, s3, s4, s5, s6, s7⟩ := hSw; go_simp)⟩) hHeld ?_
          simp only [Act.put, List.setIfInBounds_toArray, List.set_cons_zero, List.set_cons_succ, List.getElem_cons_zero, List.getElem_cons_succ, List.getElem_toArray]
          refine wpAnyH_take (i := 19) (v := .int .u8 wd) rfl (by kernel_rfl) (by kernel_rfl) (by kernel_rfl) (fun _ _ _ h => h) (Or.inl ⟨by rfl, fun w' hSw => by (dsimp only at hSw; obtain ⟨s0, s1, s2, s3, s4, s5, s6, s7⟩ := hSw; go_simp)⟩) hHeld ?_
          simp only [Act.put, List.setIfInBounds_toArray, List.set_cons_zero, List.set_cons_succ, List.getElem_cons_zero, List.getElem_cons_succ, List.getElem_toArray]
          refine wpAnyH_take (i := 20) (v := .int .u8 (r : Int)) rfl (by kernel_rfl) (by kernel_rfl) (by kernel_rfl) (fun _ _ _ h => h) (Or.inl ⟨by rfl, fun w' hSw => by (dsimp only at hSw; obtain ⟨s0, s1, s2, s3, s4, s5, s6, s7⟩ := hSw; go_simp)⟩) hHeld ?_
          simp only [Act.put, List.setIfInBounds_toArray, List.set_cons_zero, List.set_cons_succ, List.getElem_cons_zero, List.getElem_cons_succ, List.getElem_toArray]
          refine wpAnyH_take (i := 21) (v := .bool false) rfl (by kernel_rfl) (by kernel_rfl) (by kernel_rfl) (fun _ _ _ h => h) (Or.inl ⟨by rfl, fun w' hSw => by (dsimp only at hSw; obtain ⟨s0, s1, s2, s3, s4, s5, s6, s7⟩ := hSw; go_simp)⟩) hHeld ?_
          simp only [Act.put, List.setIfInBounds_toArray, List.set_cons_zero, List.set_cons_succ, List.getElem_cons_zero, List.getElem_cons_succ, List.getElem_toArray]
          refine wpAnyH_take (i := 22) (v := .bool false) rfl (by kernel_rfl) (by kernel_rfl) (by kernel_rfl) (fun _ _ _ h => h) (Or.inl ⟨by rfl, fun w' hSw => by (dsimp only at hSw; obtain ⟨s0, s1, s2, s3, s4, s5, s6, s7⟩ := hSw; go_simp)⟩) hHeld ?_
          simp only [Act.put, List.setIfInBounds_toArray, List.set_cons_zero, List.set_cons_succ, List.getElem_cons_zero, List.getElem_cons_succ, List.getElem_toArray]
          refine wpAnyH_ready (rs := [8]) (by kernel_rfl) (by simp) ?_
          refine AllReadyH.cons rfl (fun K hK => ?_) AllReadyH.nil
          go_simp
          have hb1 : Below w1.heap.size w1 (w2.alloc (.cells #[.int .i64 (g : Int), .int .i64 2, .int .i64 ((op : Int) + 1)] 39)) := HB2.out.alloc HB2.out.size _
          have HA1 : Hid (Op.At (w2.alloc (.cells #[.int .i64 (g : Int), .int .i64 2, .int .i64 ((op : Int) + 1)] 39)) w2.heap.size #[.int .i64 (g : Int), .int .i64 2, .int .i64 ((op : Int) + 1)]) := Op.At.new w2 _ _
          refine hK.out _ _ (HS.out _ hb1) (fun hHeld => ?_)
          clear hK K
          refine wpAnyH_take (i := 23) (v := .slice (some ⟨w2.heap.size, 0, none⟩) 1 1) rfl (by kernel_rfl) (by kernel_rfl) (by kernel_rfl) (fun _ _ _ h => h) (Or.inl ⟨by rfl, fun w' hSw => by (dsimp only at hSw; obtain ⟨s0, s1, s2, s3, s4, s5, s6, s7⟩ := hSw; go_simp)⟩) hHeld ?_
          simp only [Act.put, List.setIfInBounds_toArray, List.set_cons_zero, List.set_cons_succ, List.getElem_cons_zero, List.getElem_cons_succ, List.getElem_toArray]
          refine wpAnyH_take (i := 24) (v := .bool cr) rfl (by kernel_rfl) (by kernel_rfl) (by kernel_rfl) (fun _ _ _ h => h) (Or.inl ⟨by rfl, fun w' hSw => by (dsimp only at hSw; obtain ⟨s0, s1, s2, s3, s4, s5, s6, s7⟩ := hSw; go_simp)⟩) hHeld ?_
          simp only [Act.put, List.setIfInBounds_toArray, List.set_cons_zero, List.set_cons_succ, List.getElem_cons_zero, List.getElem_cons_succ, List.getElem_toArray]
          refine wpAnyH_take (i := 25) (v := .bool false) rfl (by kernel_rfl) (by kernel_rfl) (by kernel_rfl) (fun _ _ _ h => h) (Or.inl ⟨by rfl, fun w' hSw => by (dsimp only at hSw; obtain ⟨s0, s1, s2, s3, s4, s5, s6, s7⟩ := hSw; go_simp)⟩) hHeld ?_
          simp only [Act.put, List.setIfInBounds_toArray, List.set_cons_zero, List.set_cons_succ, List.getElem_cons_zero, List.getElem_cons_succ, List.getElem_toArray]
          refine wpAnyH_done (by kernel_rfl) ?_ _
          go_wp2_with fail
          refine bodyPost_ret (v := .tuple #[.slice (some ⟨w2.heap.size, 0, none⟩) 1 1, .bool cr, .bool false]) (by simp [results, Tryd.results19, go_sem]) rfl ?_
          exact ⟨some ⟨w2.heap.size, 0, none⟩, 1, by (first | rfl | simp [hwq]), pls_one (HA1.out) (by have := HB.out.size; have := HB2.out.size; omega), HB.out.trans ((hb1).mono HB.out.size)⟩
end Go.Proofs.YtlinekpaffgcjaaDoor.Li
