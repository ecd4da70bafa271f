/- What Run answers of a machine that halts: read off the program by the walk. Conditions: the machine and its program lie in memory. -/
import Derived.Test.YtddcndlogoajkaaGreatDoorQNl
namespace Go.Proofs.YtddcndlogoajkaaGreatDoor.L8.Sm
open Go.ChangeShapes Go.WideShapes Go.ChangeAt Go.RowKit
open _root_.Go.Proofs.YtddcndlogoajkaaGreatDoor.L8.Op _root_.Go.Proofs.YtddcndlogoajkaaGreatDoor.L8.So
set_option maxRecDepth 20000

section
theorem Ob.mem {w w1 W w3 W5 : World} {n b : Nat} {a m : Option Addr} {l k : List Int} {vs us : Array Value} (h : Ob w w1 W n b a none l [] vs) (hb : Below W.heap.size W w3) (hF : Fr (One b) w3 W5) (hf : Fresh W w3 m k) (hx : Op.At W5 b us) : Ob w w1 W5 n b a m l k us := by
  have h1 := h.b1
  have h2 := h.nb
  have hz := h.x.lt
  have hs := h.up.size
  have hu : Below w1.heap.size w1 w3 := h.up.trans (hb.mono h.up.size)
  refine ⟨hu.trans (hF.below hu.size fun k hk e => ?_), ?_, hx, h.nb, h.b1, (h.nl.up hb).fr hF fun h0 x e hxb => h.ab h0 x e hxb, h.an, h.ab, hf.nl.fr hF fun h0 x e hxb => ?_, fun h0 x e => ?_⟩
  · have e : k = b := e
    omega
  · have hr := h.r.below hb h.r.lt
    exact ⟨fun j v e => (hF.cell hr.lt (fun e => by have e : n = b := e; omega) j).trans (hr.c j v e), fun j => (hF.frozen hr.lt (fun e => by have e : n = b := e; omega) j).trans (hr.f j), Nat.lt_of_lt_of_le hr.lt hF.size⟩
  · have h3 := hf.new h0 x e
    have hxb : x.block = b := hxb
    omega
  · have h3 := hf.new h0 x e
    omega
variable {w : World} {q : Nat} {ps : List Bk} {T : Nat → Prop} {M : Ma}
set_option maxHeartbeats 4000000 in
theorem run_done (n : Int) (h : MM w q ps T M) (hb : M.s + (min (max n 0) 1048576).toNat ≤ 1000000000000) (he : (runM ps (min (max n 0) 1048576).toNat M).e = 0) : Calls Tryz.prog 17 #[ptr q, .int .i64 n] w (RunPost w q ps T (runM ps (min (max n 0) 1048576).toNat M)) := by
  have hB : Below w.heap.size w (w.alloc (.cells #[.int .i64 0, .int .i64 0, .slice none 0 0, .slice none 0 0, .int .i64 0] 42)) := (Below.refl _ _).alloc (Nat.le_refl _) _
  have HG : Hid (Calls Tryz.prog 31 #[ptr q, .int .i64 (min (max n 0) 1048576)] (w.alloc (.cells #[.int .i64 0, .int .i64 0, .slice none 0 0, .slice none 0 0, .int .i64 0] 42)) fun e w' => e = .returned (.tuple #[]) ∧ ∃ T', MM w' q ps T' (runM ps (min (max n 0) 1048576).toNat M) ∧ Tn (w.alloc (.cells #[.int .i64 0, .int .i64 0, .slice none 0 0, .slice none 0 0, .int .i64 0] 42)) T w' T') := by
    have := goOn_any (min (max n 0) 1048576).toNat (h.up hB) hb
    rw [show (((min (max n 0) 1048576).toNat : Nat) : Int) = min (max n 0) 1048576 by omega] at this
    exact this
  have HBr : Hid (∀ W, Calls Tryz.prog 32 #[.int .i64 n, .int .i64 1048576] W fun e w' => e = .returned (.int .i64 (min (max n 0) 1048576)) ∧ w' = W) := fun W => brought_any n 1048576 W
  have HA : Hid (Op.At (w.alloc (.cells #[.int .i64 0, .int .i64 0, .slice none 0 0, .slice none 0 0, .int .i64 0] 42)) w.heap.size #[.int .i64 0, .int .i64 0, .slice none 0 0, .slice none 0 0, .int .i64 0] ∧ ¬ T w.heap.size) := ⟨Op.At.new _ _ _, fun h' => Nat.lt_irrefl _ (h.mr.tl _ h')⟩
  have HS : Hid ((runM ps (min (max n 0) 1048576).toNat M).s ≤ 1000000000000) := by
    show (runM ps (min (max n 0) 1048576).toNat M).s ≤ _
    have h1 := trail_len ps (min (max n 0) 1048576).toNat M
    have h2 := trail_le ps (min (max n 0) 1048576).toNat M
    omega
  have hq := h.mr.mat'.2.2.2
  clear h hb hB
  generalize runM ps (min (max n 0) 1048576).toNat M = M2 at *
  generalize min (max n 0) 1048576 = k at *
  have HE0 : Hid (M2.e = 0) := he
  clear he
  go_enter Tryz.func17, Tryz.ntmps17
  go_wp2_with (first
    | (go_at_call 32; refine Calls.mono (HBr.out _) ?_; rintro e _ ⟨rfl, rfl⟩)
    | (go_at_call 31; refine Calls.mono HG.out ?_; rintro e w1 ⟨rfl, T1, hm, htn⟩; have HM : Hid (MM w1 q ps T1 M2 ∧ Tn w T w1 T1 ∧ Op.At w1 w.heap.size oz ∧ ¬ T1 w.heap.size ∧ ∀ j k, w1.cell? ⟨w.heap.size, j, none⟩ ≠ some (.int .i8 k)) := ⟨hm, (Tn.of ((Below.refl _ _).alloc (Nat.le_refl _) _)).trans htn, ⟨fun j v e => (htn.f.cell (by simp) HA.out.2 j).trans (HA.out.1.c j v e), fun j => (htn.f.frozen (by simp) HA.out.2 j).trans (HA.out.1.f j), Nat.lt_of_lt_of_le HA.out.1.lt htn.f.size⟩, fun h' => (htn.t _ h').elim HA.out.2 (fun h'' => by rw [World.size_alloc] at h''; omega), fun j k => (by rw [htn.f.cell (by simp) HA.out.2]; exact oz_no w j k)⟩; clear hm htn))
  obtain ⟨po, pc, hp, hcl⟩ := clone_prints HM.out.1 HS.out
  have HC : Hid (∀ W, Below w1.heap.size w1 W → Calls Tryz.prog 33 #[.slice po M2.pr.length pc] W fun e w' => ∃ r c, e = .returned (.slice r M2.pr.length c) ∧ Fresh W w' r M2.pr ∧ M2.pr.length ≤ c) := hcl
  have HK : Hid (∀ W, Below w1.heap.size w1 W → W.cell? ⟨q, 333, none⟩ = some (.int .i64 M2.e) ∧ W.cell? ⟨q, 335, none⟩ = some (.slice po M2.pr.length pc) ∧ W.cell? ⟨q, 336, none⟩ = some (.int .i64 (M2.s : Int))) := fun W hb => ⟨(HM.out.1.mr.up hb).mat'.1, by rw [(bcell hb).1 _ _ HM.out.1.mr.mat'.2.2.2]; exact hp, (HM.out.1.mr.up hb).mat'.2.1⟩
  clear hp hcl HG HBr
  refine wp_region_held_drew (S := fun W => Below w1.heap.size w1 W) (by kernel_rfl) (drew_up _) (fun hHeld => ?_)
  refine wpAnyH_take (i := 0) (v := ptr q) rfl (by kernel_rfl) (by kernel_rfl) (by kernel_rfl) (fun _ _ _ h => h) (Or.inl ⟨by rfl, fun w' hSw => by (have hk := HK.out w' hSw; obtain ⟨s0, s1, s2⟩ := hk; go_simp)⟩) hHeld ?_
  simp only [Act.put, List.setIfInBounds_toArray, List.set_cons_zero, List.set_cons_succ, List.getElem_cons_zero, List.getElem_toArray]
  refine wpAnyH_take (i := 1) (v := ptr q) rfl (by kernel_rfl) (by kernel_rfl) (by kernel_rfl) (fun _ _ _ h => h) (Or.inl ⟨by rfl, fun w' hSw => by (have hk := HK.out w' hSw; obtain ⟨s0, s1, s2⟩ := hk; go_simp)⟩) hHeld ?_
  simp only [Act.put, List.setIfInBounds_toArray, List.set_cons_zero, List.set_cons_succ, List.getElem_cons_zero, List.getElem_cons_succ, List.getElem_toArray]
  refine wpAnyH_take (i := 2) (v := .pointer (some ⟨q, 333, none⟩)) rfl (by kernel_rfl) (by kernel_rfl) (by kernel_rfl) (fun _ _ _ h => h) (Or.inl ⟨by rfl, fun w' hSw => by (have hk := HK.out w' hSw; obtain ⟨s0, s1, s2⟩ := hk; go_simp)⟩) hHeld ?_
  simp only [Act.put, List.setIfInBounds_toArray, List.set_cons_zero, List.set_cons_succ, List.getElem_cons_zero, List.getElem_cons_succ, List.getElem_toArray]
  refine wpAnyH_take (i := 3) (v := .int .i64 M2.e) rfl (by kernel_rfl) (by kernel_rfl) (by kernel_rfl) (fun _ _ _ h => h) (Or.inl ⟨by rfl, fun w' hSw => by (have hk := HK.out w' hSw; obtain ⟨s0, s1, s2⟩ := hk; go_simp)⟩) hHeld ?_
  simp only [Act.put, List.setIfInBounds_toArray, List.set_cons_zero, List.set_cons_succ, List.getElem_cons_zero, List.getElem_cons_succ, List.getElem_toArray]
  refine wpAnyH_take (i := 4) (v := ptr q) rfl (by kernel_rfl) (by kernel_rfl) (by kernel_rfl) (fun _ _ _ h => h) (Or.inl ⟨by rfl, fun w' hSw => by (have hk := HK.out w' hSw; obtain ⟨s0, s1, s2⟩ := hk; go_simp)⟩) hHeld ?_
  simp only [Act.put, List.setIfInBounds_toArray, List.set_cons_zero, List.set_cons_succ, List.getElem_cons_zero, List.getElem_cons_succ, List.getElem_toArray]
  refine wpAnyH_take (i := 5) (v := ptr q) rfl (by kernel_rfl) (by kernel_rfl) (by kernel_rfl) (fun _ _ _ h => h) (Or.inl ⟨by rfl, fun w' hSw => by (have hk := HK.out w' hSw; obtain ⟨s0, s1, s2⟩ := hk; go_simp)⟩) hHeld ?_
  simp only [Act.put, List.setIfInBounds_toArray, List.set_cons_zero, List.set_cons_succ, List.getElem_cons_zero, List.getElem_cons_succ, List.getElem_toArray]
  refine wpAnyH_take (i := 6) (v := .pointer (some ⟨q, 335, none⟩)) rfl (by kernel_rfl) (by kernel_rfl) (by kernel_rfl) (fun _ _ _ h => h) (Or.inl ⟨by rfl, fun w' hSw => by (have hk := HK.out w' hSw; obtain ⟨s0, s1, s2⟩ := hk; go_simp)⟩) hHeld ?_
  simp only [Act.put, List.setIfInBounds_toArray, List.set_cons_zero, List.set_cons_succ, List.getElem_cons_zero, List.getElem_cons_succ, List.getElem_toArray]
  refine wpAnyH_take (i := 7) (v := .slice po M2.pr.length pc) rfl (by kernel_rfl) (by kernel_rfl) (by kernel_rfl) (fun _ _ _ h => h) (Or.inl ⟨by rfl, fun w' hSw => by (have hk := HK.out w' hSw; obtain ⟨s0, s1, s2⟩ := hk; go_simp)⟩) hHeld ?_
  simp only [Act.put, List.setIfInBounds_toArray, List.set_cons_zero, List.set_cons_succ, List.getElem_cons_zero, List.getElem_cons_succ, List.getElem_toArray]
  refine wpAnyH_take (i := 9) (v := ptr q) rfl (by kernel_rfl) (by kernel_rfl) (by kernel_rfl) (fun _ _ _ h => h) (Or.inl ⟨by rfl, fun w' hSw => by (have hk := HK.out w' hSw; obtain ⟨s0, s1, s2⟩ := hk; go_simp)⟩) hHeld ?_
  simp only [Act.put, List.setIfInBounds_toArray, List.set_cons_zero, List.set_cons_succ, List.getElem_cons_zero, List.getElem_cons_succ, List.getElem_toArray]
  refine wpAnyH_take (i := 10) (v := ptr q) rfl (by kernel_rfl) (by kernel_rfl) (by kernel_rfl) (fun _ _ _ h => h) (Or.inl ⟨by rfl, fun w' hSw => by (have hk := HK.out w' hSw; obtain ⟨s0, s1, s2⟩ := hk; go_simp)⟩) hHeld ?_
  simp only [Act.put, List.setIfInBounds_toArray, List.set_cons_zero, List.set_cons_succ, List.getElem_cons_zero, List.getElem_cons_succ, List.getElem_toArray]
  refine wpAnyH_take (i := 11) (v := .pointer (some ⟨q, 336, none⟩)) rfl (by kernel_rfl) (by kernel_rfl) (by kernel_rfl) (fun _ _ _ h => h) (Or.inl ⟨by rfl, fun w' hSw => by (have hk := HK.out w' hSw; obtain ⟨s0, s1, s2⟩ := hk; go_simp)⟩) hHeld ?_
  simp only [Act.put, List.setIfInBounds_toArray, List.set_cons_zero, List.set_cons_succ, List.getElem_cons_zero, List.getElem_cons_succ, List.getElem_toArray]
  refine wpAnyH_take (i := 12) (v := .int .i64 (M2.s : Int)) rfl (by kernel_rfl) (by kernel_rfl) (by kernel_rfl) (fun _ _ _ h => h) (Or.inl ⟨by rfl, fun w' hSw => by (have hk := HK.out w' hSw; obtain ⟨s0, s1, s2⟩ := hk; go_simp)⟩) hHeld ?_
  simp only [Act.put, List.setIfInBounds_toArray, List.set_cons_zero, List.set_cons_succ, List.getElem_cons_zero, List.getElem_cons_succ, List.getElem_toArray]
  refine wpAnyH_ready (rs := [8, 14]) (by kernel_rfl) (by simp) ?_
  refine AllReadyH.cons rfl (fun K hK => ?_) (AllReadyH.cons rfl (fun K hK => ?_) AllReadyH.nil)
  · go_simp
    refine Calls.mono (HC.out _ hHeld) ?_
    rintro e w2 ⟨a, c, rfl, hf, hcc⟩
    have HCC : Hid (M2.pr.length ≤ c) := hcc
    clear hcc
    have HX : Hid (Below w1.heap.size w1 w2) := (drew_up w1).trans hf.up
    have HF : Hid (Fresh w1 w2 a M2.pr) := ⟨hf.nl, HX.out, hf.new⟩
    clear hf
    refine hK.out _ _ HX.out (fun hHeld => ?_)
    clear hK K
    refine wpAnyH_take (i := 13) (v := .agg #[.int .i64 M2.e, .int .i64 0, .slice a M2.pr.length c, .slice none 0 0, .int .i64 (M2.s : Int)]) rfl (by kernel_rfl) (by kernel_rfl) (by kernel_rfl) (fun _ _ _ h => h) (Or.inl ⟨by rfl, fun w' hSw => by (have hk := HK.out w' hSw; obtain ⟨s0, s1, s2⟩ := hk; go_simp)⟩) hHeld ?_
    simp only [Act.put, List.setIfInBounds_toArray, List.set_cons_zero, List.set_cons_succ, List.getElem_cons_zero, List.getElem_cons_succ, List.getElem_toArray]
    refine wpAnyH_ready (rs := [14]) (by kernel_rfl) (by simp) ?_
    refine AllReadyH.cons rfl (fun K hK => ?_) AllReadyH.nil
    go_simp
    refine hK.out _ _ (Below.alloc HX.out HX.out.size (.cells #[.int .i64 0, .int .i64 0, .slice none 0 0, .slice none 0 0, .int .i64 0] 42)) (fun hHeld => ?_)
    clear hK K
    refine wpAnyH_ready (rs := [15]) (by kernel_rfl) (by simp) ?_
    refine AllReadyH.cons rfl (fun K hK => ?_) AllReadyH.nil
    go_simp
    refine hK.out _ _ (Below.alloc HX.out HX.out.size (.cells #[.int .i64 M2.e, .int .i64 0, .slice a M2.pr.length c, .slice none 0 0, .int .i64 (M2.s : Int)] 42)) (fun hHeld => ?_)
    clear hK K
    refine wpAnyH_done (by kernel_rfl) ?_ _
    have HO : Hid (Ob w w1 (w2.alloc (.cells #[.int .i64 M2.e, .int .i64 0, .slice a M2.pr.length c, .slice none 0 0, .int .i64 (M2.s : Int)] 42)) w.heap.size w2.heap.size a none M2.pr [] #[.int .i64 M2.e, .int .i64 0, .slice a M2.pr.length c, .slice none 0 0, .int .i64 (M2.s : Int)]) := ⟨Below.alloc HX.out HX.out.size _, (HM.out.2.2.1.below HX.out HM.out.2.2.1.lt).alloc _, Op.At.new _ _ _, HM.out.2.2.1.lt, HX.out.size, HF.out.nl.up ((Below.refl _ _).alloc (Nat.le_refl _) _), HF.out.new, fun h0 x e hx => (by obtain ⟨b', f', e', z, _⟩ := HF.out.nl.is h0; rw [e'] at e; cases e; have hx : b' = w2.heap.size := hx; omega), nl_nil _ _, fun h => (by simp at h)⟩
    have HQ : Hid (q < w1.heap.size ∧ ¬ q = w2.heap.size) := ⟨HM.out.1.mr.mat'.2.2.2, fun e => (by have := HM.out.1.mr.mat'.2.2.2; have h2 := HX.out.size; omega)⟩
    clear HX HF hHeld
    generalize w2.alloc (.cells #[.int .i64 M2.e, .int .i64 0, .slice a M2.pr.length c, .slice none 0 0, .int .i64 (M2.s : Int)] 42) = W at *
    generalize w2.heap.size = bx at *
    have ho := HO.out
    have r0 := ho.r.c 0 _ rfl
    have r1 := ho.r.c 1 _ rfl
    have r2 := ho.r.c 2 _ rfl
    have r3 := ho.r.c 3 _ rfl
    have r4 := ho.r.c 4 _ rfl
    have f0 := ho.r.f 0
    have f1 := ho.r.f 1
    have f2 := ho.r.f 2
    have f3 := ho.r.f 3
    have f4 := ho.r.f 4
    have x0 := ho.x.c 0 _ rfl
    have x1 := ho.x.c 1 _ rfl
    have x2 := ho.x.c 2 _ rfl
    have x3 := ho.x.c 3 _ rfl
    have x4 := ho.x.c 4 _ rfl
    have y0 := ho.x.f 0
    have y1 := ho.x.f 1
    have y2 := ho.x.f 2
    have y3 := ho.x.f 3
    have y4 := ho.x.f 4
    have hl0 := ho.r.lt
    have hl1 := ho.x.lt
    have e3 := (HM.out.1.up ho.up).mr.mat'.1
    rw [HE0.out] at e3
    clear ho
    go_wp2_with fail
    have HV : Hid (∀ W2, Below W.heap.size W W2 → W2.cell? ⟨q, 334, none⟩ = some (.int .i64 M2.v)) := fun W2 hb => (by obtain ⟨_, _, _, _, hA⟩ := ((HM.out.1.up HO.out.up).mr.up hb).mat; exact hA.v)
    have HC2 : Hid (∀ W2, Below W.heap.size W W2 → Calls Tryz.prog 33 #[.slice (some ⟨q, 73, none⟩) 256 256] W2 fun e w' => ∃ r c, e = .returned (.slice r 256 c) ∧ Fresh W2 w' r (memL M2)) := fun W2 hb => clone_mem ((HM.out.1.up HO.out.up).mr.up hb)
    refine wp_region_held_drew (S := fun W2 => ∃ Y, Below W.heap.size W Y ∧ Fr (One bx) Y W2) (by kernel_rfl) ⟨_, drew_up _, Fr.refl _ _⟩ (fun hHeld => ?_)
    refine wpAnyH_take (i := 0) (v := ptr q) rfl (by kernel_rfl) (by kernel_rfl) (by kernel_rfl) (fun _ _ _ h => h) (Or.inl ⟨by rfl, fun w' hSw => by (go_simp)⟩) hHeld ?_
    simp only [Act.put, List.setIfInBounds_toArray, List.set_cons_zero, List.set_cons_succ, List.getElem_cons_zero, List.getElem_toArray]
    refine wpAnyH_take (i := 1) (v := ptr q) rfl (by kernel_rfl) (by kernel_rfl) (by kernel_rfl) (fun _ _ _ h => h) (Or.inl ⟨by rfl, fun w' hSw => by (go_simp)⟩) hHeld ?_
    simp only [Act.put, List.setIfInBounds_toArray, List.set_cons_zero, List.set_cons_succ, List.getElem_cons_zero, List.getElem_cons_succ, List.getElem_toArray]
    refine wpAnyH_take (i := 2) (v := .pointer (some ⟨q, 334, none⟩)) rfl (by kernel_rfl) (by kernel_rfl) (by kernel_rfl) (fun _ _ _ h => h) (Or.inl ⟨by rfl, fun w' hSw => by (go_simp)⟩) hHeld ?_
    simp only [Act.put, List.setIfInBounds_toArray, List.set_cons_zero, List.set_cons_succ, List.getElem_cons_zero, List.getElem_cons_succ, List.getElem_toArray]
    refine wpAnyH_take (i := 3) (v := .int .i64 M2.v) rfl (by kernel_rfl) (by kernel_rfl) (by kernel_rfl) (fun _ _ _ h => h) (Or.inl ⟨by rfl, fun w' hSw => by (obtain ⟨Y, hY1, hY2⟩ := hSw; have hv := (hY2.cell (Nat.lt_of_lt_of_le HQ.out.1 (Nat.le_trans HO.out.up.size hY1.size)) HQ.out.2 334).trans (HV.out Y hY1); go_simp)⟩) hHeld ?_
    simp only [Act.put, List.setIfInBounds_toArray, List.set_cons_zero, List.set_cons_succ, List.getElem_cons_zero, List.getElem_cons_succ, List.getElem_toArray]
    refine wpAnyH_take (i := 4) (v := ptr q) rfl (by kernel_rfl) (by kernel_rfl) (by kernel_rfl) (fun _ _ _ h => h) (Or.inl ⟨by rfl, fun w' hSw => by (go_simp)⟩) hHeld ?_
    simp only [Act.put, List.setIfInBounds_toArray, List.set_cons_zero, List.set_cons_succ, List.getElem_cons_zero, List.getElem_cons_succ, List.getElem_toArray]
    refine wpAnyH_take (i := 5) (v := ptr q) rfl (by kernel_rfl) (by kernel_rfl) (by kernel_rfl) (fun _ _ _ h => h) (Or.inl ⟨by rfl, fun w' hSw => by (go_simp)⟩) hHeld ?_
    simp only [Act.put, List.setIfInBounds_toArray, List.set_cons_zero, List.set_cons_succ, List.getElem_cons_zero, List.getElem_cons_succ, List.getElem_toArray]
    refine wpAnyH_take (i := 6) (v := .pointer (some ⟨q, 73, none⟩)) rfl (by kernel_rfl) (by kernel_rfl) (by kernel_rfl) (fun _ _ _ h => h) (Or.inl ⟨by rfl, fun w' hSw => by (go_simp)⟩) hHeld ?_
    simp only [Act.put, List.setIfInBounds_toArray, List.set_cons_zero, List.set_cons_succ, List.getElem_cons_zero, List.getElem_cons_succ, List.getElem_toArray]
    refine wpAnyH_take (i := 7) (v := .slice (some ⟨q, 73, none⟩) 256 256) rfl (by kernel_rfl) (by kernel_rfl) (by kernel_rfl) (fun _ _ _ h => h) (Or.inl ⟨by rfl, fun w' hSw => by (go_simp)⟩) hHeld ?_
    simp only [Act.put, List.setIfInBounds_toArray, List.set_cons_zero, List.set_cons_succ, List.getElem_cons_zero, List.getElem_cons_succ, List.getElem_toArray]
    refine wpAnyH_take (i := 9) (v := .pointer (some ⟨bx, 1, none⟩)) rfl (by kernel_rfl) (by kernel_rfl) (by kernel_rfl) (fun _ _ _ h => h) (Or.inl ⟨by rfl, fun w' hSw => by (go_simp)⟩) hHeld ?_
    simp only [Act.put, List.setIfInBounds_toArray, List.set_cons_zero, List.set_cons_succ, List.getElem_cons_zero, List.getElem_cons_succ, List.getElem_toArray]
    refine wpAnyH_ready (rs := [8]) (by kernel_rfl) (by simp) ?_
    refine AllReadyH.cons rfl (fun K hK => ?_) AllReadyH.nil
    go_simp
    refine Calls.mono (HC2.out _ (drew_up _)) ?_
    rintro e w3 ⟨m, d, rfl, hf⟩
    have HW : Hid (Below W.heap.size W w3) := (drew_up W).trans hf.up
    have HF : Hid (Fresh W w3 m (memL M2)) := ⟨hf.nl, HW.out, hf.new⟩
    clear hf HC2
    refine hK.out _ _ ⟨_, HW.out, Fr.refl _ _⟩ (fun hHeld => ?_)
    clear hK K r0 r1 r2 r3 r4 f0 f1 f2 f3 f4 x0 x1 x2 x3 x4 y0 y1 y2 y3 y4 e3
    have ho := HO.out
    have hx := ho.x.below HW.out hl1
    have x0 := hx.c 0 _ rfl
    have x1 := hx.c 1 _ rfl
    have x2 := hx.c 2 _ rfl
    have x3 := hx.c 3 _ rfl
    have x4 := hx.c 4 _ rfl
    have y0 := hx.f 0
    have y1 := hx.f 1
    have y2 := hx.f 2
    have y3 := hx.f 3
    have y4 := hx.f 4
    have hl3 := hx.lt
    clear hx ho
    refine wpAnyH_ready (rs := [10]) (by kernel_rfl) (by simp) ?_
    refine AllReadyH.cons rfl (fun K hK => ?_) AllReadyH.nil
    go_simp
    refine hK.out _ _ ⟨_, HW.out, (Fr.refl (One bx) w3).setCell (.inr rfl) _ _⟩ (fun hHeld => ?_)
    clear hK K
    refine wpAnyH_take (i := 11) (v := .pointer (some ⟨bx, 3, none⟩)) rfl (by kernel_rfl) (by kernel_rfl) (by kernel_rfl) (fun _ _ _ h => h) (Or.inl ⟨by rfl, fun w' hSw => by (go_simp)⟩) hHeld ?_
    simp only [Act.put, List.setIfInBounds_toArray, List.set_cons_zero, List.set_cons_succ, List.getElem_cons_zero, List.getElem_cons_succ, List.getElem_toArray]
    refine wpAnyH_ready (rs := [12]) (by kernel_rfl) (by simp) ?_
    refine AllReadyH.cons rfl (fun K hK => ?_) AllReadyH.nil
    go_simp
    refine hK.out _ _ ⟨_, HW.out, ((Fr.refl (One bx) w3).setCell (.inr rfl) _ _).setCell (.inr rfl) _ _⟩ (fun hHeld => ?_)
    clear hK K
    refine wpAnyH_done (by kernel_rfl) ?_ _
    have hF2 : Fr (One bx) w3 ((w3.setCell ⟨bx, 1, none⟩ (.int .i64 M2.v)).setCell ⟨bx, 3, none⟩ (.slice m 256 d)) := ((Fr.refl (One bx) w3).setCell (.inr rfl) _ _).setCell (.inr rfl) _ _
    have HO2 : Hid (Ob w w1 ((w3.setCell ⟨bx, 1, none⟩ (.int .i64 M2.v)).setCell ⟨bx, 3, none⟩ (.slice m 256 d)) w.heap.size bx a m M2.pr (memL M2) #[.int .i64 M2.e, .int .i64 M2.v, .slice a M2.pr.length c, .slice m 256 d, .int .i64 (M2.s : Int)]) := HO.out.mem HW.out hF2 HF.out (at_set' (at_set' (HO.out.x.below HW.out HO.out.x.lt) (by simp) _) (by simp) _)
    clear HW HF hHeld hF2 x0 x1 x2 x3 x4 y0 y1 y2 y3 y4 HO HV hl0 hl1 hl3
    generalize (w3.setCell ⟨bx, 1, none⟩ (.int .i64 M2.v)).setCell ⟨bx, 3, none⟩ (.slice m 256 d) = W5 at *
    have ho := HO2.out
    have r0 := ho.r.c 0 _ rfl
    have r1 := ho.r.c 1 _ rfl
    have r2 := ho.r.c 2 _ rfl
    have r3 := ho.r.c 3 _ rfl
    have r4 := ho.r.c 4 _ rfl
    have f0 := ho.r.f 0
    have f1 := ho.r.f 1
    have f2 := ho.r.f 2
    have f3 := ho.r.f 3
    have f4 := ho.r.f 4
    have x0 := ho.x.c 0 _ rfl
    have x1 := ho.x.c 1 _ rfl
    have x2 := ho.x.c 2 _ rfl
    have x3 := ho.x.c 3 _ rfl
    have x4 := ho.x.c 4 _ rfl
    have y0 := ho.x.f 0
    have y1 := ho.x.f 1
    have y2 := ho.x.f 2
    have y3 := ho.x.f 3
    have y4 := ho.x.f 4
    have hl0 := ho.r.lt
    have hl1 := ho.x.lt
    clear ho
    go_wp2_with fail
    obtain ⟨g1, g2, g3, g4, g5⟩ := ob_end HO2.out rfl HM.out.1 HM.out.2.1 HM.out.2.2.2.1 HM.out.2.2.2.2
    have c0 := g1.c 0 _ rfl
    have c1 := g1.c 1 _ rfl
    have c2 := g1.c 2 _ rfl
    have c3 := g1.c 3 _ rfl
    have c4 := g1.c 4 _ rfl
    refine bodyPost_ret (v := .agg #[.int .i64 M2.e, .int .i64 M2.v, .slice a M2.pr.length c, .slice m 256 d, .int .i64 (M2.s : Int)]) (by simp [results, Tryz.results17, go_sem, c0, c1, c2, c3, c4]) rfl ⟨a, m, c, d, T1, ?_, g2, ?_, g4, g5, HCC.out⟩
    · unfold outV; rw [if_pos HE0.out, if_pos HE0.out]
    · unfold outMem; rw [if_pos HE0.out]; exact g3
  · go_simp
    refine hK.out _ _ (below_ad w1 (.cells oz 42)) (fun hHeld => ?_)
    clear hK K
    refine wpAnyH_ready (rs := [8]) (by kernel_rfl) (by simp) ?_
    refine AllReadyH.cons rfl (fun K hK => ?_) AllReadyH.nil
    go_simp
    refine Calls.mono (HC.out _ hHeld) ?_
    rintro e w2 ⟨a, c, rfl, hf, hcc⟩
    have HCC : Hid (M2.pr.length ≤ c) := hcc
    clear hcc
    have HX : Hid (Below w1.heap.size w1 w2) := (below_ad w1 _).trans (hf.up.mono (by simp [World.drew]))
    have hxb := (Op.At.new w1 oz 42).below (w' := w2) ((drew_up _).trans hf.up) (by simp)
    have HF : Hid (NL w2 a M2.pr ∧ (0 < M2.pr.length → ∀ x, a = some x → w1.heap.size < x.block) ∧ Op.At w2 w1.heap.size oz) := ⟨hf.nl, fun h0 x e => Nat.lt_of_lt_of_le (by simp [World.drew]) (hf.new h0 x e), hxb⟩
    have z0 := hxb.c 0 _ rfl
    have z1 := hxb.c 1 _ rfl
    have z2 := hxb.c 2 _ rfl
    have z3 := hxb.c 3 _ rfl
    have z4 := hxb.c 4 _ rfl
    have g0 := hxb.f 0
    have g1 := hxb.f 1
    have g2 := hxb.f 2
    have g3 := hxb.f 3
    have g4 := hxb.f 4
    have hl2 := hxb.lt
    clear hf hxb
    refine hK.out _ _ HX.out (fun hHeld => ?_)
    clear hK K
    refine wpAnyH_take (i := 13) (v := .agg #[.int .i64 M2.e, .int .i64 0, .slice a M2.pr.length c, .slice none 0 0, .int .i64 (M2.s : Int)]) rfl (by kernel_rfl) (by kernel_rfl) (by kernel_rfl) (fun _ _ _ h => h) (Or.inl ⟨by rfl, fun w' hSw => by (have hk := HK.out w' hSw; obtain ⟨s0, s1, s2⟩ := hk; go_simp)⟩) hHeld ?_
    simp only [Act.put, List.setIfInBounds_toArray, List.set_cons_zero, List.set_cons_succ, List.getElem_cons_zero, List.getElem_cons_succ, List.getElem_toArray]
    refine wpAnyH_ready (rs := [15]) (by kernel_rfl) (by simp) ?_
    refine AllReadyH.cons rfl (fun K hK => ?_) AllReadyH.nil
    go_simp
    have HS2 : Hid (Below w1.heap.size w1 (((((w2.setCell ⟨w1.heap.size, 0, none⟩ (.int .i64 M2.e)).setCell ⟨w1.heap.size, 1, none⟩ (.int .i64 0)).setCell ⟨w1.heap.size, 2, none⟩ (.slice a M2.pr.length c)).setCell ⟨w1.heap.size, 3, none⟩ (.slice none 0 0)).setCell ⟨w1.heap.size, 4, none⟩ (.int .i64 (M2.s : Int)))) := ((((HX.out.setCell (by show w1.heap.size ≤ w1.heap.size; omega) _).setCell (by show w1.heap.size ≤ w1.heap.size; omega) _).setCell (by show w1.heap.size ≤ w1.heap.size; omega) _).setCell (by show w1.heap.size ≤ w1.heap.size; omega) _).setCell (by show w1.heap.size ≤ w1.heap.size; omega) _
    refine hK.out _ _ HS2.out (fun hHeld => ?_)
    clear hK K
    refine wpAnyH_done (by kernel_rfl) ?_ _
    have hF5 : Fr (One w1.heap.size) w2 (((((w2.setCell ⟨w1.heap.size, 0, none⟩ (.int .i64 M2.e)).setCell ⟨w1.heap.size, 1, none⟩ (.int .i64 0)).setCell ⟨w1.heap.size, 2, none⟩ (.slice a M2.pr.length c)).setCell ⟨w1.heap.size, 3, none⟩ (.slice none 0 0)).setCell ⟨w1.heap.size, 4, none⟩ (.int .i64 (M2.s : Int))) := (((((Fr.refl (One w1.heap.size) w2).setCell (.inr rfl) _ _).setCell (.inr rfl) _ _).setCell (.inr rfl) _ _).setCell (.inr rfl) _ _).setCell (.inr rfl) _ _
    have HO : Hid (Ob w w1 (((((w2.setCell ⟨w1.heap.size, 0, none⟩ (.int .i64 M2.e)).setCell ⟨w1.heap.size, 1, none⟩ (.int .i64 0)).setCell ⟨w1.heap.size, 2, none⟩ (.slice a M2.pr.length c)).setCell ⟨w1.heap.size, 3, none⟩ (.slice none 0 0)).setCell ⟨w1.heap.size, 4, none⟩ (.int .i64 (M2.s : Int))) w.heap.size w1.heap.size a none M2.pr [] #[.int .i64 M2.e, .int .i64 0, .slice a M2.pr.length c, .slice none 0 0, .int .i64 (M2.s : Int)]) := ⟨HS2.out, HM.out.2.2.1.below HS2.out HM.out.2.2.1.lt, at_set' (at_set' (at_set' (at_set' (at_set' HF.out.2.2 (by simp) _) (by simp) _) (by simp) _) (by simp) _) (by simp) _, HM.out.2.2.1.lt, Nat.le_refl _, HF.out.1.fr hF5 (fun h0 x e hx => (by have := HF.out.2.1 h0 x e; have hx : x.block = w1.heap.size := hx; omega)), fun h0 x e => Nat.le_of_lt (HF.out.2.1 h0 x e), fun h0 x e hx => (by have := HF.out.2.1 h0 x e; omega), nl_nil _ _, fun h => (by simp at h)⟩
    have HQ : Hid (q < w1.heap.size ∧ ¬ q = w1.heap.size) := ⟨HM.out.1.mr.mat'.2.2.2, fun e => (by have := HM.out.1.mr.mat'.2.2.2; omega)⟩
    clear HX HF hHeld HS2 hF5 z0 z1 z2 z3 z4 g0 g1 g2 g3 g4 hl2
    generalize ((((w2.setCell ⟨w1.heap.size, 0, none⟩ (.int .i64 M2.e)).setCell ⟨w1.heap.size, 1, none⟩ (.int .i64 0)).setCell ⟨w1.heap.size, 2, none⟩ (.slice a M2.pr.length c)).setCell ⟨w1.heap.size, 3, none⟩ (.slice none 0 0)).setCell ⟨w1.heap.size, 4, none⟩ (.int .i64 (M2.s : Int)) = W at *
    have ho := HO.out
    have r0 := ho.r.c 0 _ rfl
    have r1 := ho.r.c 1 _ rfl
    have r2 := ho.r.c 2 _ rfl
    have r3 := ho.r.c 3 _ rfl
    have r4 := ho.r.c 4 _ rfl
    have f0 := ho.r.f 0
    have f1 := ho.r.f 1
    have f2 := ho.r.f 2
    have f3 := ho.r.f 3
    have f4 := ho.r.f 4
    have x0 := ho.x.c 0 _ rfl
    have x1 := ho.x.c 1 _ rfl
    have x2 := ho.x.c 2 _ rfl
    have x3 := ho.x.c 3 _ rfl
    have x4 := ho.x.c 4 _ rfl
    have y0 := ho.x.f 0
    have y1 := ho.x.f 1
    have y2 := ho.x.f 2
    have y3 := ho.x.f 3
    have y4 := ho.x.f 4
    have hl0 := ho.r.lt
    have hl1 := ho.x.lt
    have e3 := (HM.out.1.up ho.up).mr.mat'.1
    rw [HE0.out] at e3
    clear ho
    go_wp2_with fail
    have HV : Hid (∀ W2, Below W.heap.size W W2 → W2.cell? ⟨q, 334, none⟩ = some (.int .i64 M2.v)) := fun W2 hb => (by obtain ⟨_, _, _, _, hA⟩ := ((HM.out.1.up HO.out.up).mr.up hb).mat; exact hA.v)
    have HC2 : Hid (∀ W2, Below W.heap.size W W2 → Calls Tryz.prog 33 #[.slice (some ⟨q, 73, none⟩) 256 256] W2 fun e w' => ∃ r c, e = .returned (.slice r 256 c) ∧ Fresh W2 w' r (memL M2)) := fun W2 hb => clone_mem ((HM.out.1.up HO.out.up).mr.up hb)
    refine wp_region_held_drew (S := fun W2 => ∃ Y, Below W.heap.size W Y ∧ Fr (One w1.heap.size) Y W2) (by kernel_rfl) ⟨_, drew_up _, Fr.refl _ _⟩ (fun hHeld => ?_)
    refine wpAnyH_take (i := 0) (v := ptr q) rfl (by kernel_rfl) (by kernel_rfl) (by kernel_rfl) (fun _ _ _ h => h) (Or.inl ⟨by rfl, fun w' hSw => by (go_simp)⟩) hHeld ?_
    simp only [Act.put, List.setIfInBounds_toArray, List.set_cons_zero, List.set_cons_succ, List.getElem_cons_zero, List.getElem_toArray]
    refine wpAnyH_take (i := 1) (v := ptr q) rfl (by kernel_rfl) (by kernel_rfl) (by kernel_rfl) (fun _ _ _ h => h) (Or.inl ⟨by rfl, fun w' hSw => by (go_simp)⟩) hHeld ?_
    simp only [Act.put, List.setIfInBounds_toArray, List.set_cons_zero, List.set_cons_succ, List.getElem_cons_zero, List.getElem_cons_succ, List.getElem_toArray]
    refine wpAnyH_take (i := 2) (v := .pointer (some ⟨q, 334, none⟩)) rfl (by kernel_rfl) (by kernel_rfl) (by kernel_rfl) (fun _ _ _ h => h) (Or.inl ⟨by rfl, fun w' hSw => by (go_simp)⟩) hHeld ?_
    simp only [Act.put, List.setIfInBounds_toArray, List.set_cons_zero, List.set_cons_succ, List.getElem_cons_zero, List.getElem_cons_succ, List.getElem_toArray]
    refine wpAnyH_take (i := 3) (v := .int .i64 M2.v) rfl (by kernel_rfl) (by kernel_rfl) (by kernel_rfl) (fun _ _ _ h => h) (Or.inl ⟨by rfl, fun w' hSw => by (obtain ⟨Y, hY1, hY2⟩ := hSw; have hv := (hY2.cell (Nat.lt_of_lt_of_le HQ.out.1 (Nat.le_trans HO.out.up.size hY1.size)) HQ.out.2 334).trans (HV.out Y hY1); go_simp)⟩) hHeld ?_
    simp only [Act.put, List.setIfInBounds_toArray, List.set_cons_zero, List.set_cons_succ, List.getElem_cons_zero, List.getElem_cons_succ, List.getElem_toArray]
    refine wpAnyH_take (i := 4) (v := ptr q) rfl (by kernel_rfl) (by kernel_rfl) (by kernel_rfl) (fun _ _ _ h => h) (Or.inl ⟨by rfl, fun w' hSw => by (go_simp)⟩) hHeld ?_
    simp only [Act.put, List.setIfInBounds_toArray, List.set_cons_zero, List.set_cons_succ, List.getElem_cons_zero, List.getElem_cons_succ, List.getElem_toArray]
    refine wpAnyH_take (i := 5) (v := ptr q) rfl (by kernel_rfl) (by kernel_rfl) (by kernel_rfl) (fun _ _ _ h => h) (Or.inl ⟨by rfl, fun w' hSw => by (go_simp)⟩) hHeld ?_
    simp only [Act.put, List.setIfInBounds_toArray, List.set_cons_zero, List.set_cons_succ, List.getElem_cons_zero, List.getElem_cons_succ, List.getElem_toArray]
    refine wpAnyH_take (i := 6) (v := .pointer (some ⟨q, 73, none⟩)) rfl (by kernel_rfl) (by kernel_rfl) (by kernel_rfl) (fun _ _ _ h => h) (Or.inl ⟨by rfl, fun w' hSw => by (go_simp)⟩) hHeld ?_
    simp only [Act.put, List.setIfInBounds_toArray, List.set_cons_zero, List.set_cons_succ, List.getElem_cons_zero, List.getElem_cons_succ, List.getElem_toArray]
    refine wpAnyH_take (i := 7) (v := .slice (some ⟨q, 73, none⟩) 256 256) rfl (by kernel_rfl) (by kernel_rfl) (by kernel_rfl) (fun _ _ _ h => h) (Or.inl ⟨by rfl, fun w' hSw => by (go_simp)⟩) hHeld ?_
    simp only [Act.put, List.setIfInBounds_toArray, List.set_cons_zero, List.set_cons_succ, List.getElem_cons_zero, List.getElem_cons_succ, List.getElem_toArray]
    refine wpAnyH_take (i := 9) (v := .pointer (some ⟨w1.heap.size, 1, none⟩)) rfl (by kernel_rfl) (by kernel_rfl) (by kernel_rfl) (fun _ _ _ h => h) (Or.inl ⟨by rfl, fun w' hSw => by (go_simp)⟩) hHeld ?_
    simp only [Act.put, List.setIfInBounds_toArray, List.set_cons_zero, List.set_cons_succ, List.getElem_cons_zero, List.getElem_cons_succ, List.getElem_toArray]
    refine wpAnyH_ready (rs := [8]) (by kernel_rfl) (by simp) ?_
    refine AllReadyH.cons rfl (fun K hK => ?_) AllReadyH.nil
    go_simp
    refine Calls.mono (HC2.out _ (drew_up _)) ?_
    rintro e w3 ⟨m, d, rfl, hf⟩
    have HW : Hid (Below W.heap.size W w3) := (drew_up W).trans hf.up
    have HF : Hid (Fresh W w3 m (memL M2)) := ⟨hf.nl, HW.out, hf.new⟩
    clear hf HC2
    refine hK.out _ _ ⟨_, HW.out, Fr.refl _ _⟩ (fun hHeld => ?_)
    clear hK K r0 r1 r2 r3 r4 f0 f1 f2 f3 f4 x0 x1 x2 x3 x4 y0 y1 y2 y3 y4 e3
    have ho := HO.out
    have hx := ho.x.below HW.out hl1
    have x0 := hx.c 0 _ rfl
    have x1 := hx.c 1 _ rfl
    have x2 := hx.c 2 _ rfl
    have x3 := hx.c 3 _ rfl
    have x4 := hx.c 4 _ rfl
    have y0 := hx.f 0
    have y1 := hx.f 1
    have y2 := hx.f 2
    have y3 := hx.f 3
    have y4 := hx.f 4
    have hl3 := hx.lt
    clear hx ho
    refine wpAnyH_ready (rs := [10]) (by kernel_rfl) (by simp) ?_
    refine AllReadyH.cons rfl (fun K hK => ?_) AllReadyH.nil
    go_simp
    refine hK.out _ _ ⟨_, HW.out, (Fr.refl (One w1.heap.size) w3).setCell (.inr rfl) _ _⟩ (fun hHeld => ?_)
    clear hK K
    refine wpAnyH_take (i := 11) (v := .pointer (some ⟨w1.heap.size, 3, none⟩)) rfl (by kernel_rfl) (by kernel_rfl) (by kernel_rfl) (fun _ _ _ h => h) (Or.inl ⟨by rfl, fun w' hSw => by (go_simp)⟩) hHeld ?_
    simp only [Act.put, List.setIfInBounds_toArray, List.set_cons_zero, List.set_cons_succ, List.getElem_cons_zero, List.getElem_cons_succ, List.getElem_toArray]
    refine wpAnyH_ready (rs := [12]) (by kernel_rfl) (by simp) ?_
    refine AllReadyH.cons rfl (fun K hK => ?_) AllReadyH.nil
    go_simp
    refine hK.out _ _ ⟨_, HW.out, ((Fr.refl (One w1.heap.size) w3).setCell (.inr rfl) _ _).setCell (.inr rfl) _ _⟩ (fun hHeld => ?_)
    clear hK K
    refine wpAnyH_done (by kernel_rfl) ?_ _
    have hF2 : Fr (One w1.heap.size) w3 ((w3.setCell ⟨w1.heap.size, 1, none⟩ (.int .i64 M2.v)).setCell ⟨w1.heap.size, 3, none⟩ (.slice m 256 d)) := ((Fr.refl (One w1.heap.size) w3).setCell (.inr rfl) _ _).setCell (.inr rfl) _ _
    have HO2 : Hid (Ob w w1 ((w3.setCell ⟨w1.heap.size, 1, none⟩ (.int .i64 M2.v)).setCell ⟨w1.heap.size, 3, none⟩ (.slice m 256 d)) w.heap.size w1.heap.size a m M2.pr (memL M2) #[.int .i64 M2.e, .int .i64 M2.v, .slice a M2.pr.length c, .slice m 256 d, .int .i64 (M2.s : Int)]) := HO.out.mem HW.out hF2 HF.out (at_set' (at_set' (HO.out.x.below HW.out HO.out.x.lt) (by simp) _) (by simp) _)
    clear HW HF hHeld hF2 x0 x1 x2 x3 x4 y0 y1 y2 y3 y4 HO HV hl0 hl1 hl3
    generalize (w3.setCell ⟨w1.heap.size, 1, none⟩ (.int .i64 M2.v)).setCell ⟨w1.heap.size, 3, none⟩ (.slice m 256 d) = W5 at *
    have ho := HO2.out
    have r0 := ho.r.c 0 _ rfl
    have r1 := ho.r.c 1 _ rfl
    have r2 := ho.r.c 2 _ rfl
    have r3 := ho.r.c 3 _ rfl
    have r4 := ho.r.c 4 _ rfl
    have f0 := ho.r.f 0
    have f1 := ho.r.f 1
    have f2 := ho.r.f 2
    have f3 := ho.r.f 3
    have f4 := ho.r.f 4
    have x0 := ho.x.c 0 _ rfl
    have x1 := ho.x.c 1 _ rfl
    have x2 := ho.x.c 2 _ rfl
    have x3 := ho.x.c 3 _ rfl
    have x4 := ho.x.c 4 _ rfl
    have y0 := ho.x.f 0
    have y1 := ho.x.f 1
    have y2 := ho.x.f 2
    have y3 := ho.x.f 3
    have y4 := ho.x.f 4
    have hl0 := ho.r.lt
    have hl1 := ho.x.lt
    clear ho
    go_wp2_with fail
    obtain ⟨g1, g2, g3, g4, g5⟩ := ob_end HO2.out rfl HM.out.1 HM.out.2.1 HM.out.2.2.2.1 HM.out.2.2.2.2
    have c0 := g1.c 0 _ rfl
    have c1 := g1.c 1 _ rfl
    have c2 := g1.c 2 _ rfl
    have c3 := g1.c 3 _ rfl
    have c4 := g1.c 4 _ rfl
    refine bodyPost_ret (v := .agg #[.int .i64 M2.e, .int .i64 M2.v, .slice a M2.pr.length c, .slice m 256 d, .int .i64 (M2.s : Int)]) (by simp [results, Tryz.results17, go_sem, c0, c1, c2, c3, c4]) rfl ⟨a, m, c, d, T1, ?_, g2, ?_, g4, g5, HCC.out⟩
    · unfold outV; rw [if_pos HE0.out, if_pos HE0.out]
    · unfold outMem; rw [if_pos HE0.out]; exact g3
end
end Go.Proofs.YtddcndlogoajkaaGreatDoor.L8.Sm
