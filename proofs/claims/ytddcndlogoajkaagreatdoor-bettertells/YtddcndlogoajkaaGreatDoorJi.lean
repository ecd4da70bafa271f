/- The document's answer on an operation and what is known (op), where it does not fold; read off the program by the walk. Conditions: said at each. -/
import Derived.Test.YtddcndlogoajkaaGreatDoorJd
namespace Go.Proofs.YtddcndlogoajkaaGreatDoor.L8.Bt
open Go.ChangeShapes Go.WideShapes Go.ChangeAt Go.RowKit Go.Great
open _root_.Go.Proofs.YtddcndlogoajkaaGreatDoor.L8.Op _root_.Go.Proofs.YtddcndlogoajkaaGreatDoor.L8.So
open _root_.Go.Proofs.YtddcndlogoajkaaGreatDoor.L8.Lv (rdL wOf PsOk)
set_option maxRecDepth 20000

set_option maxHeartbeats 32000000 in
theorem op_r0 (K : Kn) (M : Nat → Int) (o : O) (k : Op.K) (w : World) (hS : Say K M) (ho : o.Ok) (hp : okP o = true) (hk : kOf o.op = some k) (hf : okF k o = true) (ha : o.a < 32) (hb : o.b < 32) (hfd : fdB K o = false) (hM : ∀ r, -9223372036854775808 ≤ M r ∧ M r ≤ 9223372036854775807) (hw : wrB o = true) (h1 : ¬ o.op = 1) (h2 : 2 ≤ o.op) (h14 : o.op ≤ 14) (hKa : (K o.a.toNat).isSome = true) (hkB : k.B = false) :
    Calls Tryz.prog 41 #[o.val, .agg (rA K M)] w fun e w' => e = .returned (.tuple #[o.val, .agg (rA (ntO K o) (ntN M o))]) ∧ Below w.heap.size w w' := by
  have HF : Hid (∀ w, Calls Tryz.prog 67 #[.int .i8 o.op] w fun e w' => e = .returned (.tuple #[.agg #[.string k.s, .int .i64 k.cls, .bool k.D, .bool k.A, .bool k.B, .bool k.N, .bool k.I], .bool true]) ∧ Below w.heap.size w w') := fun w => of_yes o.op k w hk
  obtain ⟨na, hna⟩ : ∃ n : Nat, o.a = n := ⟨o.a.toNat, by have := ho.a0; omega⟩
  obtain ⟨nb, hnb⟩ : ∃ n : Nat, o.b = n := ⟨o.b.toNat, by have := ho.b0; omega⟩
  obtain ⟨nd, hnd'⟩ : ∃ n : Nat, o.d = n := ⟨o.d.toNat, by have := ho.d0; omega⟩
  have hop : 1 ≤ o.op ∧ o.op ≤ 17 := by
    have h := hp
    unfold okP at h
    simp only [Bool.and_eq_true, decide_eq_true_eq] at h
    exact ⟨h.1.1, h.1.2⟩
  have hai : (na : Int) < 32 := by omega
  have hbi : (nb : Int) < 32 := by omega
  have hkD : k.D = true := by rw [← wr_yes hk hf]; exact hw
  have hd32 : o.d < 32 := by
    have hh := hf
    simp only [okF, Bool.and_eq_true] at hh
    have h8 := hh.1.1.1
    rw [hkD] at h8
    simpa [rH] using h8
  have hnd : nd < 32 := by omega
  have hndi : (nd : Int) < 32 := by omega
  have HW : Hid (∀ w, Calls Tryz.prog 44 #[o.val] w fun e w' => e = .returned (.tuple #[.int .u8 nd, .bool true]) ∧ Below w.heap.size w w') := fun w => by
    have h := refWrites_any o w ho
    rw [show wrD o = (nd : Int) by unfold wrD; rw [if_pos hw, hnd'], hw] at h
    exact h
  have HBr : Hid (∀ w, Calls Tryz.prog 69 #[o.val] w fun e w' => e = .returned o.val ∧ Below w.heap.size w w') := fun w => bare_any o k w hk (zr_of hf) hop.1 hop.2
  have hKV : Hid (ntO K o = putK K nd none ∧ ntN M o = putN M nd o.im) := by
    unfold ntO ntN
    rw [if_pos hw, if_pos hw, if_neg h1, hnd']
    exact ⟨rfl, rfl⟩
  clear hkD
  obtain ⟨op, d, a, b, im⟩ := o
  simp only at hna hnb hnd'
  subst hna
  subst hnb
  subst hnd'
  have HB0 : Hid _ := fun A Z h1 h2 => Rb.start w #[.int .i8 op, .int .u8 nd, .int .u8 na, .int .u8 nb, .int .i64 im] A Z K M h1 h2
  have HkB : Hid _ := hkB
  clear hkB
  generalize hA : rA K M = A at *
  go_enter Tryz.func41, Tryz.ntmps41
  apply wp_seq_k; intro K0 hK0
  apply wp_region_lit
  refine wpList_boxTo rfl 51 (.tmp 0) rfl (some 2) rfl w.heap.size rfl #[.int .i8 op, .int .u8 nd, .int .u8 na, .int .u8 nb, .int .i64 im] rfl ?_
  refine wpList_boxTo rfl 58 (.tmp 1) rfl (some 3) rfl (w.heap.size + 1) (by simp) A rfl ?_
  refine wpList_allocTo rfl (some 4) rfl (.pointer (some ⟨((w.alloc (.cells #[.int .i8 op, .int .u8 nd, .int .u8 na, .int .u8 nb, .int .i64 im] 51)).alloc (.cells A 58)).heap.size, 0, none⟩)) (.cells #[.int .i8 0, .int .u8 0, .int .u8 0, .int .u8 0, .int .i64 0] 51) (by kernel_rfl) ?_
  refine wpList_allocTo rfl (some 5) rfl (.pointer (some ⟨(((w.alloc (.cells #[.int .i8 op, .int .u8 nd, .int .u8 na, .int .u8 nb, .int .i64 im] 51)).alloc (.cells A 58)).alloc (.cells #[.int .i8 0, .int .u8 0, .int .u8 0, .int .u8 0, .int .i64 0] 51)).heap.size, 0, none⟩)) (.cells (rA kn0 fun _ => 0) 58) (by kernel_rfl) ?_
  refine wpList_nil ?_
  refine hK0 _ _ ?_
  clear hK0 K0
  have HB := HB0.out A (rA kn0 fun _ => 0) rfl rfl
  generalize (((w.alloc (.cells #[.int .i8 op, .int .u8 nd, .int .u8 na, .int .u8 nb, .int .i64 im] 51)).alloc (.cells A 58)).alloc (.cells #[.int .i8 0, .int .u8 0, .int .u8 0, .int .u8 0, .int .i64 0] 51)).alloc (.cells (rA kn0 fun _ => 0) 58) = W0 at *
  simp only [Act.put, List.setIfInBounds_toArray, List.set_cons_zero, List.set_cons_succ, World.size_alloc, Nat.add_assoc, Nat.reduceAdd]
  obtain ⟨o0, o1, o2, o3, o4⟩ := HB.o.o5
  have H1 : Hid _ := HB
  clear HB HB0
  go_upto_region 2 with (first | (go_at_call 67; refine Calls.mono (HF.out _) ?_; rintro e w1 ⟨rfl, hb⟩; have H2 : Hid (Rb w w1 #[.int .i8 op, .int .u8 nd, .int .u8 na, .int .u8 nb, .int .i64 im] K M) := H1.out.up hb; clear hb H1 HF o0 o1 o2 o3 o4))
  generalize hy : w1.heap.size = y at *
  have hyz : w.heap.size + 4 ≤ y := by have := H2.out.q.lt; omega
  have H3 : Hid (Rb w (w1.alloc (.cells #[.string k.s, .int .i64 k.cls, .bool k.D, .bool k.A, .bool k.B, .bool k.N, .bool k.I] 120)) #[.int .i8 op, .int .u8 nd, .int .u8 na, .int .u8 nb, .int .i64 im] K M ∧ Op.At (w1.alloc (.cells #[.string k.s, .int .i64 k.cls, .bool k.D, .bool k.A, .bool k.B, .bool k.N, .bool k.I] 120)) y #[.string k.s, .int .i64 k.cls, .bool k.D, .bool k.A, .bool k.B, .bool k.N, .bool k.I]) := ⟨H2.out.up (below_al _), hy ▸ Op.At.new w1 _ _⟩
  generalize w1.alloc (.cells #[.string k.s, .int .i64 k.cls, .bool k.D, .bool k.A, .bool k.B, .bool k.N, .bool k.I] 120) = w5 at *
  clear H2 hy w1
  obtain ⟨o0, o1, o2, o3, o4⟩ := H3.out.1.o.o5
  have r4 : w5.cell? ⟨y, 4, none⟩ = some (.bool k.B) := H3.out.2.c 4 _ rfl
  have ca := H3.out.1.k.b (r := na) (by omega)
  have cb := H3.out.1.k.b (r := nb) (by omega)
  have va := H3.out.1.k.n (r := na) (by omega)
  have vb := H3.out.1.k.n (r := nb) (by omega)
  have h2' : (2 : Int) ≤ op := h2
  have h14' : op ≤ (14 : Int) := h14
  have hop1 : (op == 1) = false := by have : ¬ op = 1 := by omega
                                      simpa using this
  try simp only at hop hKV
  have hdb : docB K M k ⟨op, nd, na, nb, im⟩ = false := by rw [← doc_folds hS hk hf ho]; exact hfd
  have HRk : Hid _ := fun w => rf_any op (M na) (M nb) w (hM na).1 (hM na).2
  have HN : Hid ((K na).isSome = true → (!k.B || (K nb).isSome) = true → rkE op (M nb) = 0 → -2147483648 ≤ rkV op (M na) (M nb) → rkV op (M na) (M nb) ≤ 2147483647 → False) := fun g1 g2 g3 g4 g5 => by
    have : docB K M k ⟨op, nd, na, nb, im⟩ = true := by
      unfold docB
      simp only [Bool.and_eq_true, decide_eq_true_eq]
      exact ⟨⟨⟨⟨⟨⟨h2', h14'⟩, g1⟩, g2⟩, g3⟩, g4⟩, g5⟩
    rw [hdb] at this; cases this
  clear hp hk hf ho ha hb hfd hM hS hw hdb h2 h14 h1
  replace hKa : (K na).isSome = true := hKa
  have HG : Hid (rkE op (M nb) = 0 → -2147483648 ≤ rkV op (M na) (M nb) → rkV op (M na) (M nb) ≤ 2147483647 → False) := HN.out hKa (by rw [HkB.out]; simp)
  rw [hKa] at ca
  rw [HkB.out] at r4
  clear HkB
  clear HN
  generalize rkV op (M na) (M nb) = v at *
  generalize rkE op (M nb) = re at *
  generalize M na = ma at *
  generalize M nb = mb at *
  by_cases hre : re = 0
  · subst hre
    by_cases hv1 : -2147483648 ≤ v
    · have hv2 : ¬ v ≤ 2147483647 := fun q => HG.out rfl hv1 q
      clear HG
      go_upto_region 3 with fail
      go_quiet (first | (go_at_call 68; refine Calls.quiet_of_same (HRk.out _)))
      rename Nat => n1
      have H4 : Hid _ := H3.out.1.up (drewN_below (Below.refl _ _) n1)
      clear o0 o1 o2 o3 o4 r4 ca cb va vb H3 HRk
      generalize w5.drewN n1 = w6 at *
      clear w5
      obtain ⟨o0, o1, o2, o3, o4⟩ := H4.out.o.o5
      go_upto_region 6 with fail
      go_upto_region 7 with (first | (go_at_call 44; go_loud (refine Calls.mono (HW.out _) ?_; rintro e w8 ⟨rfl, hb⟩; have H6 : Hid _ := H4.out.up hb; clear hb H4 HW o0 o1 o2 o3 o4)))
      obtain ⟨o0, o1, o2, o3, o4⟩ := H6.out.o.o5
      have k1 := H6.out.k.b hnd
      have k2 := H6.out.k.n hnd
      have f1 := H6.out.k.fz nd
      have f2 := H6.out.k.fz (32 + nd)
      go_upto_region 10 with fail
      have H9 : Hid (Rb w ((w8.setCell ⟨w.heap.size + 1, nd, none⟩ (.bool false)).setCell ⟨w.heap.size + 1, 32 + nd, none⟩ (.int .i64 im)) #[.int .i8 op, .int .u8 nd, .int .u8 na, .int .u8 nb, .int .i64 im] (putK K nd none) (putN M nd im)) := H6.out.putK hnd none im
      clear o0 o1 o2 o3 o4 k1 k2 f1 f2 H6
      generalize (w8.setCell ⟨w.heap.size + 1, nd, none⟩ (.bool false)).setCell ⟨w.heap.size + 1, 32 + nd, none⟩ (.int .i64 im) = w9 at *
      clear w8
      generalize putK K nd none = K9 at *
      generalize putN M nd im = M9 at *
      have HDd := H9.out.up (Below.refl _ _).drew
      refine wp_region_held_drew (S := fun W' => Op.At W' w.heap.size #[.int .i8 op, .int .u8 nd, .int .u8 na, .int .u8 nb, .int .i64 im] ∧ Rs W' (w.heap.size + 1) K9 M9) (by kernel_rfl) ⟨HDd.o, HDd.k⟩ (fun hHeld => ?_)
      have HX : Hid _ := HDd
      clear HDd H9
      generalize w9.drew = XD at *
      clear w9
      refine wpAnyH_take (i := 0) (v := .agg #[.int .i8 op, .int .u8 nd, .int .u8 na, .int .u8 nb, .int .i64 im]) rfl (by kernel_rfl) (by kernel_rfl) (by kernel_rfl) (fun _ _ _ h => h) (Or.inl ⟨by rfl, fun w' hSw => by (obtain ⟨g0, g1, g2, g3, g4⟩ := hSw.1.o5; clear hSw; go_simp)⟩) hHeld ?_
      simp only [Act.put, List.setIfInBounds_toArray, List.set_cons_zero, List.set_cons_succ, List.getElem_cons_zero, List.getElem_toArray]
      refine wpAnyH_take (i := 2) (v := .agg (rA K9 M9).toList.toArray) rfl (by kernel_rfl) (by kernel_rfl) (by kernel_rfl) (fun _ _ _ h => h) (yieldsIf_load_mid (by rfl) 58 (.tmp 3) rfl (w.heap.size + 1) 0 rfl (rA K9 M9).toList _ (fun w' hSw => rs_range hSw.2) Tryz.underlying58 rfl (by rw [rA_len]; exact info58)) hHeld ?_
      simp only [Act.put, List.setIfInBounds_toArray, List.set_cons_zero, List.set_cons_succ, List.getElem_cons_zero, List.getElem_cons_succ, List.getElem_toArray]
      refine wpAnyH_ready (rs := [1]) (by kernel_rfl) (by simp) ?_
      refine AllReadyH.cons rfl (fun KK hKK => ?_) AllReadyH.nil
      go_simp
      refine Calls.mono (HBr.out _) ?_
      rintro e w10 ⟨rfl, hb⟩
      have HY : Hid _ := HX.out.up hb
      clear hb HX HBr
      refine hKK.out _ _ ⟨HY.out.o, HY.out.k⟩ (fun hHeld => ?_)
      clear hKK KK
      refine wpAnyH_ready (rs := [3]) (by kernel_rfl) (by simp) ?_
      refine AllReadyH.cons rfl (fun KK hKK => ?_) AllReadyH.nil
      obtain ⟨t0, t1, t2, t3, t4⟩ := HY.out.r.o5
      have f0 := HY.out.r.f 0; have f1 := HY.out.r.f 1; have f2 := HY.out.r.f 2; have f3 := HY.out.r.f 3; have f4 := HY.out.r.f 4
      go_simp
      have HZ0 := HY.out.putR (.int .i8 op) (.int .u8 nd) (.int .u8 na) (.int .u8 nb) (.int .i64 im)
      have HZ : Hid _ := HZ0
      clear HY t0 t1 t2 t3 t4 f0 f1 f2 f3 f4
      refine hKK.out _ _ ⟨HZ0.o, HZ0.k⟩ (fun hHeld => ?_)
      clear hKK KK HZ0
      refine wpAnyH_ready (rs := [4]) (by kernel_rfl) (by simp) ?_
      refine AllReadyH.cons rfl (fun KK hKK => ?_) AllReadyH.nil
      rw [if_pos (by rfl)]
      have HZ2 := HZ.out
      have ht : Rs _ (w.heap.size + 3) kn0 (fun _ => 0) := HZ2.q
      refine wp_store_mid 58 (.tmp 5) (.tmp 94) rfl (w.heap.size + 3) 0 (rA K9 M9) rfl rfl (by rw [rA_size]; exact rs_there ht) (by rw [rA_size]; exact info58) (rA_one K9 M9) ?_
      have HZ3 : Hid _ := HZ2.laid K9 M9
      have hl := run_loadVar_mid (P := Tryz.prog) _ (w.heap.size + 3) 0 58 (rA K9 M9).toList _ (rs_range HZ3.out.q) Tryz.underlying58 rfl (by rw [rA_len]; exact info58)
      rw [Array.toArray_toList] at hl
      have hl0 := run_loadVar_mid (P := Tryz.prog) _ (w.heap.size + 2) 0 51 [.int .i8 op, .int .u8 nd, .int .u8 na, .int .u8 nb, .int .i64 im] _ (at_range5 HZ3.out.r) Tryz.underlying51 rfl (by kernel_rfl)
      clear HZ HZ2 ht
      refine hKK.out _ _ ⟨HZ3.out.o, HZ3.out.k⟩ (fun hHeld => ?_)
      clear hKK KK
      refine wpAnyH_done (by kernel_rfl) ?_ _
      have hK9 := ‹∀ (a : Act) (w : World), Code.wp Tryz.prog Code.ret _ a w → _›
      refine hK9 _ _ ?_
      refine wp_ret ?_
      refine bodyPost_ret (v := .tuple #[.agg #[.int .i8 op, .int .u8 nd, .int .u8 na, .int .u8 nb, .int .i64 im], .agg (rA K9 M9)]) (by simp [results, Tryz.results41, asAddr, Act.put, hl, hl0]) rfl ⟨by rw [hKV.out.1, hKV.out.2], HZ3.out.b⟩
    · clear HG
      go_upto_region 3 with fail
      go_quiet (first | (go_at_call 68; refine Calls.quiet_of_same (HRk.out _)))
      rename Nat => n1
      have H4 : Hid _ := H3.out.1.up (drewN_below (Below.refl _ _) n1)
      clear o0 o1 o2 o3 o4 r4 ca cb va vb H3 HRk
      generalize w5.drewN n1 = w6 at *
      clear w5
      obtain ⟨o0, o1, o2, o3, o4⟩ := H4.out.o.o5
      go_upto_region 6 with fail
      go_upto_region 7 with (first | (go_at_call 44; go_loud (refine Calls.mono (HW.out _) ?_; rintro e w8 ⟨rfl, hb⟩; have H6 : Hid _ := H4.out.up hb; clear hb H4 HW o0 o1 o2 o3 o4)))
      obtain ⟨o0, o1, o2, o3, o4⟩ := H6.out.o.o5
      have k1 := H6.out.k.b hnd
      have k2 := H6.out.k.n hnd
      have f1 := H6.out.k.fz nd
      have f2 := H6.out.k.fz (32 + nd)
      go_upto_region 10 with fail
      have H9 : Hid (Rb w ((w8.setCell ⟨w.heap.size + 1, nd, none⟩ (.bool false)).setCell ⟨w.heap.size + 1, 32 + nd, none⟩ (.int .i64 im)) #[.int .i8 op, .int .u8 nd, .int .u8 na, .int .u8 nb, .int .i64 im] (putK K nd none) (putN M nd im)) := H6.out.putK hnd none im
      clear o0 o1 o2 o3 o4 k1 k2 f1 f2 H6
      generalize (w8.setCell ⟨w.heap.size + 1, nd, none⟩ (.bool false)).setCell ⟨w.heap.size + 1, 32 + nd, none⟩ (.int .i64 im) = w9 at *
      clear w8
      generalize putK K nd none = K9 at *
      generalize putN M nd im = M9 at *
      have HDd := H9.out.up (Below.refl _ _).drew
      refine wp_region_held_drew (S := fun W' => Op.At W' w.heap.size #[.int .i8 op, .int .u8 nd, .int .u8 na, .int .u8 nb, .int .i64 im] ∧ Rs W' (w.heap.size + 1) K9 M9) (by kernel_rfl) ⟨HDd.o, HDd.k⟩ (fun hHeld => ?_)
      have HX : Hid _ := HDd
      clear HDd H9
      generalize w9.drew = XD at *
      clear w9
      refine wpAnyH_take (i := 0) (v := .agg #[.int .i8 op, .int .u8 nd, .int .u8 na, .int .u8 nb, .int .i64 im]) rfl (by kernel_rfl) (by kernel_rfl) (by kernel_rfl) (fun _ _ _ h => h) (Or.inl ⟨by rfl, fun w' hSw => by (obtain ⟨g0, g1, g2, g3, g4⟩ := hSw.1.o5; clear hSw; go_simp)⟩) hHeld ?_
      simp only [Act.put, List.setIfInBounds_toArray, List.set_cons_zero, List.set_cons_succ, List.getElem_cons_zero, List.getElem_toArray]
      refine wpAnyH_take (i := 2) (v := .agg (rA K9 M9).toList.toArray) rfl (by kernel_rfl) (by kernel_rfl) (by kernel_rfl) (fun _ _ _ h => h) (yieldsIf_load_mid (by rfl) 58 (.tmp 3) rfl (w.heap.size + 1) 0 rfl (rA K9 M9).toList _ (fun w' hSw => rs_range hSw.2) Tryz.underlying58 rfl (by rw [rA_len]; exact info58)) hHeld ?_
      simp only [Act.put, List.setIfInBounds_toArray, List.set_cons_zero, List.set_cons_succ, List.getElem_cons_zero, List.getElem_cons_succ, List.getElem_toArray]
      refine wpAnyH_ready (rs := [1]) (by kernel_rfl) (by simp) ?_
      refine AllReadyH.cons rfl (fun KK hKK => ?_) AllReadyH.nil
      go_simp
      refine Calls.mono (HBr.out _) ?_
      rintro e w10 ⟨rfl, hb⟩
      have HY : Hid _ := HX.out.up hb
      clear hb HX HBr
      refine hKK.out _ _ ⟨HY.out.o, HY.out.k⟩ (fun hHeld => ?_)
      clear hKK KK
      refine wpAnyH_ready (rs := [3]) (by kernel_rfl) (by simp) ?_
      refine AllReadyH.cons rfl (fun KK hKK => ?_) AllReadyH.nil
      obtain ⟨t0, t1, t2, t3, t4⟩ := HY.out.r.o5
      have f0 := HY.out.r.f 0; have f1 := HY.out.r.f 1; have f2 := HY.out.r.f 2; have f3 := HY.out.r.f 3; have f4 := HY.out.r.f 4
      go_simp
      have HZ0 := HY.out.putR (.int .i8 op) (.int .u8 nd) (.int .u8 na) (.int .u8 nb) (.int .i64 im)
      have HZ : Hid _ := HZ0
      clear HY t0 t1 t2 t3 t4 f0 f1 f2 f3 f4
      refine hKK.out _ _ ⟨HZ0.o, HZ0.k⟩ (fun hHeld => ?_)
      clear hKK KK HZ0
      refine wpAnyH_ready (rs := [4]) (by kernel_rfl) (by simp) ?_
      refine AllReadyH.cons rfl (fun KK hKK => ?_) AllReadyH.nil
      rw [if_pos (by rfl)]
      have HZ2 := HZ.out
      have ht : Rs _ (w.heap.size + 3) kn0 (fun _ => 0) := HZ2.q
      refine wp_store_mid 58 (.tmp 5) (.tmp 94) rfl (w.heap.size + 3) 0 (rA K9 M9) rfl rfl (by rw [rA_size]; exact rs_there ht) (by rw [rA_size]; exact info58) (rA_one K9 M9) ?_
      have HZ3 : Hid _ := HZ2.laid K9 M9
      have hl := run_loadVar_mid (P := Tryz.prog) _ (w.heap.size + 3) 0 58 (rA K9 M9).toList _ (rs_range HZ3.out.q) Tryz.underlying58 rfl (by rw [rA_len]; exact info58)
      rw [Array.toArray_toList] at hl
      have hl0 := run_loadVar_mid (P := Tryz.prog) _ (w.heap.size + 2) 0 51 [.int .i8 op, .int .u8 nd, .int .u8 na, .int .u8 nb, .int .i64 im] _ (at_range5 HZ3.out.r) Tryz.underlying51 rfl (by kernel_rfl)
      clear HZ HZ2 ht
      refine hKK.out _ _ ⟨HZ3.out.o, HZ3.out.k⟩ (fun hHeld => ?_)
      clear hKK KK
      refine wpAnyH_done (by kernel_rfl) ?_ _
      have hK9 := ‹∀ (a : Act) (w : World), Code.wp Tryz.prog Code.ret _ a w → _›
      refine hK9 _ _ ?_
      refine wp_ret ?_
      refine bodyPost_ret (v := .tuple #[.agg #[.int .i8 op, .int .u8 nd, .int .u8 na, .int .u8 nb, .int .i64 im], .agg (rA K9 M9)]) (by simp [results, Tryz.results41, asAddr, Act.put, hl, hl0]) rfl ⟨by rw [hKV.out.1, hKV.out.2], HZ3.out.b⟩
  · clear HG
    go_upto_region 3 with fail
    go_quiet (first | (go_at_call 68; refine Calls.quiet_of_same (HRk.out _)))
    rename Nat => n1
    have H4 : Hid _ := H3.out.1.up (drewN_below (Below.refl _ _) n1)
    clear o0 o1 o2 o3 o4 r4 ca cb va vb H3 HRk
    generalize w5.drewN n1 = w6 at *
    clear w5
    obtain ⟨o0, o1, o2, o3, o4⟩ := H4.out.o.o5
    go_upto_region 6 with fail
    go_upto_region 7 with (first | (go_at_call 44; go_loud (refine Calls.mono (HW.out _) ?_; rintro e w8 ⟨rfl, hb⟩; have H6 : Hid _ := H4.out.up hb; clear hb H4 HW o0 o1 o2 o3 o4)))
    obtain ⟨o0, o1, o2, o3, o4⟩ := H6.out.o.o5
    have k1 := H6.out.k.b hnd
    have k2 := H6.out.k.n hnd
    have f1 := H6.out.k.fz nd
    have f2 := H6.out.k.fz (32 + nd)
    go_upto_region 10 with fail
    have H9 : Hid (Rb w ((w8.setCell ⟨w.heap.size + 1, nd, none⟩ (.bool false)).setCell ⟨w.heap.size + 1, 32 + nd, none⟩ (.int .i64 im)) #[.int .i8 op, .int .u8 nd, .int .u8 na, .int .u8 nb, .int .i64 im] (putK K nd none) (putN M nd im)) := H6.out.putK hnd none im
    clear o0 o1 o2 o3 o4 k1 k2 f1 f2 H6
    generalize (w8.setCell ⟨w.heap.size + 1, nd, none⟩ (.bool false)).setCell ⟨w.heap.size + 1, 32 + nd, none⟩ (.int .i64 im) = w9 at *
    clear w8
    generalize putK K nd none = K9 at *
    generalize putN M nd im = M9 at *
    have HDd := H9.out.up (Below.refl _ _).drew
    refine wp_region_held_drew (S := fun W' => Op.At W' w.heap.size #[.int .i8 op, .int .u8 nd, .int .u8 na, .int .u8 nb, .int .i64 im] ∧ Rs W' (w.heap.size + 1) K9 M9) (by kernel_rfl) ⟨HDd.o, HDd.k⟩ (fun hHeld => ?_)
    have HX : Hid _ := HDd
    clear HDd H9
    generalize w9.drew = XD at *
    clear w9
    refine wpAnyH_take (i := 0) (v := .agg #[.int .i8 op, .int .u8 nd, .int .u8 na, .int .u8 nb, .int .i64 im]) rfl (by kernel_rfl) (by kernel_rfl) (by kernel_rfl) (fun _ _ _ h => h) (Or.inl ⟨by rfl, fun w' hSw => by (obtain ⟨g0, g1, g2, g3, g4⟩ := hSw.1.o5; clear hSw; go_simp)⟩) hHeld ?_
    simp only [Act.put, List.setIfInBounds_toArray, List.set_cons_zero, List.set_cons_succ, List.getElem_cons_zero, List.getElem_toArray]
    refine wpAnyH_take (i := 2) (v := .agg (rA K9 M9).toList.toArray) rfl (by kernel_rfl) (by kernel_rfl) (by kernel_rfl) (fun _ _ _ h => h) (yieldsIf_load_mid (by rfl) 58 (.tmp 3) rfl (w.heap.size + 1) 0 rfl (rA K9 M9).toList _ (fun w' hSw => rs_range hSw.2) Tryz.underlying58 rfl (by rw [rA_len]; exact info58)) hHeld ?_
    simp only [Act.put, List.setIfInBounds_toArray, List.set_cons_zero, List.set_cons_succ, List.getElem_cons_zero, List.getElem_cons_succ, List.getElem_toArray]
    refine wpAnyH_ready (rs := [1]) (by kernel_rfl) (by simp) ?_
    refine AllReadyH.cons rfl (fun KK hKK => ?_) AllReadyH.nil
    go_simp
    refine Calls.mono (HBr.out _) ?_
    rintro e w10 ⟨rfl, hb⟩
    have HY : Hid _ := HX.out.up hb
    clear hb HX HBr
    refine hKK.out _ _ ⟨HY.out.o, HY.out.k⟩ (fun hHeld => ?_)
    clear hKK KK
    refine wpAnyH_ready (rs := [3]) (by kernel_rfl) (by simp) ?_
    refine AllReadyH.cons rfl (fun KK hKK => ?_) AllReadyH.nil
    obtain ⟨t0, t1, t2, t3, t4⟩ := HY.out.r.o5
    have f0 := HY.out.r.f 0; have f1 := HY.out.r.f 1; have f2 := HY.out.r.f 2; have f3 := HY.out.r.f 3; have f4 := HY.out.r.f 4
    go_simp
    have HZ0 := HY.out.putR (.int .i8 op) (.int .u8 nd) (.int .u8 na) (.int .u8 nb) (.int .i64 im)
    have HZ : Hid _ := HZ0
    clear HY t0 t1 t2 t3 t4 f0 f1 f2 f3 f4
    refine hKK.out _ _ ⟨HZ0.o, HZ0.k⟩ (fun hHeld => ?_)
    clear hKK KK HZ0
    refine wpAnyH_ready (rs := [4]) (by kernel_rfl) (by simp) ?_
    refine AllReadyH.cons rfl (fun KK hKK => ?_) AllReadyH.nil
    rw [if_pos (by rfl)]
    have HZ2 := HZ.out
    have ht : Rs _ (w.heap.size + 3) kn0 (fun _ => 0) := HZ2.q
    refine wp_store_mid 58 (.tmp 5) (.tmp 94) rfl (w.heap.size + 3) 0 (rA K9 M9) rfl rfl (by rw [rA_size]; exact rs_there ht) (by rw [rA_size]; exact info58) (rA_one K9 M9) ?_
    have HZ3 : Hid _ := HZ2.laid K9 M9
    have hl := run_loadVar_mid (P := Tryz.prog) _ (w.heap.size + 3) 0 58 (rA K9 M9).toList _ (rs_range HZ3.out.q) Tryz.underlying58 rfl (by rw [rA_len]; exact info58)
    rw [Array.toArray_toList] at hl
    have hl0 := run_loadVar_mid (P := Tryz.prog) _ (w.heap.size + 2) 0 51 [.int .i8 op, .int .u8 nd, .int .u8 na, .int .u8 nb, .int .i64 im] _ (at_range5 HZ3.out.r) Tryz.underlying51 rfl (by kernel_rfl)
    clear HZ HZ2 ht
    refine hKK.out _ _ ⟨HZ3.out.o, HZ3.out.k⟩ (fun hHeld => ?_)
    clear hKK KK
    refine wpAnyH_done (by kernel_rfl) ?_ _
    have hK9 := ‹∀ (a : Act) (w : World), Code.wp Tryz.prog Code.ret _ a w → _›
    refine hK9 _ _ ?_
    refine wp_ret ?_
    refine bodyPost_ret (v := .tuple #[.agg #[.int .i8 op, .int .u8 nd, .int .u8 na, .int .u8 nb, .int .i64 im], .agg (rA K9 M9)]) (by simp [results, Tryz.results41, asAddr, Act.put, hl, hl0]) rfl ⟨by rw [hKV.out.1, hKV.out.2], HZ3.out.b⟩
end Go.Proofs.YtddcndlogoajkaaGreatDoor.L8.Bt
