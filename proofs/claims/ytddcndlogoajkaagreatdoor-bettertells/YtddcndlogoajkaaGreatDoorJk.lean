/- The document's answer on an operation and what is known (op): what package better makes of it. Conditions: an operation of a program. -/
import Derived.Test.YtddcndlogoajkaaGreatDoorJd
import Derived.Test.YtddcndlogoajkaaGreatDoorJf
import Derived.Test.YtddcndlogoajkaaGreatDoorJg
import Derived.Test.YtddcndlogoajkaaGreatDoorJh
import Derived.Test.YtddcndlogoajkaaGreatDoorJi
namespace Go.Proofs.YtddcndlogoajkaaGreatDoor.L8.Bt
open Go.ChangeShapes Go.WideShapes Go.ChangeAt Go.RowKit Go.Great
open _root_.Go.Proofs.YtddcndlogoajkaaGreatDoor.L8.Op _root_.Go.Proofs.YtddcndlogoajkaaGreatDoor.L8.So
open _root_.Go.Proofs.YtddcndlogoajkaaGreatDoor.L8.Lv (rdL wOf PsOk)
set_option maxRecDepth 20000

set_option maxHeartbeats 16000000 in
theorem op_still (K : Kn) (M : Nat → Int) (o : O) (k : Op.K) (w : World) (_ : Say K M) (ho : o.Ok) (hp : okP o = true) (hk : kOf o.op = some k) (hf : okF k o = true) (ha : o.a < 32) (hb : o.b < 32) (hfd : fdB K o = false) (_ : ∀ r, -9223372036854775808 ≤ M r ∧ M r ≤ 9223372036854775807) (hw : wrB o = false) :
    Calls Tryz.prog 41 #[o.val, .agg (rA K M)] w fun e w' => e = .returned (.tuple #[o.val, .agg (rA (ntO K o) (ntN M o))]) ∧ Below w.heap.size w w' := by
  have HF : Hid (∀ w, Calls Tryz.prog 67 #[.int .i8 o.op] w fun e w' => e = .returned (.tuple #[.agg #[.string k.s, .int .i64 k.cls, .bool k.D, .bool k.A, .bool k.B, .bool k.N, .bool k.I], .bool true]) ∧ Below w.heap.size w w') := fun w => of_yes o.op k w hk
  obtain ⟨na, hna⟩ : ∃ n : Nat, o.a = n := ⟨o.a.toNat, by have := ho.a0; omega⟩
  obtain ⟨nb, hnb⟩ : ∃ n : Nat, o.b = n := ⟨o.b.toNat, by have := ho.b0; omega⟩
  obtain ⟨nd, hnd'⟩ : ∃ n : Nat, o.d = n := ⟨o.d.toNat, by have := ho.d0; omega⟩
  have hop : 1 ≤ o.op ∧ o.op ≤ 17 := by
    have h := hp
    unfold okP at h
    simp only [Bool.and_eq_true, decide_eq_true_eq] at h
    exact ⟨h.1.1, h.1.2⟩
  have hai : (na : Int) < 32 := by omega
  have hbi : (nb : Int) < 32 := by omega
  have hop15 : 14 < o.op := by
    rcases Int.lt_or_le 14 o.op with h | h
    · exact h
    · exfalso
      have h2 : o.op = 1 ∨ 2 ≤ o.op := by omega
      rw [wr_yes hk hf] at hw
      rcases h2 with h2 | h2
      · have hk1 : k = kindL[1] := by
          rw [h2] at hk
          exact (Option.some.inj (show some kindL[1] = some k from hk)).symm
        rw [hk1] at hw; cases hw
      · rw [(mid_of hk h2 h).1] at hw; cases hw
  have HW : Hid (∀ w, Calls Tryz.prog 44 #[o.val] w fun e w' => e = .returned (.tuple #[.int .u8 0, .bool false]) ∧ Below w.heap.size w w') := fun w => by
    have h := refWrites_any o w ho
    rw [show wrD o = 0 by unfold wrD; rw [hw]; rfl, hw] at h
    exact h
  have HBr : Hid (∀ w, Calls Tryz.prog 69 #[o.val] w fun e w' => e = .returned o.val ∧ Below w.heap.size w w') := fun w => bare_any o k w hk (zr_of hf) hop.1 hop.2
  have hKV : Hid (ntO K o = K ∧ ntN M o = M) := by
    unfold ntO ntN
    rw [hw]
    exact ⟨rfl, rfl⟩
  obtain ⟨op, d, a, b, im⟩ := o
  simp only at hna hnb hnd'
  subst hna
  subst hnb
  subst hnd'
  have HB0 : Hid _ := fun A Z h1 h2 => Rb.start w #[.int .i8 op, .int .u8 nd, .int .u8 na, .int .u8 nb, .int .i64 im] A Z K M h1 h2
  generalize hA : rA K M = A at *
  go_enter Tryz.func41, Tryz.ntmps41
  apply wp_seq_k; intro K0 hK0
  apply wp_region_lit
  refine wpList_boxTo rfl 51 (.tmp 0) rfl (some 2) rfl w.heap.size rfl #[.int .i8 op, .int .u8 nd, .int .u8 na, .int .u8 nb, .int .i64 im] rfl ?_
  refine wpList_boxTo rfl 58 (.tmp 1) rfl (some 3) rfl (w.heap.size + 1) (by simp) A rfl ?_
  refine wpList_allocTo rfl (some 4) rfl (.pointer (some ⟨((w.alloc (.cells #[.int .i8 op, .int .u8 nd, .int .u8 na, .int .u8 nb, .int .i64 im] 51)).alloc (.cells A 58)).heap.size, 0, none⟩)) (.cells #[.int .i8 0, .int .u8 0, .int .u8 0, .int .u8 0, .int .i64 0] 51) (by kernel_rfl) ?_
  refine wpList_allocTo rfl (some 5) rfl (.pointer (some ⟨(((w.alloc (.cells #[.int .i8 op, .int .u8 nd, .int .u8 na, .int .u8 nb, .int .i64 im] 51)).alloc (.cells A 58)).alloc (.cells #[.int .i8 0, .int .u8 0, .int .u8 0, .int .u8 0, .int .i64 0] 51)).heap.size, 0, none⟩)) (.cells (rA kn0 fun _ => 0) 58) (by kernel_rfl) ?_
  refine wpList_nil ?_
  refine hK0 _ _ ?_
  clear hK0 K0
  have HB := HB0.out A (rA kn0 fun _ => 0) rfl rfl
  generalize (((w.alloc (.cells #[.int .i8 op, .int .u8 nd, .int .u8 na, .int .u8 nb, .int .i64 im] 51)).alloc (.cells A 58)).alloc (.cells #[.int .i8 0, .int .u8 0, .int .u8 0, .int .u8 0, .int .i64 0] 51)).alloc (.cells (rA kn0 fun _ => 0) 58) = W0 at *
  simp only [Act.put, List.setIfInBounds_toArray, List.set_cons_zero, List.set_cons_succ, World.size_alloc, Nat.add_assoc, Nat.reduceAdd]
  obtain ⟨o0, o1, o2, o3, o4⟩ := HB.o.o5
  have H1 : Hid _ := HB
  clear HB HB0
  go_upto_region 2 with (first | (go_at_call 67; refine Calls.mono (HF.out _) ?_; rintro e w1 ⟨rfl, hb⟩; have H2 : Hid (Rb w w1 #[.int .i8 op, .int .u8 nd, .int .u8 na, .int .u8 nb, .int .i64 im] K M) := H1.out.up hb; clear hb H1 HF o0 o1 o2 o3 o4))
  generalize hy : w1.heap.size = y at *
  have hyz : w.heap.size + 4 ≤ y := by have := H2.out.q.lt; omega
  have H3 : Hid (Rb w (w1.alloc (.cells #[.string k.s, .int .i64 k.cls, .bool k.D, .bool k.A, .bool k.B, .bool k.N, .bool k.I] 120)) #[.int .i8 op, .int .u8 nd, .int .u8 na, .int .u8 nb, .int .i64 im] K M ∧ Op.At (w1.alloc (.cells #[.string k.s, .int .i64 k.cls, .bool k.D, .bool k.A, .bool k.B, .bool k.N, .bool k.I] 120)) y #[.string k.s, .int .i64 k.cls, .bool k.D, .bool k.A, .bool k.B, .bool k.N, .bool k.I]) := ⟨H2.out.up (below_al _), hy ▸ Op.At.new w1 _ _⟩
  generalize w1.alloc (.cells #[.string k.s, .int .i64 k.cls, .bool k.D, .bool k.A, .bool k.B, .bool k.N, .bool k.I] 120) = w5 at *
  clear H2 hy w1
  obtain ⟨o0, o1, o2, o3, o4⟩ := H3.out.1.o.o5
  have r4 : w5.cell? ⟨y, 4, none⟩ = some (.bool k.B) := H3.out.2.c 4 _ rfl
  have ca := H3.out.1.k.b (r := na) (by omega)
  have cb := H3.out.1.k.b (r := nb) (by omega)
  have va := H3.out.1.k.n (r := na) (by omega)
  have vb := H3.out.1.k.n (r := nb) (by omega)
  try simp only at hop15 hop hKV
  have h2 : (2 : Int) ≤ op := by omega
  have h15 : ¬ op ≤ (14 : Int) := by omega
  clear hp hk hf ho ha hb hfd hw hA
  go_upto_region 6 with fail
  have H4 : Hid _ := H3.out.1
  clear r4 ca cb va vb H3
  go_upto_region 10 with (first | (go_at_call 44; go_loud (refine Calls.mono (HW.out _) ?_; rintro e w8 ⟨rfl, hb⟩; have H9 : Hid _ := H4.out.up hb; clear hb H4 HW o0 o1 o2 o3 o4)))
  generalize w8 = w9 at *
  have HDd := H9.out.up (Below.refl _ _).drew
  refine wp_region_held_drew (S := fun W' => Op.At W' w.heap.size #[.int .i8 op, .int .u8 nd, .int .u8 na, .int .u8 nb, .int .i64 im] ∧ Rs W' (w.heap.size + 1) K M) (by kernel_rfl) ⟨HDd.o, HDd.k⟩ (fun hHeld => ?_)
  have HX : Hid _ := HDd
  clear HDd H9
  generalize w9.drew = XD at *
  clear w9
  refine wpAnyH_take (i := 0) (v := .agg #[.int .i8 op, .int .u8 nd, .int .u8 na, .int .u8 nb, .int .i64 im]) rfl (by kernel_rfl) (by kernel_rfl) (by kernel_rfl) (fun _ _ _ h => h) (Or.inl ⟨by rfl, fun w' hSw => by (obtain ⟨g0, g1, g2, g3, g4⟩ := hSw.1.o5; clear hSw; go_simp)⟩) hHeld ?_
  simp only [Act.put, List.setIfInBounds_toArray, List.set_cons_zero, List.set_cons_succ, List.getElem_cons_zero, List.getElem_toArray]
  refine wpAnyH_take (i := 2) (v := .agg (rA K M).toList.toArray) rfl (by kernel_rfl) (by kernel_rfl) (by kernel_rfl) (fun _ _ _ h => h) (yieldsIf_load_mid (by rfl) 58 (.tmp 3) rfl (w.heap.size + 1) 0 rfl (rA K M).toList _ (fun w' hSw => rs_range hSw.2) Tryz.underlying58 rfl (by rw [rA_len]; exact info58)) hHeld ?_
  simp only [Act.put, List.setIfInBounds_toArray, List.set_cons_zero, List.set_cons_succ, List.getElem_cons_zero, List.getElem_cons_succ, List.getElem_toArray]
  refine wpAnyH_ready (rs := [1]) (by kernel_rfl) (by simp) ?_
  refine AllReadyH.cons rfl (fun KK hKK => ?_) AllReadyH.nil
  go_simp
  refine Calls.mono (HBr.out _) ?_
  rintro e w10 ⟨rfl, hb⟩
  have HY : Hid _ := HX.out.up hb
  clear hb HX HBr
  refine hKK.out _ _ ⟨HY.out.o, HY.out.k⟩ (fun hHeld => ?_)
  clear hKK KK
  refine wpAnyH_ready (rs := [3]) (by kernel_rfl) (by simp) ?_
  refine AllReadyH.cons rfl (fun KK hKK => ?_) AllReadyH.nil
  obtain ⟨t0, t1, t2, t3, t4⟩ := HY.out.r.o5
  have f0 := HY.out.r.f 0; have f1 := HY.out.r.f 1; have f2 := HY.out.r.f 2; have f3 := HY.out.r.f 3; have f4 := HY.out.r.f 4
  go_simp
  have HZ0 := HY.out.putR (.int .i8 op) (.int .u8 nd) (.int .u8 na) (.int .u8 nb) (.int .i64 im)
  have HZ : Hid _ := HZ0
  clear HY t0 t1 t2 t3 t4 f0 f1 f2 f3 f4
  refine hKK.out _ _ ⟨HZ0.o, HZ0.k⟩ (fun hHeld => ?_)
  clear hKK KK HZ0
  refine wpAnyH_ready (rs := [4]) (by kernel_rfl) (by simp) ?_
  refine AllReadyH.cons rfl (fun KK hKK => ?_) AllReadyH.nil
  rw [if_pos (by rfl)]
  have HZ2 := HZ.out
  have ht : Rs _ (w.heap.size + 3) kn0 (fun _ => 0) := HZ2.q
  refine wp_store_mid 58 (.tmp 5) (.tmp 94) rfl (w.heap.size + 3) 0 (rA K M) rfl rfl (by rw [rA_size]; exact rs_there ht) (by rw [rA_size]; exact info58) (rA_one K M) ?_
  have HZ3 : Hid _ := HZ2.laid K M
  have hl := run_loadVar_mid (P := Tryz.prog) _ (w.heap.size + 3) 0 58 (rA K M).toList _ (rs_range HZ3.out.q) Tryz.underlying58 rfl (by rw [rA_len]; exact info58)
  rw [Array.toArray_toList] at hl
  have hl0 := run_loadVar_mid (P := Tryz.prog) _ (w.heap.size + 2) 0 51 [.int .i8 op, .int .u8 nd, .int .u8 na, .int .u8 nb, .int .i64 im] _ (at_range5 HZ3.out.r) Tryz.underlying51 rfl (by kernel_rfl)
  clear HZ HZ2 ht
  refine hKK.out _ _ ⟨HZ3.out.o, HZ3.out.k⟩ (fun hHeld => ?_)
  clear hKK KK
  refine wpAnyH_done (by kernel_rfl) ?_ _
  have hK := ‹∀ (a : Act) (w : World), Code.wp Tryz.prog Code.ret _ a w → _›
  refine hK _ _ ?_
  refine wp_ret ?_
  refine bodyPost_ret (v := .tuple #[.agg #[.int .i8 op, .int .u8 nd, .int .u8 na, .int .u8 nb, .int .i64 im], .agg (rA K M)]) (by simp [results, Tryz.results41, asAddr, Act.put, hl, hl0]) rfl ⟨by rw [hKV.out.1, hKV.out.2], HZ3.out.b⟩
end Go.Proofs.YtddcndlogoajkaaGreatDoor.L8.Bt
namespace Go.Proofs.YtddcndlogoajkaaGreatDoor.L8.Bt
open Go.ChangeShapes Go.WideShapes Go.ChangeAt Go.RowKit Go.Great
open _root_.Go.Proofs.YtddcndlogoajkaaGreatDoor.L8.Op _root_.Go.Proofs.YtddcndlogoajkaaGreatDoor.L8.So
open _root_.Go.Proofs.YtddcndlogoajkaaGreatDoor.L8.Lv (rdL wOf PsOk)
set_option maxRecDepth 20000

theorem op_any (K : Kn) (M : Nat → Int) (o : O) (w : World) (hS : Say K M) (hM : ∀ r, -9223372036854775808 ≤ M r ∧ M r ≤ 9223372036854775807) (ho : o.Ok) (hp : okP o = true) :
    Calls Tryz.prog 41 #[o.val, .agg (rA K M)] w fun e w' => e = .returned (.tuple #[(fdO K o).val, .agg (rA (ntO K (fdO K o)) (ntN M (fdO K o)))]) ∧ Below w.heap.size w w' := by
  have hp' := hp
  unfold okP at hp'
  simp only [Bool.and_eq_true, decide_eq_true_eq] at hp'
  obtain ⟨⟨p1, p2⟩, p3⟩ := hp'
  cases hk : kOf o.op with
  | none => rw [okO_none hk] at p3; cases p3
  | some k =>
    have hf : okF k o = true := by rw [← okO_some hk]; exact p3
    have hf' := hf
    simp only [okF, Bool.and_eq_true] at hf'
    have ha : o.a < 32 := by
      have h := hf'.1.1.2
      unfold rH at h
      split at h
      · simpa using h
      · have : o.a = 0 := by simpa using h
        omega
    have hb : o.b < 32 := by
      have h := hf'.1.2
      unfold rH at h
      split at h
      · simpa using h
      · have : o.b = 0 := by simpa using h
        omega
    cases hfd : fdB K o with
    | true => exact op_true K M o k w hS ho hp hk hf ha hb hfd hM
    | false =>
      have he : fdO K o = o := by unfold fdO; rw [hfd]; rfl
      rw [he]
      cases hw : wrB o with
      | false => exact op_still K M o k w hS ho hp hk hf ha hb hfd hM hw
      | true =>
        by_cases h1 : o.op = 1
        · exact op_const K M o k w hS ho hp hk hf ha hb hfd hM hw h1
        · by_cases h14 : o.op ≤ 14
          · have h2 : 2 ≤ o.op := by omega
            cases hKa : (K o.a.toNat).isSome with
            | false => exact op_kA K M o k w hS ho hp hk hf ha hb hfd hM hw h1 h2 h14 hKa
            | true =>
              cases hkB : k.B with
              | false => exact op_r0 K M o k w hS ho hp hk hf ha hb hfd hM hw h1 h2 h14 hKa hkB
              | true =>
                cases hKb : (K o.b.toNat).isSome with
                | false => exact op_kB K M o k w hS ho hp hk hf ha hb hfd hM hw h1 h2 h14 hKa hkB hKb
                | true => exact op_r1 K M o k w hS ho hp hk hf ha hb hfd hM hw h1 h2 h14 hKa hkB hKb
          · exact op_far K M o k w hS ho hp hk hf ha hb hfd hM hw h1 (by omega)
#print axioms op_any
end Go.Proofs.YtddcndlogoajkaaGreatDoor.L8.Bt
