/- An operation folded in memory (fold): read off the program by the walk. Conditions: what is known lies in memory; the operation's registers are below 32. -/
import Derived.Test.YtddcndlogoajkaaGreatDoorFb
import Derived.Test.YtddcndlogoajkaaGreatDoorQNa
namespace Go.Proofs.YtddcndlogoajkaaGreatDoor.L8.Bt
open Go.ChangeShapes Go.WideShapes Go.ChangeAt Go.RowKit
open _root_.Go.Proofs.YtddcndlogoajkaaGreatDoor.L8.Op _root_.Go.Proofs.YtddcndlogoajkaaGreatDoor.L8.So
open _root_.Go.Proofs.YtddcndlogoajkaaGreatDoor.L8.Lv (rdL wOf PsOk)
open _root_.Go.Proofs.YtddcndlogoajkaaGreatDoor.L8.Li (Rl reads_sl)
set_option maxRecDepth 20000

theorem rd_small {o : O} (ho : o.Ok) : ∀ r ∈ rdL o, r < 32 := (Lv.small_of o ho).1
theorem rd_two (o : O) : (rdL o).length ≤ 2 := by unfold Lv.rdL; split <;> (try split) <;> (try split) <;> simp
theorem below_set5 {B : Nat} {w w' : World} (h : Below B w w') {b : Nat} (hb : B ≤ b) (v0 v1 v2 v3 v4 : Value) : Below B w (((((w'.setCell ⟨b, 0, none⟩ v0).setCell ⟨b, 1, none⟩ v1).setCell ⟨b, 2, none⟩ v2).setCell ⟨b, 3, none⟩ v3).setCell ⟨b, 4, none⟩ v4) :=
  ((((h.setCell hb v0).setCell hb v1).setCell hb v2).setCell hb v3).setCell hb v4
set_option maxHeartbeats 4000000 in
theorem fold_any (q : Nat) (K : Kn) (o : O) (w : World) (hF : Fk w q K) (hK : KIn K) (ho : o.Ok) (ha : o.a < 32) (hb : o.b < 32) :
    Calls Tryz.prog 64 #[.pointer (some ⟨q, 0, none⟩), o.val] w fun e w' => e = .returned (fdO K o).val ∧ Below w.heap.size w w' := by
  have HR : Hid _ := fun w => reads_sl o w ho
  have HA : Hid (∀ a c w, Fk w q K → Rl w a (rdL o) → Calls Tryz.prog 83 #[.pointer (some ⟨q, 0, none⟩), .slice a (rdL o).length c] w fun e w' => e = .returned (.bool (allK K (rdL o))) ∧ w' = w) := fun a c w h1 h2 => allKnown_any q K a c (rdL o) w h1 h2 (rd_small ho) (rd_two o)
  have hx := numK_in hK o.a
  have HRk : Hid _ := fun w => rk_any o.op (numK K o.a) (numK K o.b) w hx.1 hx.2
  have HF : Hid _ := hF
  have hqw := hF.lt
  obtain ⟨na, hna⟩ : ∃ n : Nat, o.a = n := ⟨o.a.toNat, by have := ho.a0; omega⟩
  obtain ⟨nb, hnb⟩ : ∃ n : Nat, o.b = n := ⟨o.b.toNat, by have := ho.b0; omega⟩
  have ea : numK K o.a = (K na).getD 0 := by unfold numK; rw [hna]; rfl
  have eb : numK K o.b = (K nb).getD 0 := by unfold numK; rw [hnb]; rfl
  have hfd : fdO K o = if (allK K (rdL o) && decide (rkE o.op (numK K o.b) = 0) && okO (cst o.d (rkV o.op (numK K o.a) (numK K o.b)))) = true then cst o.d (rkV o.op (numK K o.a) (numK K o.b)) else o := rfl
  have hai : (na : Int) < 32 := by omega
  have hbi : (nb : Int) < 32 := by omega
  have hcO : (cst o.d (rkV o.op (numK K o.a) (numK K o.b))).Ok → ∀ w, Calls Tryz.prog 77 #[(cst o.d (rkV o.op (numK K o.a) (numK K o.b))).val] w fun e w' => e = .returned (.int .i64 (ckE (cst o.d (rkV o.op (numK K o.a) (numK K o.b))))) ∧ Below w.heap.size w w' := fun h w => check_any _ w h
  have hvi := Sm.rkV_in o.op (numK K o.a) (numK K o.b) hx
  have HCk : Hid (∀ w, Calls Tryz.prog 77 #[(cst o.d (rkV o.op (numK K o.a) (numK K o.b))).val] w fun e w' => e = .returned (.int .i64 (if okO (cst o.d (rkV o.op (numK K o.a) (numK K o.b))) = true then 0 else 30)) ∧ Below w.heap.size w w') := hcO ⟨by simp [cst], by simp [cst], ho.d0, ho.d1, by simp [cst], by simp [cst], by simp [cst], by simp [cst], hvi.1, hvi.2⟩
  rw [hfd]
  clear hfd hcO hvi hx hK ho hF
  rw [ea, eb] at HRk HCk ⊢
  clear ea eb
  generalize okO (cst o.d (rkV o.op ((K na).getD 0) ((K nb).getD 0))) = ok at *
  generalize hxs : rdL o = xs at *
  clear hxs
  obtain ⟨op, d, a, b, im⟩ := o
  simp only at hna hnb
  subst hna
  subst hnb
  have ca := HF.out.n na (by omega)
  have cb := HF.out.n nb (by omega)
  generalize (K na).getD 0 = va at *
  generalize (K nb).getD 0 = vb at *
  simp only [cst] at HCk HRk ⊢
  generalize rkV op va vb = vv at *
  generalize rkE op vb = re at *
  cases hak : allK K xs with
  | false =>
    rw [hak] at HA
    simp only [Bool.false_and, Bool.false_eq_true, if_false]
    clear HRk HCk ca cb
    go_enter Tryz.func64, Tryz.ntmps64
    go_wp2_with (first
      | (go_at_call 84; refine Calls.mono (HR.out _) ?_; rintro e w1 ⟨a1, c1, rfl, hl, hb1⟩; obtain ⟨k1, k2, hb0, hz, hz1⟩ := two_new w _ _ _ _ hb1; have HB : Hid (Below w.heap.size w w1) := hb0; have HL : Hid (Rl w1 a1 xs) := hl; have HK1 : Hid _ := k1; have c0 := k1.c 0 _ rfl; have c1' := k1.c 1 _ rfl; have c2 := k1.c 2 _ rfl; have c3 := k1.c 3 _ rfl; have c4 := k1.c 4 _ rfl; have r0 := k2.c 0 _ rfl; have r1 := k2.c 1 _ rfl; have r2 := k2.c 2 _ rfl; have r3 := k2.c 3 _ rfl; have r4 := k2.c 4 _ rfl; have f0 := k2.f 0; have f1 := k2.f 1; have f2 := k2.f 2; have f3 := k2.f 3; have f4 := k2.f 4; have HK2 : Hid _ := k2; clear hb1 hb0 k1 k2 hl HR)
      | (go_at_call 83; refine Calls.mono (HA.out _ _ _ (HF.out.below HB.out) HL.out) ?_; rintro e w2 ⟨rfl, hw2⟩; subst hw2))
    refine bodyPost_ret (v := .agg #[.int .i8 op, .int .u8 d, .int .u8 na, .int .u8 nb, .int .i64 im]) (by simp [results, Tryz.results64, go_sem, r0, r1, r2, r3, r4]) rfl ⟨rfl, ?_⟩
    exact below_set5 HB.out (by omega) _ _ _ _ _
  | true =>
    rw [hak] at HA
    simp only [Bool.true_and]
    by_cases hr0 : re = 0
    · subst hr0
      simp only [decide_true, Bool.true_and]
      cases ok with
      | true =>
        simp only [if_true] at HCk ⊢
        go_enter Tryz.func64, Tryz.ntmps64
        go_wp2_with (first
          | (go_at_call 84; refine Calls.mono (HR.out _) ?_; rintro e w1 ⟨a1, c1, rfl, hl, hb1⟩; obtain ⟨k1, k2, hb0, hz, hz1⟩ := two_new w _ _ _ _ hb1; have HB : Hid (Below w.heap.size w w1) := hb0; have HL : Hid (Rl w1 a1 xs) := hl; have HK1 : Hid _ := k1; have c0 := k1.c 0 _ rfl; have c1' := k1.c 1 _ rfl; have c2 := k1.c 2 _ rfl; have c3 := k1.c 3 _ rfl; have c4 := k1.c 4 _ rfl; have r0 := k2.c 0 _ rfl; have r1 := k2.c 1 _ rfl; have r2 := k2.c 2 _ rfl; have r3 := k2.c 3 _ rfl; have r4 := k2.c 4 _ rfl; have f0 := k2.f 0; have f1 := k2.f 1; have f2 := k2.f 2; have f3 := k2.f 3; have f4 := k2.f 4; have HK2 : Hid _ := k2; clear hb1 hb0 k1 k2 hl HR)
          | (go_at_call 83; refine Calls.mono (HA.out _ _ _ (HF.out.below HB.out) HL.out) ?_; rintro e w2 ⟨rfl, hw2⟩; subst hw2))
        have hqc : (w2.cell? ⟨q, na * 2 + 1, none⟩ = some (.int .i64 va)) ∧ w2.cell? ⟨q, nb * 2 + 1, none⟩ = some (.int .i64 vb) := ⟨((bcell HB.out).1 _ _ hqw).trans ca, ((bcell HB.out).1 _ _ hqw).trans cb⟩
        obtain ⟨qa, qb⟩ := hqc
        clear ca cb
        go_quiet (first | (go_at_call 79; refine Calls.quiet_of_same (HRk.out _)))
        rename Nat => n1
        have R1 : Hid (Op.At (w2.drewN n1) w.heap.size #[.int .i8 op, .int .u8 d, .int .u8 na, .int .u8 nb, .int .i64 im]) := ⟨fun j v h => HK1.out.c j v h, fun j => HK1.out.f j, HK1.out.lt⟩
        have R2 : Hid (Op.At (w2.drewN n1) (w.heap.size + 1) #[.int .i8 0, .int .u8 0, .int .u8 0, .int .u8 0, .int .i64 0]) := ⟨fun j v h => HK2.out.c j v h, fun j => HK2.out.f j, HK2.out.lt⟩
        have HB5 : Hid (Below w.heap.size w (w2.drewN n1)) := drewN_below HB.out n1
        clear c0 c1' c2 c3 c4 r0 r1 r2 r3 r4 f0 f1 f2 f3 f4 HK1 HK2 HB HL qa qb hz hz1 HA HF
        generalize w2.drewN n1 = w5 at *
        have c1 := R1.out.c 1 _ rfl
        go_wp2_with (first
          | (go_at_call 77; go_loud (refine Calls.mono (HCk.out _) ?_; rintro e w6 ⟨rfl, hb6⟩; obtain ⟨k3, hb7, hz7⟩ := one_new w5 _ _ hb6; have HB6 : Hid (Below w.heap.size w w6) := HB5.out.trans (hb7.mono HB5.out.size); have k2 := R2.out.below hb7 R2.out.lt; have k1 := R1.out.below hb7 R1.out.lt; have d0 := k3.c 0 _ rfl; have d1 := k3.c 1 _ rfl; have d2 := k3.c 2 _ rfl; have d3 := k3.c 3 _ rfl; have d4 := k3.c 4 _ rfl; have r0 := k2.c 0 _ rfl; have r1 := k2.c 1 _ rfl; have r2 := k2.c 2 _ rfl; have r3 := k2.c 3 _ rfl; have r4 := k2.c 4 _ rfl; have f0 := k2.f 0; have f1 := k2.f 1; have f2 := k2.f 2; have f3 := k2.f 3; have f4 := k2.f 4; have e0 := k1.c 0 _ rfl; have e1 := k1.c 1 _ rfl; have e2 := k1.c 2 _ rfl; have e3 := k1.c 3 _ rfl; have e4 := k1.c 4 _ rfl; clear hb6 hb7 k1 k2 k3 c1)))
        refine bodyPost_ret (v := .agg #[.int .i8 1, .int .u8 d, .int .u8 0, .int .u8 0, .int .i64 vv]) (by simp [results, Tryz.results64, go_sem, r0, r1, r2, r3, r4]) rfl ⟨rfl, ?_⟩
        exact below_set5 HB6.out (by omega) _ _ _ _ _
      | false =>
        simp only [Bool.false_eq_true, if_false] at HCk ⊢
        go_enter Tryz.func64, Tryz.ntmps64
        go_wp2_with (first
          | (go_at_call 84; refine Calls.mono (HR.out _) ?_; rintro e w1 ⟨a1, c1, rfl, hl, hb1⟩; obtain ⟨k1, k2, hb0, hz, hz1⟩ := two_new w _ _ _ _ hb1; have HB : Hid (Below w.heap.size w w1) := hb0; have HL : Hid (Rl w1 a1 xs) := hl; have HK1 : Hid _ := k1; have c0 := k1.c 0 _ rfl; have c1' := k1.c 1 _ rfl; have c2 := k1.c 2 _ rfl; have c3 := k1.c 3 _ rfl; have c4 := k1.c 4 _ rfl; have r0 := k2.c 0 _ rfl; have r1 := k2.c 1 _ rfl; have r2 := k2.c 2 _ rfl; have r3 := k2.c 3 _ rfl; have r4 := k2.c 4 _ rfl; have f0 := k2.f 0; have f1 := k2.f 1; have f2 := k2.f 2; have f3 := k2.f 3; have f4 := k2.f 4; have HK2 : Hid _ := k2; clear hb1 hb0 k1 k2 hl HR)
          | (go_at_call 83; refine Calls.mono (HA.out _ _ _ (HF.out.below HB.out) HL.out) ?_; rintro e w2 ⟨rfl, hw2⟩; subst hw2))
        have hqc : (w2.cell? ⟨q, na * 2 + 1, none⟩ = some (.int .i64 va)) ∧ w2.cell? ⟨q, nb * 2 + 1, none⟩ = some (.int .i64 vb) := ⟨((bcell HB.out).1 _ _ hqw).trans ca, ((bcell HB.out).1 _ _ hqw).trans cb⟩
        obtain ⟨qa, qb⟩ := hqc
        clear ca cb
        go_quiet (first | (go_at_call 79; refine Calls.quiet_of_same (HRk.out _)))
        rename Nat => n1
        have R1 : Hid (Op.At (w2.drewN n1) w.heap.size #[.int .i8 op, .int .u8 d, .int .u8 na, .int .u8 nb, .int .i64 im]) := ⟨fun j v h => HK1.out.c j v h, fun j => HK1.out.f j, HK1.out.lt⟩
        have R2 : Hid (Op.At (w2.drewN n1) (w.heap.size + 1) #[.int .i8 0, .int .u8 0, .int .u8 0, .int .u8 0, .int .i64 0]) := ⟨fun j v h => HK2.out.c j v h, fun j => HK2.out.f j, HK2.out.lt⟩
        have HB5 : Hid (Below w.heap.size w (w2.drewN n1)) := drewN_below HB.out n1
        clear c0 c1' c2 c3 c4 r0 r1 r2 r3 r4 f0 f1 f2 f3 f4 HK1 HK2 HB HL qa qb hz hz1 HA HF
        generalize w2.drewN n1 = w5 at *
        have c1 := R1.out.c 1 _ rfl
        go_wp2_with (first
          | (go_at_call 77; go_loud (refine Calls.mono (HCk.out _) ?_; rintro e w6 ⟨rfl, hb6⟩; obtain ⟨k3, hb7, hz7⟩ := one_new w5 _ _ hb6; have HB6 : Hid (Below w.heap.size w w6) := HB5.out.trans (hb7.mono HB5.out.size); have k2 := R2.out.below hb7 R2.out.lt; have k1 := R1.out.below hb7 R1.out.lt; have d0 := k3.c 0 _ rfl; have d1 := k3.c 1 _ rfl; have d2 := k3.c 2 _ rfl; have d3 := k3.c 3 _ rfl; have d4 := k3.c 4 _ rfl; have r0 := k2.c 0 _ rfl; have r1 := k2.c 1 _ rfl; have r2 := k2.c 2 _ rfl; have r3 := k2.c 3 _ rfl; have r4 := k2.c 4 _ rfl; have f0 := k2.f 0; have f1 := k2.f 1; have f2 := k2.f 2; have f3 := k2.f 3; have f4 := k2.f 4; have e0 := k1.c 0 _ rfl; have e1 := k1.c 1 _ rfl; have e2 := k1.c 2 _ rfl; have e3 := k1.c 3 _ rfl; have e4 := k1.c 4 _ rfl; clear hb6 hb7 k1 k2 k3 c1)))
        refine bodyPost_ret (v := .agg #[.int .i8 op, .int .u8 d, .int .u8 na, .int .u8 nb, .int .i64 im]) (by simp [results, Tryz.results64, go_sem, r0, r1, r2, r3, r4]) rfl ⟨rfl, ?_⟩
        exact below_set5 HB6.out (by omega) _ _ _ _ _
    · have hr1 : decide (re = 0) = false := by simpa using hr0
      rw [hr1]
      simp only [Bool.false_and, Bool.false_eq_true, if_false]
      clear HCk
      go_enter Tryz.func64, Tryz.ntmps64
      go_wp2_with (first
        | (go_at_call 84; refine Calls.mono (HR.out _) ?_; rintro e w1 ⟨a1, c1, rfl, hl, hb1⟩; obtain ⟨k1, k2, hb0, hz, hz1⟩ := two_new w _ _ _ _ hb1; have HB : Hid (Below w.heap.size w w1) := hb0; have HL : Hid (Rl w1 a1 xs) := hl; have HK1 : Hid _ := k1; have c0 := k1.c 0 _ rfl; have c1' := k1.c 1 _ rfl; have c2 := k1.c 2 _ rfl; have c3 := k1.c 3 _ rfl; have c4 := k1.c 4 _ rfl; have r0 := k2.c 0 _ rfl; have r1 := k2.c 1 _ rfl; have r2 := k2.c 2 _ rfl; have r3 := k2.c 3 _ rfl; have r4 := k2.c 4 _ rfl; have f0 := k2.f 0; have f1 := k2.f 1; have f2 := k2.f 2; have f3 := k2.f 3; have f4 := k2.f 4; have HK2 : Hid _ := k2; clear hb1 hb0 k1 k2 hl HR)
        | (go_at_call 83; refine Calls.mono (HA.out _ _ _ (HF.out.below HB.out) HL.out) ?_; rintro e w2 ⟨rfl, hw2⟩; subst hw2))
      have hqc : (w2.cell? ⟨q, na * 2 + 1, none⟩ = some (.int .i64 va)) ∧ w2.cell? ⟨q, nb * 2 + 1, none⟩ = some (.int .i64 vb) := ⟨((bcell HB.out).1 _ _ hqw).trans ca, ((bcell HB.out).1 _ _ hqw).trans cb⟩
      obtain ⟨qa, qb⟩ := hqc
      clear ca cb
      go_quiet (first | (go_at_call 79; refine Calls.quiet_of_same (HRk.out _)))
      rename Nat => n1
      have R1 : Hid (Op.At (w2.drewN n1) w.heap.size #[.int .i8 op, .int .u8 d, .int .u8 na, .int .u8 nb, .int .i64 im]) := ⟨fun j v h => HK1.out.c j v h, fun j => HK1.out.f j, HK1.out.lt⟩
      have R2 : Hid (Op.At (w2.drewN n1) (w.heap.size + 1) #[.int .i8 0, .int .u8 0, .int .u8 0, .int .u8 0, .int .i64 0]) := ⟨fun j v h => HK2.out.c j v h, fun j => HK2.out.f j, HK2.out.lt⟩
      have HB5 : Hid (Below w.heap.size w (w2.drewN n1)) := drewN_below HB.out n1
      clear c0 c1' c2 c3 c4 r0 r1 r2 r3 r4 f0 f1 f2 f3 f4 HK1 HK2 HB HL qa qb hz hz1 HA HF
      generalize w2.drewN n1 = w5 at *
      have c1 := R1.out.c 1 _ rfl
      go_upto_region 6 with fail
      have HB6 : Hid (Below w.heap.size w (w5.alloc (.cells #[.int .i8 1, .int .u8 d, .int .u8 0, .int .u8 0, .int .i64 vv] 51))) := HB5.out.alloc HB5.out.size _
      have k1 := R1.out.alloc (.cells #[.int .i8 1, .int .u8 d, .int .u8 0, .int .u8 0, .int .i64 vv] 51)
      have k2 := R2.out.alloc (.cells #[.int .i8 1, .int .u8 d, .int .u8 0, .int .u8 0, .int .i64 vv] 51)
      generalize w5.alloc (.cells #[.int .i8 1, .int .u8 d, .int .u8 0, .int .u8 0, .int .i64 vv] 51) = w6 at *
      have r0 := k2.c 0 _ rfl; have r1 := k2.c 1 _ rfl; have r2 := k2.c 2 _ rfl; have r3 := k2.c 3 _ rfl; have r4 := k2.c 4 _ rfl; have f0 := k2.f 0; have f1 := k2.f 1; have f2 := k2.f 2; have f3 := k2.f 3; have f4 := k2.f 4; have e0 := k1.c 0 _ rfl; have e1 := k1.c 1 _ rfl; have e2 := k1.c 2 _ rfl; have e3 := k1.c 3 _ rfl; have e4 := k1.c 4 _ rfl
      clear k1 k2 c1 R1 R2
      go_wp2_with fail
      refine bodyPost_ret (v := .agg #[.int .i8 op, .int .u8 d, .int .u8 na, .int .u8 nb, .int .i64 im]) (by simp [results, Tryz.results64, go_sem, r0, r1, r2, r3, r4]) rfl ⟨rfl, ?_⟩
      exact below_set5 HB6.out (by omega) _ _ _ _ _
end Go.Proofs.YtddcndlogoajkaaGreatDoor.L8.Bt
