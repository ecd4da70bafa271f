/- For all numbers, widths and places: a number that fits into a field comes back out of it, sign and all, and one that does not fit does not; the call of the statement returns true. No condition. -/
import Derived.Test.YtoejiloflclpdaaRows
import Derived.WalkKit
import Derived.ProofKit
import Derived.OpenShut
import Derived.Test.YtoejiloflclpdaaLaws
namespace Go.Proofs.Ytoejiloflclpdaa.bitsSigned
open Go.ChangeShapes Go.WideShapes Go.ChangeAt Go.RowKit Go.Proofs.Ytoejiloflclpdaa.Bt
set_option linter.unusedVariables false      -- a walk need not use every 'w<i>' (that an integer argument fits its kind)

theorem own : ownKnob Try.prog.godebug = none := by kernel_rfl

theorem walk_lo (a0 : Int) (a1 : Int) (a2 : Int) (w : World) (h1 : a1 < 1) :
    Calls Try.prog 5 #[.int .i64 a0, .int .i64 a1, .int .i64 a2] w fun e w' => e = .returned (.bool true) ∧ Grown w w' := by
  have f1 := fits_form a0 1
  have f2 := fits_sg (IntKind.u64.wrap a0) 1
  by_cases h3 : a2 < 0
  · go_enter Try.func5, Try.ntmps5
    go_wp2_with (first
      | (go_at_call 6; refine (put_any _ _ _ _ _ (by omega) (by omega) (by first | omega | exact wrap_u64_nonneg _)).mono ?_; rintro e w' ⟨rfl, rfl⟩)
      | (go_at_call 8; refine (get_any _ _ _ _ (by omega) (by omega)).mono ?_; rintro e w' ⟨rfl, rfl⟩)
      | (go_at_call 10; refine (signed_any _ _ _).mono ?_; rintro e w' ⟨rfl, rfl⟩)
      | (go_at_call 12; refine (fits_any _ _ _).mono ?_; rintro e w' ⟨rfl, rfl⟩)
      | (go_at_call 14; refine (wakes_any _).mono ?_; rintro e w' ⟨rfl, rfl⟩))
    go_ret
    exact ⟨rfl, Grown.refl _⟩
  · by_cases h4 : 64 - 1 < a2
    · go_enter Try.func5, Try.ntmps5
      go_wp2_with (first
      | (go_at_call 6; refine (put_any _ _ _ _ _ (by omega) (by omega) (by first | omega | exact wrap_u64_nonneg _)).mono ?_; rintro e w' ⟨rfl, rfl⟩)
      | (go_at_call 8; refine (get_any _ _ _ _ (by omega) (by omega)).mono ?_; rintro e w' ⟨rfl, rfl⟩)
      | (go_at_call 10; refine (signed_any _ _ _).mono ?_; rintro e w' ⟨rfl, rfl⟩)
      | (go_at_call 12; refine (fits_any _ _ _).mono ?_; rintro e w' ⟨rfl, rfl⟩)
      | (go_at_call 14; refine (wakes_any _).mono ?_; rintro e w' ⟨rfl, rfl⟩))
      go_ret
      exact ⟨rfl, Grown.refl _⟩
    · have hf : fieldB a2 1 = true := (field_iff _ _).2 (by omega)
      have f3 : (sgI (getI (putI 0 a2 1 (IntKind.u64.wrap (sgI (IntKind.u64.wrap a0) 1))) a2 1) 1 == sgI (IntKind.u64.wrap a0) 1) = true := by
        rw [sg_back _ _ _ hf, beq_iff_eq]
        exact of_decide_eq_true (fits_sg (IntKind.u64.wrap a0) 1)
      have p0 := putI_lo 0 a2 1 (IntKind.u64.wrap (sgI (IntKind.u64.wrap a0) 1)) (by omega)
      have p1 := putI_hi 0 a2 1 (IntKind.u64.wrap (sgI (IntKind.u64.wrap a0) 1)) (by omega) (by omega)
      clear hf
      go_enter Try.func5, Try.ntmps5
      go_wp2_with (first
      | (go_at_call 6; refine (put_any _ _ _ _ _ (by omega) (by omega) (by first | omega | exact wrap_u64_nonneg _)).mono ?_; rintro e w' ⟨rfl, rfl⟩)
      | (go_at_call 8; refine (get_any _ _ _ _ (by omega) (by omega)).mono ?_; rintro e w' ⟨rfl, rfl⟩)
      | (go_at_call 10; refine (signed_any _ _ _).mono ?_; rintro e w' ⟨rfl, rfl⟩)
      | (go_at_call 12; refine (fits_any _ _ _).mono ?_; rintro e w' ⟨rfl, rfl⟩)
      | (go_at_call 14; refine (wakes_any _).mono ?_; rintro e w' ⟨rfl, rfl⟩))
      go_ret
      exact ⟨rfl, Grown.refl _⟩

theorem walk_hi (a0 : Int) (a1 : Int) (a2 : Int) (w : World) (h1 : 64 < a1) :
    Calls Try.prog 5 #[.int .i64 a0, .int .i64 a1, .int .i64 a2] w fun e w' => e = .returned (.bool true) ∧ Grown w w' := by
  have f1 := fits_form a0 64
  have f2 := fits_sg (IntKind.u64.wrap a0) 64
  by_cases h3 : a2 < 0
  · go_enter Try.func5, Try.ntmps5
    go_wp2_with (first
      | (go_at_call 6; refine (put_any _ _ _ _ _ (by omega) (by omega) (by first | omega | exact wrap_u64_nonneg _)).mono ?_; rintro e w' ⟨rfl, rfl⟩)
      | (go_at_call 8; refine (get_any _ _ _ _ (by omega) (by omega)).mono ?_; rintro e w' ⟨rfl, rfl⟩)
      | (go_at_call 10; refine (signed_any _ _ _).mono ?_; rintro e w' ⟨rfl, rfl⟩)
      | (go_at_call 12; refine (fits_any _ _ _).mono ?_; rintro e w' ⟨rfl, rfl⟩)
      | (go_at_call 14; refine (wakes_any _).mono ?_; rintro e w' ⟨rfl, rfl⟩))
    go_ret
    exact ⟨rfl, Grown.refl _⟩
  · by_cases h4 : 64 - 64 < a2
    · go_enter Try.func5, Try.ntmps5
      go_wp2_with (first
      | (go_at_call 6; refine (put_any _ _ _ _ _ (by omega) (by omega) (by first | omega | exact wrap_u64_nonneg _)).mono ?_; rintro e w' ⟨rfl, rfl⟩)
      | (go_at_call 8; refine (get_any _ _ _ _ (by omega) (by omega)).mono ?_; rintro e w' ⟨rfl, rfl⟩)
      | (go_at_call 10; refine (signed_any _ _ _).mono ?_; rintro e w' ⟨rfl, rfl⟩)
      | (go_at_call 12; refine (fits_any _ _ _).mono ?_; rintro e w' ⟨rfl, rfl⟩)
      | (go_at_call 14; refine (wakes_any _).mono ?_; rintro e w' ⟨rfl, rfl⟩))
      go_ret
      exact ⟨rfl, Grown.refl _⟩
    · have hf : fieldB a2 64 = true := (field_iff _ _).2 (by omega)
      have f3 : (sgI (getI (putI 0 a2 64 (IntKind.u64.wrap (sgI (IntKind.u64.wrap a0) 64))) a2 64) 64 == sgI (IntKind.u64.wrap a0) 64) = true := by
        rw [sg_back _ _ _ hf, beq_iff_eq]
        exact of_decide_eq_true (fits_sg (IntKind.u64.wrap a0) 64)
      have p0 := putI_lo 0 a2 64 (IntKind.u64.wrap (sgI (IntKind.u64.wrap a0) 64)) (by omega)
      have p1 := putI_hi 0 a2 64 (IntKind.u64.wrap (sgI (IntKind.u64.wrap a0) 64)) (by omega) (by omega)
      clear hf
      go_enter Try.func5, Try.ntmps5
      go_wp2_with (first
      | (go_at_call 6; refine (put_any _ _ _ _ _ (by omega) (by omega) (by first | omega | exact wrap_u64_nonneg _)).mono ?_; rintro e w' ⟨rfl, rfl⟩)
      | (go_at_call 8; refine (get_any _ _ _ _ (by omega) (by omega)).mono ?_; rintro e w' ⟨rfl, rfl⟩)
      | (go_at_call 10; refine (signed_any _ _ _).mono ?_; rintro e w' ⟨rfl, rfl⟩)
      | (go_at_call 12; refine (fits_any _ _ _).mono ?_; rintro e w' ⟨rfl, rfl⟩)
      | (go_at_call 14; refine (wakes_any _).mono ?_; rintro e w' ⟨rfl, rfl⟩))
      go_ret
      exact ⟨rfl, Grown.refl _⟩

theorem walk_mid (a0 : Int) (a1 : Int) (a2 : Int) (w : World) (h1 : 1 ≤ a1) (h2 : a1 ≤ 64) :
    Calls Try.prog 5 #[.int .i64 a0, .int .i64 a1, .int .i64 a2] w fun e w' => e = .returned (.bool true) ∧ Grown w w' := by
  have f1 := fits_form a0 a1
  have f2 := fits_sg (IntKind.u64.wrap a0) a1
  by_cases h3 : a2 < 0
  · go_enter Try.func5, Try.ntmps5
    go_wp2_with (first
      | (go_at_call 6; refine (put_any _ _ _ _ _ (by omega) (by omega) (by first | omega | exact wrap_u64_nonneg _)).mono ?_; rintro e w' ⟨rfl, rfl⟩)
      | (go_at_call 8; refine (get_any _ _ _ _ (by omega) (by omega)).mono ?_; rintro e w' ⟨rfl, rfl⟩)
      | (go_at_call 10; refine (signed_any _ _ _).mono ?_; rintro e w' ⟨rfl, rfl⟩)
      | (go_at_call 12; refine (fits_any _ _ _).mono ?_; rintro e w' ⟨rfl, rfl⟩)
      | (go_at_call 14; refine (wakes_any _).mono ?_; rintro e w' ⟨rfl, rfl⟩))
    go_ret
    exact ⟨rfl, Grown.refl _⟩
  · by_cases h4 : 64 - a1 < a2
    · go_enter Try.func5, Try.ntmps5
      go_wp2_with (first
      | (go_at_call 6; refine (put_any _ _ _ _ _ (by omega) (by omega) (by first | omega | exact wrap_u64_nonneg _)).mono ?_; rintro e w' ⟨rfl, rfl⟩)
      | (go_at_call 8; refine (get_any _ _ _ _ (by omega) (by omega)).mono ?_; rintro e w' ⟨rfl, rfl⟩)
      | (go_at_call 10; refine (signed_any _ _ _).mono ?_; rintro e w' ⟨rfl, rfl⟩)
      | (go_at_call 12; refine (fits_any _ _ _).mono ?_; rintro e w' ⟨rfl, rfl⟩)
      | (go_at_call 14; refine (wakes_any _).mono ?_; rintro e w' ⟨rfl, rfl⟩))
      go_ret
      exact ⟨rfl, Grown.refl _⟩
    · have hf : fieldB a2 a1 = true := (field_iff _ _).2 (by omega)
      have f3 : (sgI (getI (putI 0 a2 a1 (IntKind.u64.wrap (sgI (IntKind.u64.wrap a0) a1))) a2 a1) a1 == sgI (IntKind.u64.wrap a0) a1) = true := by
        rw [sg_back _ _ _ hf, beq_iff_eq]
        exact of_decide_eq_true (fits_sg (IntKind.u64.wrap a0) a1)
      have p0 := putI_lo 0 a2 a1 (IntKind.u64.wrap (sgI (IntKind.u64.wrap a0) a1)) (by omega)
      have p1 := putI_hi 0 a2 a1 (IntKind.u64.wrap (sgI (IntKind.u64.wrap a0) a1)) (by omega) (by omega)
      clear hf
      go_enter Try.func5, Try.ntmps5
      go_wp2_with (first
      | (go_at_call 6; refine (put_any _ _ _ _ _ (by omega) (by omega) (by first | omega | exact wrap_u64_nonneg _)).mono ?_; rintro e w' ⟨rfl, rfl⟩)
      | (go_at_call 8; refine (get_any _ _ _ _ (by omega) (by omega)).mono ?_; rintro e w' ⟨rfl, rfl⟩)
      | (go_at_call 10; refine (signed_any _ _ _).mono ?_; rintro e w' ⟨rfl, rfl⟩)
      | (go_at_call 12; refine (fits_any _ _ _).mono ?_; rintro e w' ⟨rfl, rfl⟩)
      | (go_at_call 14; refine (wakes_any _).mono ?_; rintro e w' ⟨rfl, rfl⟩))
      go_ret
      exact ⟨rfl, Grown.refl _⟩

/-! ### STEP 1: THE WALK: the Go text returns true. 'Grown w w'': the world has at most new blocks (Derived/RowKit3.lean). Part the cases AHEAD of 'go_enter' where a test parts the walk; take each callee by a contract of your own. -/
theorem walk (a0 : Int) (a1 : Int) (a2 : Int) (w0 : (Lit.int .i64 a0).wf = true) (w1 : (Lit.int .i64 a1).wf = true) (w2 : (Lit.int .i64 a2).wf = true) (w : World) :
    Calls Try.prog 5 #[.int .i64 a0, .int .i64 a1, .int .i64 a2] w fun e w' => e = .returned (.bool true) ∧ Grown w w' := by
  by_cases h1 : a1 < 1
  · exact walk_lo a0 a1 a2 w h1
  · by_cases h2 : 64 < a1
    · exact walk_hi a0 a1 a2 w h2
    · exact walk_mid a0 a1 a2 w (by omega) (by omega)

/-! ### THE ROW's STEP: WRITTEN OUT: LEAVE IT -/
set_option maxRecDepth 100000 in
theorem lifted (os : Os) (started : os.Started) (H : Type) (enc : TypeId × Value → H) :
    ReturnsInHanded {} Try.checked os 5 .any (Rows.bitsSignedSpec.pre6 enc Try.prog Try.f5 Rows.bitsSignedRow.domain false) (Rows.bitsSignedSpec.post enc Try.prog Try.f5 false true false false) := by
  refine returnsInHanded_of_change (C := Try.checked) own started (by kernel_rfl) Try.func5
    (ChangeSpec.witness6 (enc := enc) (C := Try.checked) false ⟨#[], #[.int .i64 0, .int .i64 0, .int .i64 0], []⟩ 8 (by kernel_rfl) (by kernel_rfl) (by kernel_rfl) (by kernel_rfl)) ?_
  intro W base args ds gs before hval0 hW hcnd _
  have hval : ∀ (j : Nat) t v, Try.f5.params[j]? = some t → args[j]? = some v → Value.okWide Try.prog W .any base t v := hval0
  have hW' := hW
  obtain ⟨p, q, hA0, hV, rfl, hfz, hnd⟩ := hW
  have hA : DataW.TrodAll enc Try.prog W 0 (fun _ => true) true Try.f5.params.toList args.toList ds p := hA0
  rw [Try.params5] at hA hval
  obtain ⟨v0, vs0, d0, ds0, p0, q0, hargs, rfl, rfl, h0, r0⟩ := trodAll_cons hA
  obtain ⟨v1, vs1, d1, ds1, p1, q1, rfl, rfl, rfl, h1, r1⟩ := trodAll_cons r0
  obtain ⟨v2, vs2, d2, ds2, p2, q2, rfl, rfl, rfl, h2, r2⟩ := trodAll_cons r1
  obtain ⟨rfl, rfl, rfl⟩ := trodAll_nil r2
  obtain rfl : args = #[v0, v1, v2] := by cases args; simp_all
  obtain ⟨rfl, rfl⟩ := trodVars_none hV
  obtain ⟨a0, rfl, rfl, rfl, w0⟩ := open_int Try.underlying2 (hval 0 2 v0 rfl rfl) h0
  obtain ⟨a1, rfl, rfl, rfl, w1⟩ := open_int Try.underlying3 (hval 1 3 v1 rfl rfl) h1
  obtain ⟨a2, rfl, rfl, rfl, w2⟩ := open_int Try.underlying3 (hval 2 3 v2 rfl rfl) h2
  clear hA0 hval0
  simp only [List.append_nil] at hW'
  refine (walk a0 a1 a2 w0 w1 w2 W).mono fun e W' ⟨he, hg⟩ => ?_
  subst he
  exact ⟨_, rfl, post_of_same (pa := []) (pv := []) hW' (fun _ _ _ => (trodAll_cons_mk (shut_bool Try.underlying4 _) trodAll_mk0)) (fun sp _ => (trodAll_cons_mk (shut_int Try.underlying2 w0) (trodAll_cons_mk (shut_int Try.underlying3 w1) (trodAll_cons_mk (shut_int Try.underlying3 w2) trodAll_mk0)))) (fun _ _ => rfl) rfl
    (hg.frame _) hg.2.1 (ok_one (by kernel_rfl) rfl (okWide_bool_mk Try.underlying4 _))⟩

theorem over : Rows.bitsSignedRow.holds Try.pinned (OpenSpec.ofChange Rows.bitsSignedSpec) :=
  OpenClaim.holds_of_wide 5 Try.f5 rfl rfl rfl rfl rfl rfl rfl ⟨rfl, rfl, rfl, rfl, rfl⟩ rfl rfl rfl rfl rfl (by kernel_rfl) Try.func5 (by kernel_rfl)
    (of_decide_eq_true (by kernel_rfl)) (by unfold Func.isWrapper; first | (rw [if_pos (by decide +kernel)]; kernel_rfl) | (rw [if_neg (by decide +kernel)]; exact ⟨rfl, rfl⟩))
    (fun os started H enc _ => lifted os started H enc)

/-- ████ THE STATEMENT ████ -/
theorem proved : Rows.BitsSignedSaid :=
  over
#print axioms proved
end Go.Proofs.Ytoejiloflclpdaa.bitsSigned
