/- The statement BundleJust, whole: words that are read at all are just those that are written of what was read; the listed variables are tied to the program text. Conditions: none. -/
import Derived.Test.YtckjioiijmmopaaDoorWl
import Derived.Test.YtckjioiijmmopaaDoorOo
namespace Go.Proofs.YtckjioiijmmopaaDoor.Bc
open Go.ChangeShapes Go.WideShapes Go.ChangeAt Go.RowKit
open _root_.Go.Proofs.YtckjioiijmmopaaDoor.Op _root_.Go.Proofs.YtckjioiijmmopaaDoor.Bu

set_option maxRecDepth 100000 in
theorem just_wit (os : Os) (H : Type) (enc : TypeId × Value → H) : ∃ (w : World) (tape : Tape) (i : Input), w.os = os ∧ (w.forCall tape i).Shaped Tryd.prog ∧ i.vars = [] ∧ Input.okWide Tryd.prog (w.forCall tape i) .any w.heap.size 5 i ∧
      ((Rows.bundleJustSpec.pre enc Tryd.prog Tryd.f5 [] false (w.forCall tape i).memory i.args ∧ laidMetH Tryd.prog Rows.bundleJustRow.laid (w.forCall tape i).memory) ∧ sizedMet enc Tryd.prog Tryd.f5 (OpenSpec.ofChange Rows.bundleJustSpec) false (w.forCall tape i).memory i.args) ∧ Assume.holds {} Tryd.prog (lone (Frame.enter Tryd.prog 5 i.args .normal) [] (w.forCall tape i)) :=
  ChangeSpec.witness_shaped (enc := enc) (C := Tryd.checked) (os := os) (X := fun w _ => laidMetH Tryd.prog Rows.bundleJustRow.laid w) false ((World.holding Tryd.prog os ⟨#[], #[], []⟩).layVars Tryd.prog laid4) #[.slice none 0 0, .agg #[.int .i64 0, .int .i64 0, .int .i64 0, .int .i64 0, .int .i64 0, .int .i64 0, .int .i64 0, .int .i64 0, .int .i64 0, .int .i64 0, .int .i64 0, .int .i64 0, .int .i64 0]] 8 (wit_os4 os)
    (World.shaped_of_ZipB (by kernel_rfl) (by kernel_rfl)) (by kernel_rfl) (by kernel_rfl) (by kernel_rfl) (wit_met4 os _)

set_option maxRecDepth 100000 in
theorem just_lifted (os : Os) (started : os.Started) (H : Type) (enc : TypeId × Value → H) :
    ReturnsInHanded {} Tryd.checked os 5 .any (fun w args => (Rows.bundleJustSpec.pre enc Tryd.prog Tryd.f5 [] false w args ∧ laidMetH Tryd.prog Rows.bundleJustRow.laid w) ∧ sizedMet enc Tryd.prog Tryd.f5 (OpenSpec.ofChange Rows.bundleJustSpec) false w args)
      (Rows.bundleJustSpec.post enc Tryd.prog Tryd.f5 false true false false) := by
  refine wrap started (by kernel_rfl) Tryd.func5 (just_wit os H enc) ?_
  intro W base args ds gs before hval0 hW hsz hL hsh
  have hval : ∀ (j : Nat) t v, Tryd.f5.params[j]? = some t → args[j]? = some v → Value.okWide Tryd.prog W .any base t v := hval0
  have hW' := hW
  obtain ⟨p, q, hA0, hV, rfl, _, _⟩ := hW
  have hA : DataW.TrodAll enc Tryd.prog W 0 (fun _ => true) true Tryd.f5.params.toList args.toList ds p := hA0
  rw [Tryd.params5] at hA hval hsz
  obtain ⟨v0, v1, d0, d1, p0, p1, rfl, rfl, rfl, h0, h1⟩ := trodAll_two hA
  obtain ⟨rfl, rfl⟩ := trodVars_none hV
  obtain ⟨ao0, n0, cap0, g0, rfl, hc0, hn0, hx0⟩ := open_ws (hval 0 23 v0 rfl rfl) h0 fun n hn => by
    have := List.all_eq_true.1 hsz n (DataW.weights_mem_each (j := 0) rfl rfl n hn)
    simpa using this
  obtain ⟨⟨t, rfl⟩, rfl⟩ := open_tab (hval 1 26 v1 rfl rfl) h1
  simp only [List.append_nil] at hW'
  refine (law_just ao0 n0 cap0 g0 t W hx0 hc0 hn0 (env4 hL hsh)).mono fun e W' ⟨he, hb⟩ => ?_
  subst he
  refine ⟨_, rfl, _, _, _, [], p0 ++ ([]), [], hW', trodAll_mk1 (shut_bool Tryd.underlying4 _), ?_, rfl, hb.frame _, fun h => by cases h⟩
  rw [Tryd.params5]
  exact trodAll_mk2 (Below.trod laidOut (by kernel_rfl) (by rw [tySize]; decide) h0 hb fun x hx => by obtain ⟨fuel, hf⟩ := h0; exact DataW.trod_lt _ _ _ _ hf x hx) (Below.trod laidOut (by kernel_rfl) (by rw [tySize]; decide) h1 hb (fun x hx => by cases hx))

theorem just_row : Rows.BundleJustSaid :=
  OpenClaim.holds_of_wide 5 Tryd.f5 rfl rfl rfl rfl rfl rfl rfl ⟨rfl, rfl, rfl, rfl, rfl⟩ rfl rfl rfl rfl rfl (by kernel_rfl) Tryd.func5 (by kernel_rfl)
    (of_decide_eq_true (by kernel_rfl)) (by unfold Func.isWrapper; first | (rw [if_pos (by decide +kernel)]; kernel_rfl) | (rw [if_neg (by decide +kernel)]; exact ⟨rfl, rfl⟩))
    (fun os started H enc _ => just_lifted os started H enc)

theorem just_card : Rows.BundleJustCardSaid :=
  Claim7.holds_tied_plain_at .later [] [.wider, .wider, .wider, .wider] true (true, "aafdc7f16f9a8e1ce8f0c96d1c9c614d01525e5ba0139f082757b788102d2fa3") false just_row (fun _ h => by cases h) (by kernel_rfl) (fun _ h => by cases h) bundleJust_row_tie rfl ⟨rfl, rfl⟩ (by kernel_rfl) rfl
    (fun f fn hf hfn => by
      obtain rfl : f = 5 := Option.some.inj ((show Tryd.prog.funcNamed "hayloft/hayloftlaw19.BundleJust" = some 5 by kernel_rfl).symm.trans hf) |>.symm
      obtain rfl : fn = Tryd.f5 := (Option.some.inj (Tryd.func5.symm.trans hfn)).symm
      exact ⟨by kernel_rfl, fun j t ht => by
        rw [Tryd.params5] at ht
        have hm : t ∈ [23, 26] := by simpa using Array.mem_of_getElem? ht
        have hall : ([23, 26].all fun u => !Tryd.prog.wantsStandIn u) = true := by kernel_rfl
        exact (show Tryd.prog.wantsStandIn t = false by simpa using List.all_eq_true.1 hall t hm)⟩)
    (by kernel_rfl)
#print axioms just_card
end Go.Proofs.YtckjioiijmmopaaDoor.Bc
