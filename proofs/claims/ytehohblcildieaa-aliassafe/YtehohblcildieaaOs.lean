/- The statement AliasSafe, whole: two places of a list that touch the same cell when the list is gone through a few times may meet; any list, any state, any number. Conditions: none. -/
import Derived.Test.YtehohblcildieaaBd
import Derived.Test.YtehohblcildieaaOh
namespace Go.Proofs.Ytehohblcildieaa.Al
open Go.ChangeShapes Go.WideShapes Go.ChangeAt Go.RowKit
open _root_.Go.Proofs.Ytehohblcildieaa.Op

set_option maxRecDepth 100000 in
theorem safe_holds_lifted (os : Os) (started : os.Started) (H : Type) (enc : TypeId × Value → H) :
    ReturnsInHanded {} Try.checked os 4 .any (Rows.aliasSafeSpec.pre6 enc Try.prog Try.f4 Rows.aliasSafeRow.domain false) (Rows.aliasSafeSpec.post enc Try.prog Try.f4 false true false false) := by
  refine returnsInHanded_of_change_sized (C := Try.checked) own started (by kernel_rfl) Try.func4
    (ChangeSpec.witness6 (enc := enc) (C := Try.checked) false ⟨#[], #[.slice none 0 0, .agg #[.slice none 0 0, .slice none 0 0], .int .i64 0], []⟩ 8 (by kernel_rfl) (by kernel_rfl) (by kernel_rfl) (by kernel_rfl)) ?_
  intro W base args ds gs before hval0 hW _ hsz _
  have hval : ∀ (j : Nat) t v, Try.f4.params[j]? = some t → args[j]? = some v → Value.okWide Try.prog W .any base t v := hval0
  have hW' := hW
  obtain ⟨p, q, hA0, hV, rfl, _, _⟩ := hW
  have hA : DataW.TrodAll enc Try.prog W 0 (fun _ => true) true Try.f4.params.toList args.toList ds p := hA0
  rw [Try.params4] at hA hval hsz
  obtain ⟨v0, v1, v2, d0, d1, d2, p0, p1, p2, rfl, rfl, rfl, h0, h1, h2⟩ := trodAll_three hA
  obtain ⟨rfl, rfl⟩ := trodVars_none hV
  obtain ⟨ao, cap, xs, rfl, hp, hc⟩ := open_ops (hval 0 22 v0 rfl rfl) h0 fun n hn => by
    have := List.all_eq_true.1 hsz n (DataW.weights_mem_each (j := 0) rfl rfl n hn)
    simpa using this
  obtain ⟨ra, ma, rc, mc, rs, ms, rfl, ⟨hr, hm⟩, ir, im⟩ := open_state (hval 1 29 v1 rfl rfl) h1
  obtain ⟨n, rfl, rfl, rfl, hn⟩ := open_int Try.underlying3 (hval 2 3 v2 rfl rfl) h2
  simp only [List.append_nil] at hW'
  refine (law_safe ao cap xs ra ma rc mc rs ms n W hp hc hr hm ir im).mono fun e W' ⟨he, hb⟩ => ?_
  subst he
  refine ⟨_, rfl, _, _, _, [], p0 ++ (p1 ++ []), [], hW', trodAll_mk1 (shut_bool Try.underlying4 _), ?_, rfl, hb.frame _, fun h => by cases h⟩
  rw [Try.params4]
  refine trodAll_mk3 (Below.trod laidOut (by kernel_rfl) (by rw [tySize]; decide) h0 hb fun x hx => ?_) (Below.trod laidOut (by kernel_rfl) (by rw [tySize]; decide) h1 hb fun x hx => ?_) (Below.trod laidOut (by kernel_rfl) (by rw [tySize]; decide) h2 hb (fun x hx => by cases hx))
  · obtain ⟨fuel, hf⟩ := h0
    exact DataW.trod_lt _ _ _ _ hf x hx
  · obtain ⟨fuel, hf⟩ := h1
    exact DataW.trod_lt _ _ _ _ hf x hx

theorem safe_holds : Rows.AliasSafeSaid :=
  OpenClaim.holds_of_wide 4 Try.f4 rfl rfl rfl rfl rfl rfl rfl ⟨rfl, rfl, rfl, rfl, rfl⟩ rfl rfl rfl rfl rfl (by kernel_rfl) Try.func4 (by kernel_rfl)
    (of_decide_eq_true (by kernel_rfl)) (by unfold Func.isWrapper; first | (rw [if_pos (by decide +kernel)]; kernel_rfl) | (rw [if_neg (by decide +kernel)]; exact ⟨rfl, rfl⟩))
    (fun os started H enc _ => safe_holds_lifted os started H enc)
#print axioms safe_holds
end Go.Proofs.Ytehohblcildieaa.Al
