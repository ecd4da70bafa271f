/- The statement ParseBlank, whole: of any text and any bytes, blanks, remarks and empty lines between lines make no difference; the listed variables are tied to the program's text. Conditions: none. -/
import Derived.Test.YthfchelkfbboaaaGreatDoorLb
import Derived.Test.YthfchelkfbboaaaGreatDoorFr
import Derived.Carry
import Derived.ChangeSlices
namespace Go.Proofs.YthfchelkfbboaaaGreatDoor.Pr
open Go.ChangeShapes Go.WideShapes Go.ChangeAt Go.RowKit

theorem cells5 : Tryz.prog.cellsOf 5 = 1 := by kernel_rfl
theorem wfb {n : Int} (h : (Lit.int .u8 n).wf = true) : 0 ≤ n ∧ n ≤ 255 := by
  simp [Lit.wf, IntKind.min, IntKind.max, IntKind.signed, IntKind.bits] at h
  omega
set_option maxRecDepth 100000 in
/-- Bytes that come in, in memory. -/
theorem open_between {H : Type} {enc : TypeId × Value → H} {W : World} {r : Reach} {base : Nat} {held : Bool} {v : Value} {d : DataW H} {p : List MemPlace} (hv : Value.okWide Tryz.prog W r base 38 v) (h : DataW.Trod enc Tryz.prog W 0 (fun _ => true) held 38 v d p) : ∃ bo bl bcap, v = .slice bo bl bcap ∧ BtAt W bo bl := by
  obtain ⟨a1, len, cap, rfl⟩ := okWide_slice Tryz.underlying38 hv
  obtain ⟨fuel, hf⟩ := h
  refine ⟨a1, len, cap, rfl, ?_⟩
  rcases open_ints Tryz.underlying38 Tryz.underlying5 cells5 hf with ⟨hcs, hx⟩ | ⟨a, len', cap', zs, hcs, _, hl, hm, hz, hx, hcell, hwz⟩
  · simp [Value.cells] at hcs
    obtain ⟨rfl, rfl, rfl⟩ := hcs
    exact ⟨Nat.zero_le _, fun h => absurd h (by decide)⟩
  · simp [Value.cells] at hcs
    obtain ⟨rfl, rfl, rfl⟩ := hcs
    simp only [if_true] at hz
    refine ⟨by omega, fun h0 => ?_⟩
    obtain ⟨ab, ao, spot⟩ := a
    have hspot : spot = none := by simpa [Addr.add] using World.cell?_spot (hcell 0 (by omega))
    subst hspot
    have hc : ∀ j, j < len → W.cell? ⟨ab, ao + j, none⟩ = some (.int .u8 (zs.getD j 0)) := fun j hj => by
      have := hcell j (by omega)
      rw [Addr.add_lit] at this
      exact this
    refine ⟨ab, ao, rfl, ?_, fun j hj => ?_⟩
    · have h1 := hc 0 h0
      rcases Nat.lt_or_ge ab W.heap.size with h | h
      · exact h
      · simp [World.cell?, Array.getElem?_eq_none h] at h1
    · have hm' : zs.getD j 0 ∈ zs := by
        rw [List.getD_eq_getElem?_getD, List.getElem?_eq_getElem (show j < zs.length by omega)]
        exact List.getElem_mem _
      have hw := wfb (hwz _ hm')
      refine ⟨(zs.getD j 0).toNat, by omega, ?_⟩
      rw [hc j hj, Int.toNat_of_nonneg hw.1]

set_option maxRecDepth 100000 in
theorem blank_c_wit (os : Os) (H : Type) (enc : TypeId × Value → H) : ∃ (w : World) (tape : Tape) (i : Input), w.os = os ∧ (w.forCall tape i).Shaped Tryz.prog ∧ i.vars = [] ∧ Input.okWide Tryz.prog (w.forCall tape i) .any w.heap.size 4 i ∧
      ((Rows.parseBlankSpec.pre enc Tryz.prog Tryz.f4 [] false (w.forCall tape i).memory i.args ∧ laidMetH Tryz.prog Rows.parseBlankRow.laid (w.forCall tape i).memory) ∧ sizedMet enc Tryz.prog Tryz.f4 (OpenSpec.ofChange Rows.parseBlankSpec) false (w.forCall tape i).memory i.args) ∧ Assume.holds {} Tryz.prog (lone (Frame.enter Tryz.prog 4 i.args .normal) [] (w.forCall tape i)) :=
  ChangeSpec.witness_shaped (enc := enc) (C := Tryz.checked) (os := os) (X := fun w _ => laidMetH Tryz.prog Rows.parseBlankRow.laid w) false (({ World.holding Tryz.prog os ⟨#[], #[], []⟩ with heap := (World.holding Tryz.prog os ⟨#[], #[], []⟩).heap.modify 0 fun | .cells _ t fz => .cells #[.iface 150 (.agg #[.pointer (some ⟨8, 26, none⟩)])] t fz | o => o } : World).layVars Tryz.prog laid6) #[.string ⟨#[]⟩, .slice none 0 0] 8 (wit_os os)
    (World.shaped_of_ZipB (by kernel_rfl) (by kernel_rfl)) (by kernel_rfl) (by kernel_rfl) (by kernel_rfl) (wit_met os _)

set_option maxRecDepth 100000 in
theorem blank_c_lifted (os : Os) (started : os.Started) (H : Type) (enc : TypeId × Value → H) :
    ReturnsInHanded {} Tryz.checked os 4 .any (fun w args => (Rows.parseBlankSpec.pre enc Tryz.prog Tryz.f4 [] false w args ∧ laidMetH Tryz.prog Rows.parseBlankRow.laid w) ∧ sizedMet enc Tryz.prog Tryz.f4 (OpenSpec.ofChange Rows.parseBlankSpec) false w args)
      (Rows.parseBlankSpec.post enc Tryz.prog Tryz.f4 false true false false) := by
  refine wrap started (by kernel_rfl) Tryz.func4 (blank_c_wit os H enc) ?_
  intro W base args ds gs before hval0 hW _ hL hsh
  have hval : ∀ (j : Nat) t v, Tryz.f4.params[j]? = some t → args[j]? = some v → Value.okWide Tryz.prog W .any base t v := hval0
  have hW' := hW
  obtain ⟨p, q, hA0, hV, rfl, _, _⟩ := hW
  have hA : DataW.TrodAll enc Tryz.prog W 0 (fun _ => true) true Tryz.f4.params.toList args.toList ds p := hA0
  rw [Tryz.params4] at hA hval
  obtain ⟨v0, v1, d0, d1, p0, p1, rfl, rfl, rfl, h0, h1⟩ := trodAll_two hA
  obtain ⟨rfl, rfl⟩ := trodVars_none hV
  obtain ⟨s, rfl, rfl, rfl, hs⟩ := Go.ChangeMaps.open_string Tryz.underlying9 (hval 0 9 v0 rfl rfl) h0
  obtain ⟨bo, bl, bcap, rfl, hbt⟩ := open_between (hval 1 38 v1 rfl rfl) h1
  simp only [List.append_nil] at hW'
  refine (law_blank s bo bl bcap W hs (vars_of hL hsh) hbt).mono fun e W' ⟨he, hb⟩ => ?_
  subst he
  refine ⟨_, rfl, _, _, _, [], [] ++ p1, [], hW', trodAll_mk1 (shut_bool Tryz.underlying4 _), ?_, rfl, hb.frame _, fun h => by cases h⟩
  rw [Tryz.params4]
  refine trodAll_mk2 (Below.trod laidOut (by kernel_rfl) (by rw [tySize]; decide) h0 hb (fun x hx => by cases hx)) (Below.trod laidOut (by kernel_rfl) (by rw [tySize]; decide) h1 hb fun x hx => ?_)
  obtain ⟨fuel, hf⟩ := h1
  exact DataW.trod_lt _ _ _ _ hf x hx

theorem blank_c_row : Rows.ParseBlankSaid :=
  OpenClaim.holds_of_wide 4 Tryz.f4 rfl rfl rfl rfl rfl rfl rfl ⟨rfl, rfl, rfl, rfl, rfl⟩ rfl rfl rfl rfl rfl (by kernel_rfl) Tryz.func4 (by kernel_rfl)
    (of_decide_eq_true (by kernel_rfl)) (by unfold Func.isWrapper; first | (rw [if_pos (by decide +kernel)]; kernel_rfl) | (rw [if_neg (by decide +kernel)]; exact ⟨rfl, rfl⟩))
    (fun os started H enc _ => blank_c_lifted os started H enc)

theorem blank : Rows.ParseBlankCardSaid :=
  Claim7.holds_tied_plain_at .later [] [.data, .data, .data, .handle, .sentinel, .sentinel, .data] true (true, "559803d73ea72840fbedaa5ba8ab91b7d5ea7e0181b392575a7ca54c53adc3b6") true blank_c_row (fun _ h => by cases h) (by kernel_rfl) (fun _ h => by cases h) parseBlank_row_tie rfl ⟨rfl, rfl⟩ (by kernel_rfl) rfl
    (fun f fn hf hfn => by
      obtain rfl : f = 4 := Option.some.inj ((show Tryz.prog.funcNamed "hayloft/hayloftlaw05.ParseBlank" = some 4 by kernel_rfl).symm.trans hf) |>.symm
      obtain rfl : fn = Tryz.f4 := (Option.some.inj (Tryz.func4.symm.trans hfn)).symm
      exact ⟨by kernel_rfl, fun j t ht => by
        rw [Tryz.params4] at ht
        have hm : t ∈ [9, 38] := by simpa using Array.mem_of_getElem? ht
        have hall : ([9, 38].all fun u => !Tryz.prog.wantsStandIn u) = true := by kernel_rfl
        exact (show Tryz.prog.wantsStandIn t = false by simpa using List.all_eq_true.1 hall t hm)⟩)
    (by kernel_rfl)

end Go.Proofs.YthfchelkfbboaaaGreatDoor.Pr
