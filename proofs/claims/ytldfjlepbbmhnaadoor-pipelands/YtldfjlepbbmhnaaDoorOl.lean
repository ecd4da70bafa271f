/- The statement PipeLands, whole: whatever operation, table and state are handed in, a result lands exactly as many cycles behind its issue as its class's latency says; the listed variables are tied to the program's text. Conditions: none. -/
import Derived.Test.YtldfjlepbbmhnaaDoorUd
import Derived.Test.YtldfjlepbbmhnaaDoorUg
import Derived.Test.YtldfjlepbbmhnaaDoorUh
import Derived.Test.YtldfjlepbbmhnaaDoorUi
import Derived.Test.YtldfjlepbbmhnaaDoorOg
namespace Go.Proofs.YtldfjlepbbmhnaaDoor.Pp
open Go.ChangeShapes Go.WideShapes Go.ChangeAt Go.RowKit
open _root_.Go.Proofs.YtldfjlepbbmhnaaDoor.Op _root_.Go.Proofs.YtldfjlepbbmhnaaDoor.So _root_.Go.Proofs.YtldfjlepbbmhnaaDoor.Bu
open _root_.Go.Proofs.YtldfjlepbbmhnaaDoor.Tb (Tab TabAt Bnds)
set_option maxRecDepth 20000

theorem law_lands (o : O) (t : Tab) (ra ma : Option Addr) (rc mc : Nat) (rs ms : List Int) (w : World) (ho : o.Ok) (hG : Bnds w) (hr : NL w ra rs) (hm : NL w ma ms) (hri : ∀ x ∈ rs, I64 x) (hmi : ∀ x ∈ ms, I64 x) :
    Calls Tryd.prog 5 #[o.val, t.val, .agg #[.slice ra rs.length rc, .slice ma ms.length mc]] w (Yes w) := by
  cases hw : wrB o
  · exact lands_none o t ra ma _ rc _ mc w hG ho (.inl hw)
  · by_cases h1 : 32 < rs.length
    · exact lands_none o t ra ma _ rc _ mc w hG ho (.inr (.inl h1))
    · by_cases h2 : 256 < ms.length
      · exact lands_none o t ra ma _ rc _ mc w hG ho (.inr (.inr h2))
      · by_cases he : enE t (tw (rowB (clV o.op).toNat o)) = 0
        · by_cases hx : resE (newM rs ms) o = 0
          · by_cases k1 : o.op = 1
            · exact lands_1 o t ra ma rc mc rs ms w hG ho he hx k1 hw (by omega) (by omega) hr hm hri hmi
            · by_cases k15 : o.op = 15
              · exact lands_15 o t ra ma rc mc rs ms w hG ho he hx k15 hw (by omega) (by omega) hr hm hri hmi
              · exact lands_x o t ra ma rc mc rs ms w hG ho he hx ⟨k1, k15⟩ hw (by omega) (by omega) hr hm hri hmi
          · exact lands_s o t ra ma rc mc rs ms w hG ho he hx hw (by omega) (by omega) hr hm hri hmi
        · exact lands_e o t ra ma rc mc rs ms w hG ho he hw (by omega) (by omega) hr hm hri hmi
/-- An operation that comes in. -/
theorem open_opv {H : Type} {enc : TypeId × Value → H} {W : World} {r : Reach} {b0 : Nat} {held : Bool} {v : Value} {d : DataW H} {p : List MemPlace} (hv : Value.okWide Tryd.prog W r b0 55 v) (h : DataW.Trod enc Tryd.prog W 0 (fun _ => true) held 55 v d p) : ∃ o : O, v = o.val ∧ o.Ok := by
  obtain ⟨cs, rfl, hsz⟩ := okWide_struct Tryd.underlying55 hv
  obtain ⟨l⟩ := cs
  obtain ⟨fuel, hf⟩ := h
  obtain ⟨o, ho, e⟩ := open_o (cs := l) hf
  subst e
  exact ⟨o, rfl, ho⟩
end Go.Proofs.YtldfjlepbbmhnaaDoor.Pp
namespace Go.Proofs.YtldfjlepbbmhnaaDoor.Pc
open Go.ChangeShapes Go.WideShapes Go.ChangeAt Go.RowKit
open _root_.Go.Proofs.YtldfjlepbbmhnaaDoor.Op _root_.Go.Proofs.YtldfjlepbbmhnaaDoor.Bu
open _root_.Go.Proofs.YtldfjlepbbmhnaaDoor.Pp (law_lands open_state open_opv)

set_option maxRecDepth 100000 in
theorem lands_wit (os : Os) (H : Type) (enc : TypeId × Value → H) : ∃ (w : World) (tape : Tape) (i : Input), w.os = os ∧ (w.forCall tape i).Shaped Tryd.prog ∧ i.vars = [] ∧ Input.okWide Tryd.prog (w.forCall tape i) .any w.heap.size 5 i ∧
      ((Rows.pipeLandsSpec.pre enc Tryd.prog Tryd.f5 [] false (w.forCall tape i).memory i.args ∧ laidMetH Tryd.prog Rows.pipeLandsRow.laid (w.forCall tape i).memory) ∧ sizedMet enc Tryd.prog Tryd.f5 (OpenSpec.ofChange Rows.pipeLandsSpec) false (w.forCall tape i).memory i.args) ∧ Assume.holds {} Tryd.prog (lone (Frame.enter Tryd.prog 5 i.args .normal) [] (w.forCall tape i)) :=
  ChangeSpec.witness_shaped (enc := enc) (C := Tryd.checked) (os := os) (X := fun w _ => laidMetH Tryd.prog Rows.pipeLandsRow.laid w) false ((World.holding Tryd.prog os ⟨#[], #[], []⟩).layVars Tryd.prog laid4) #[.agg #[.int .i8 0, .int .u8 0, .int .u8 0, .int .u8 0, .int .i64 0], .agg #[.int .i64 0, .int .i64 0, .int .i64 0, .int .i64 0, .int .i64 0, .int .i64 0, .int .i64 0, .int .i64 0, .int .i64 0, .int .i64 0, .int .i64 0, .int .i64 0, .int .i64 0], .agg #[.slice none 0 0, .slice none 0 0]] 8 (wit_os4 os)
    (World.shaped_of_ZipB (by kernel_rfl) (by kernel_rfl)) (by kernel_rfl) (by kernel_rfl) (by kernel_rfl) (wit_met4 os _)

set_option maxRecDepth 100000 in
theorem lands_lifted (os : Os) (started : os.Started) (H : Type) (enc : TypeId × Value → H) :
    ReturnsInHanded {} Tryd.checked os 5 .any (fun w args => (Rows.pipeLandsSpec.pre enc Tryd.prog Tryd.f5 [] false w args ∧ laidMetH Tryd.prog Rows.pipeLandsRow.laid w) ∧ sizedMet enc Tryd.prog Tryd.f5 (OpenSpec.ofChange Rows.pipeLandsSpec) false w args)
      (Rows.pipeLandsSpec.post enc Tryd.prog Tryd.f5 false true false false) := by
  refine wrap started (by kernel_rfl) Tryd.func5 (lands_wit os H enc) ?_
  intro W base args ds gs before hval0 hW _ hL hsh
  have hval : ∀ (j : Nat) t v, Tryd.f5.params[j]? = some t → args[j]? = some v → Value.okWide Tryd.prog W .any base t v := hval0
  have hW' := hW
  obtain ⟨p, q, hA0, hV, rfl, _, _⟩ := hW
  have hA : DataW.TrodAll enc Tryd.prog W 0 (fun _ => true) true Tryd.f5.params.toList args.toList ds p := hA0
  rw [Tryd.params5] at hA hval
  obtain ⟨v0, v1, v2, d0, d1, d2, p0, p1, p2, rfl, rfl, rfl, h0, h1, h2⟩ := trodAll_three hA
  obtain ⟨rfl, rfl⟩ := trodVars_none hV
  obtain ⟨o, rfl, ho⟩ := open_opv (hval 0 55 v0 rfl rfl) h0
  obtain ⟨⟨t, rfl⟩, rfl⟩ := open_tab (hval 1 25 v1 rfl rfl) h1
  obtain ⟨ra, ma, rc, mc, rs, ms, rfl, ⟨hs1, hs2⟩, hr, hms⟩ := open_state (hval 2 28 v2 rfl rfl) h2
  simp only [List.append_nil] at hW'
  refine (law_lands o t ra ma rc mc rs ms W ho (env4 hL hsh) hs1 hs2 hr hms).mono fun e W' ⟨he, hb⟩ => ?_
  subst he
  refine ⟨_, rfl, _, _, _, [], p0 ++ ([] ++ p2), [], hW', trodAll_mk1 (shut_bool Tryd.underlying4 _), ?_, rfl, hb.frame _, fun h => by cases h⟩
  rw [Tryd.params5]
  refine trodAll_mk3 (Below.trod laidOut (by kernel_rfl) (by rw [tySize]; decide) h0 hb fun x hx => ?_) (Below.trod laidOut (by kernel_rfl) (by rw [tySize]; decide) h1 hb (fun x hx => by cases hx)) (Below.trod laidOut (by kernel_rfl) (by rw [tySize]; decide) h2 hb fun x hx => ?_)
  · obtain ⟨fuel, hf⟩ := h0
    exact DataW.trod_lt _ _ _ _ hf x hx
  · obtain ⟨fuel, hf⟩ := h2
    exact DataW.trod_lt _ _ _ _ hf x hx

theorem lands_row : Rows.PipeLandsSaid :=
  OpenClaim.holds_of_wide 5 Tryd.f5 rfl rfl rfl rfl rfl rfl rfl ⟨rfl, rfl, rfl, rfl, rfl⟩ rfl rfl rfl rfl rfl (by kernel_rfl) Tryd.func5 (by kernel_rfl)
    (of_decide_eq_true (by kernel_rfl)) (by unfold Func.isWrapper; first | (rw [if_pos (by decide +kernel)]; kernel_rfl) | (rw [if_neg (by decide +kernel)]; exact ⟨rfl, rfl⟩))
    (fun os started H enc _ => lands_lifted os started H enc)

theorem lands_card : Rows.PipeLandsCardSaid :=
  Claim7.holds_tied_plain_at .later [] [.wider, .wider, .wider, .wider] true (true, "9c501417bfd3c41693932ee0abac4e986852cc4fce5346b0771cb3e051ecb901") true lands_row (fun _ h => by cases h) (by kernel_rfl) (fun _ h => by cases h) pipeLands_row_tie rfl ⟨rfl, rfl⟩ (by kernel_rfl) rfl
    (fun f fn hf hfn => by
      obtain rfl : f = 5 := Option.some.inj ((show Tryd.prog.funcNamed "hayloft/hayloftlaw22.PipeLands" = some 5 by kernel_rfl).symm.trans hf) |>.symm
      obtain rfl : fn = Tryd.f5 := (Option.some.inj (Tryd.func5.symm.trans hfn)).symm
      exact ⟨by kernel_rfl, fun j t ht => by
        rw [Tryd.params5] at ht
        have hm : t ∈ [55, 25, 28] := by simpa using Array.mem_of_getElem? ht
        have hall : ([55, 25, 28].all fun u => !Tryd.prog.wantsStandIn u) = true := by kernel_rfl
        exact (show Tryd.prog.wantsStandIn t = false by simpa using List.all_eq_true.1 hall t hm)⟩)
    (by kernel_rfl)
#print axioms lands_card
end Go.Proofs.YtldfjlepbbmhnaaDoor.Pc
