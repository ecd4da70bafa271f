/- The statement TableTells, whole: of any table package table's Check, Width and Text answer what the document's answer; the listed variables are tied to the program's text. Conditions: none. -/
import Derived.Test.YtgabnjiapkkjaaaGreatDoorLt
import Derived.Test.YtgabnjiapkkjaaaGreatDoorFr
import Derived.Carry
namespace Go.Proofs.YtgabnjiapkkjaaaGreatDoor.Tb
open Go.ChangeShapes Go.WideShapes Go.ChangeAt Go.RowKit

theorem trod_ints4 {H : Type} {enc : TypeId × Value → H} {W : World} {base fuel : Nat} {sp : Nat → Bool} {held : Bool} {c0 c1 c2 c3 : Value} {y : DataW H × List MemPlace} (h : DataW.trod enc Tryz.prog W base sp held fuel 22 [c0, c1, c2, c3] = some y) :
    ∃ a b c d : Int, c0 = .int .i64 a ∧ c1 = .int .i64 b ∧ c2 = .int .i64 c ∧ c3 = .int .i64 d ∧ y.2 = [] := by
  obtain ⟨xs, m, _, hx, _, hn, he⟩ := DataW.trod_array Tryz.underlying22 h
  have k3 : Tryz.prog.cellsOf 3 = 1 := by kernel_rfl
  rw [k3] at he
  have h0 := he 0 (by omega)
  have h1 := he 1 (by omega)
  have h2 := he 2 (by omega)
  have h3 := he 3 (by omega)
  match xs, hn with
  | [x0, x1, x2, x3], _ =>
    obtain ⟨a, a1, a2, _⟩ := DataW.trod_int Tryz.underlying3 h0
    obtain ⟨b, b1, b2, _⟩ := DataW.trod_int Tryz.underlying3 h1
    obtain ⟨c, c1', c2', _⟩ := DataW.trod_int Tryz.underlying3 h2
    obtain ⟨d, d1, d2, _⟩ := DataW.trod_int Tryz.underlying3 h3
    simp at a1 b1 c1' d1
    refine ⟨a, b, c, d, a1, b1, c1', d1, ?_⟩
    rw [hx]; simp [a2, b2, c2', d2]

def ofFour (a b c d : Int) : Nat → Int := fun k => if k = 0 then a else if k = 1 then b else if k = 2 then c else d

set_option maxRecDepth 100000 in
theorem open_tab {H : Type} {enc : TypeId × Value → H} {W : World} {r : Reach} {b0 base : Nat} {sp : Nat → Bool} {held : Bool} {v : Value} {d : DataW H} {p : List MemPlace} (hv : Value.okWide Tryz.prog W r b0 24 v) (h : DataW.Trod enc Tryz.prog W base sp held 24 v d p) : (∃ t : Tab, v = t.val) ∧ p = [] := by
  obtain ⟨cs, rfl, hsz⟩ := okWide_struct Tryz.underlying24 hv
  have k24 : Tryz.prog.cellsOf 24 = 13 := by kernel_rfl
  have k22 : Tryz.prog.cellsOf 22 = 4 := by kernel_rfl
  have k3 : Tryz.prog.cellsOf 3 = 1 := by kernel_rfl
  rw [k24] at hsz
  obtain ⟨l⟩ := cs
  clear hv
  match l, hsz with
  | [c0, c1, c2, c3, c4, c5, c6, c7, c8, c9, c10, c11, c12], _ =>
    obtain ⟨fuel, hf⟩ := h
    obtain ⟨y0, y1, y2, y3, n, hx, _, h0, h1, h2, h3⟩ := Joins.trod_struct4 Tryz.underlying24 hf
    rw [k22] at h0 h1 h2
    rw [k3] at h3
    obtain ⟨a0, a1, a2, a3, rfl, rfl, rfl, rfl, e0⟩ := trod_ints4 h0
    obtain ⟨l0, l1, l2, l3, rfl, rfl, rfl, rfl, e1⟩ := trod_ints4 h1
    obtain ⟨b0, b1, b2, b3, rfl, rfl, rfl, rfl, e2⟩ := trod_ints4 h2
    obtain ⟨dd, f1, f2, _⟩ := DataW.trod_int Tryz.underlying3 h3
    have f1' : [c12] = [Value.int .i64 dd] := f1
    obtain rfl : c12 = .int .i64 dd := by simpa using f1'
    refine ⟨⟨⟨ofFour a0 a1 a2 a3, ofFour l0 l1 l2 l3, ofFour b0 b1 b2 b3, dd⟩, rfl⟩, ?_⟩
    simp [e0, e1, e2, f2] at hx
    exact hx.2

set_option maxRecDepth 100000 in
theorem tells_wit (os : Os) (H : Type) (enc : TypeId × Value → H) : ∃ (w : World) (tape : Tape) (i : Input), w.os = os ∧ (w.forCall tape i).Shaped Tryz.prog ∧ i.vars = [] ∧ Input.okWide Tryz.prog (w.forCall tape i) .any w.heap.size 3 i ∧
      ((Rows.tableTellsSpec.pre enc Tryz.prog Tryz.f3 [] false (w.forCall tape i).memory i.args ∧ laidMetH Tryz.prog Rows.tableTellsRow.laid (w.forCall tape i).memory) ∧ sizedMet enc Tryz.prog Tryz.f3 (OpenSpec.ofChange Rows.tableTellsSpec) false (w.forCall tape i).memory i.args) ∧ Assume.holds {} Tryz.prog (lone (Frame.enter Tryz.prog 3 i.args .normal) [] (w.forCall tape i)) :=
  ChangeSpec.witness_shaped (enc := enc) (C := Tryz.checked) (os := os) (X := fun w _ => laidMetH Tryz.prog Rows.tableTellsRow.laid w) false ((({ World.holding Tryz.prog os ⟨#[], #[], []⟩ with heap := (World.holding Tryz.prog os ⟨#[], #[], []⟩).heap.modify 5 fun | .cells _ t fz => .cells #[.iface 130 (.agg #[.pointer (some ⟨14, 33, none⟩)])] t fz | o => o } : World)).layVars Tryz.prog laid12) #[.agg #[.int .i64 0, .int .i64 0, .int .i64 0, .int .i64 0, .int .i64 0, .int .i64 0, .int .i64 0, .int .i64 0, .int .i64 0, .int .i64 0, .int .i64 0, .int .i64 0, .int .i64 0]] 8 (wit_os os)
    (World.shaped_of_ZipB (by kernel_rfl) (by kernel_rfl)) (by kernel_rfl) (by kernel_rfl) (by kernel_rfl) (wit_met os _)

theorem laidOut : laidOutB Tryz.prog = true := by kernel_rfl

set_option maxRecDepth 100000 in
theorem tells_lifted (os : Os) (started : os.Started) (H : Type) (enc : TypeId × Value → H) :
    ReturnsInHanded {} Tryz.checked os 3 .any (fun w args => (Rows.tableTellsSpec.pre enc Tryz.prog Tryz.f3 [] false w args ∧ laidMetH Tryz.prog Rows.tableTellsRow.laid w) ∧ sizedMet enc Tryz.prog Tryz.f3 (OpenSpec.ofChange Rows.tableTellsSpec) false w args)
      (Rows.tableTellsSpec.post enc Tryz.prog Tryz.f3 false true false false) := by
  refine wrap started (by kernel_rfl) Tryz.func3 (tells_wit os H enc) ?_
  intro W base args ds gs before hval0 hW _ hL hsh
  have hval : ∀ (j : Nat) t v, Tryz.f3.params[j]? = some t → args[j]? = some v → Value.okWide Tryz.prog W .any base t v := hval0
  have hW' := hW
  obtain ⟨p, q, hA0, hV, rfl, _, _⟩ := hW
  have hA : DataW.TrodAll enc Tryz.prog W 0 (fun _ => true) true Tryz.f3.params.toList args.toList ds p := hA0
  rw [Tryz.params3] at hA hval
  obtain ⟨v0, d0, rfl, rfl, h0⟩ := trodAll_one hA
  obtain ⟨rfl, rfl⟩ := trodVars_none hV
  obtain ⟨⟨t, rfl⟩, rfl⟩ := open_tab (hval 0 24 v0 rfl rfl) h0
  simp only [List.append_nil] at hW'
  refine (law_tells t W (env_of hL hsh)).mono fun e W' ⟨he, hb⟩ => ?_
  subst he
  refine ⟨_, rfl, _, _, _, [], [], [], hW', trodAll_mk1 (shut_bool Tryz.underlying4 _), ?_, rfl, hb.frame _, fun h => by cases h⟩
  rw [Tryz.params3]
  exact trodAll_mk1 (Below.trod laidOut (by kernel_rfl) (by rw [tySize]; decide) h0 hb (fun x hx => by cases hx))

theorem tells_row : Rows.TableTellsSaid :=
  OpenClaim.holds_of_wide 3 Tryz.f3 rfl rfl rfl rfl rfl rfl rfl ⟨rfl, rfl, rfl, rfl, rfl⟩ rfl rfl rfl rfl rfl (by kernel_rfl) Tryz.func3 (by kernel_rfl)
    (of_decide_eq_true (by kernel_rfl)) (by unfold Func.isWrapper; first | (rw [if_pos (by decide +kernel)]; kernel_rfl) | (rw [if_neg (by decide +kernel)]; exact ⟨rfl, rfl⟩))
    (fun os started H enc _ => tells_lifted os started H enc)

theorem tells : Rows.TableTellsCardSaid :=
  Claim7.holds_tied_plain_at .later [] [.data, .data, .data, .data, .handle, .sentinel, .sentinel, .data, .wider, .wider, .wider, .wider, .pinned] true (true, "9ff16de2e59ecd91e32309add489c1b033cd22ab7ab10590d727e0e66fe3ba7e") true tells_row (fun _ h => by cases h) (by kernel_rfl) (fun _ h => by cases h) tableTells_row_tie rfl ⟨rfl, rfl⟩ (by kernel_rfl) rfl
    (fun f fn hf hfn => by
      obtain rfl : f = 3 := Option.some.inj ((show Tryz.prog.funcNamed "hayloft/hayloftlaw02.TableTells" = some 3 by kernel_rfl).symm.trans hf) |>.symm
      obtain rfl : fn = Tryz.f3 := (Option.some.inj (Tryz.func3.symm.trans hfn)).symm
      exact ⟨by kernel_rfl, fun j t ht => by
        rw [Tryz.params3] at ht
        have hm : t ∈ [24] := by simpa using Array.mem_of_getElem? ht
        have hall : ([24].all fun u => !Tryz.prog.wantsStandIn u) = true := by kernel_rfl
        exact (show Tryz.prog.wantsStandIn t = false by simpa using List.all_eq_true.1 hall t hm)⟩)
    (by kernel_rfl)

end Go.Proofs.YtgabnjiapkkjaaaGreatDoor.Tb
