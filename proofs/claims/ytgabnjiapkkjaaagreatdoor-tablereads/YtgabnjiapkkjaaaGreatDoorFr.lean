/- The frame that the four proofs share: what the listed variables give a walk; the wrap that keeps the world's shape. Conditions: none. -/
import Derived.Test.YtgabnjiapkkjaaaGreatDoorRe
import Derived.Test.YtgabnjiapkkjaaaGreatDoorTie
import Derived.Test.YtgabnjiapkkjaaaGreatDoorCards
import Derived.ProofKit
import Derived.HandedShaped
import Derived.Shelf.Vars
import Derived.Lib.LaidU8
import Derived.Lay
import Derived.LaidHandle
import Derived.LaidLaws
import Derived.Stop.LaidErr
import Derived.Stop.Joined
import Derived.RowKitTokens
import Derived.SevenTiedAt
namespace Go.Proofs.YtgabnjiapkkjaaaGreatDoor.Tb
open Go.ChangeShapes Go.WideShapes Go.ChangeAt Go.RowKit

theorem own : ownKnob Tryz.prog.godebug = none := by kernel_rfl

set_option maxRecDepth 20000 in
/-- A pair of bounds, out of its reading. -/
theorem bnd_of {W : World} {n : String} {g : Nat} {a b : Int} (h : Lib.VarReads Tryz.prog W n (.agg [.lit (.int .i64 a), .lit (.int .i64 b)])) (hg : Tryz.prog.globalNamed n = some g) (ht : (Tryz.prog.globals[g]?).map (·.type) = some 55) :
    W.cell? ⟨g, 0, none⟩ = some (.int .i64 a) ∧ W.cell? ⟨g, 1, none⟩ = some (.int .i64 b) := by
  obtain ⟨g0, t0, cs, fuel, p, h1, h2, h3, h4⟩ := h
  obtain rfl := Option.some.inj (hg.symm.trans h1)
  obtain rfl := Option.some.inj (ht.symm.trans h2)
  obtain ⟨y0, y1, n', hx, hl, e0, e1⟩ := trod_struct2 Tryz.underlying55 h4
  have c3 : Tryz.prog.cellsOf 3 = 1 := by kernel_rfl
  have c55 : Tryz.prog.cellsOf 55 = 2 := by kernel_rfl
  obtain ⟨k0, f0, f1, _⟩ := DataW.trod_int Tryz.underlying3 e0
  obtain ⟨k1, f2, f3, _⟩ := DataW.trod_int Tryz.underlying3 e1
  rw [c3] at f0 f2
  rw [c55] at hl
  obtain ⟨l⟩ := cs
  match l, hl with
  | [v0, v1], _ =>
    simp at f0 f2
    subst f0 f2
    simp [f1, f3] at hx
    obtain ⟨⟨rfl, rfl⟩, _⟩ := hx
    exact ⟨by simpa using World.var?_cell h1 h3 0, by simpa using World.var?_cell h1 h3 1⟩

set_option maxRecDepth 20000 in
theorem names_of {W : World} (h : Lib.VarReads Tryz.prog W "hayloft/table.names" Rows.laid_hayloft_table_names) : ∀ k, k < 5 → W.cell? ⟨0, k, none⟩ = some (.string (nameS k)) := by
  have hg : Tryz.prog.globalNamed "hayloft/table.names" = some 0 := by kernel_rfl
  have ht : (Tryz.prog.globals[0]?).map (·.type) = some 51 := by kernel_rfl
  obtain ⟨g0, t0, cs, fuel, p, h1, h2, h3, h4⟩ := h
  obtain rfl := Option.some.inj (hg.symm.trans h1)
  obtain rfl := Option.some.inj (ht.symm.trans h2)
  obtain ⟨xs, m, _, hx, hl, hn, he⟩ := DataW.trod_array Tryz.underlying51 h4
  have c9 : Tryz.prog.cellsOf 9 = 1 := by kernel_rfl
  have c51 : Tryz.prog.cellsOf 51 = 5 := by kernel_rfl
  rw [c51] at hl
  rw [c9] at he
  obtain ⟨l⟩ := cs
  match xs, hn, l, hl with
  | [x0, x1, x2, x3, x4], _, [v0, v1, v2, v3, v4], _ =>
    obtain ⟨s0, a0, b0, _⟩ := DataW.trod_string Tryz.underlying9 (he 0 (by omega))
    obtain ⟨s1, a1, b1, _⟩ := DataW.trod_string Tryz.underlying9 (he 1 (by omega))
    obtain ⟨s2, a2, b2, _⟩ := DataW.trod_string Tryz.underlying9 (he 2 (by omega))
    obtain ⟨s3, a3, b3, _⟩ := DataW.trod_string Tryz.underlying9 (he 3 (by omega))
    obtain ⟨s4, a4, b4, _⟩ := DataW.trod_string Tryz.underlying9 (he 4 (by omega))
    simp at a0 a1 a2 a3 a4
    subst a0 a1 a2 a3 a4
    simp [Rows.laid_hayloft_table_names, b0, b1, b2, b3, b4] at hx
    obtain ⟨⟨e0, e1, e2, e3, e4⟩, _⟩ := hx
    intro k hk
    match k, hk with
    | 0, _ => rw [show nameS 0 = s0 from (ba_eq e0.symm).symm]; simpa using World.var?_cell h1 h3 0
    | 1, _ => rw [show nameS 1 = s1 from (ba_eq e1.symm).symm]; simpa using World.var?_cell h1 h3 1
    | 2, _ => rw [show nameS 2 = s2 from (ba_eq e2.symm).symm]; simpa using World.var?_cell h1 h3 2
    | 3, _ => rw [show nameS 3 = s3 from (ba_eq e3.symm).symm]; simpa using World.var?_cell h1 h3 3
    | 4, _ => rw [show nameS 4 = s4 from (ba_eq e4.symm).symm]; simpa using World.var?_cell h1 h3 4

theorem star : "*" ++ "errors.errorString" = "*errors.errorString" := by decide
theorem row188 (u : TypeId) (h : Tryz.prog.typeName? 3 u = some "*errors.errorString") : u = 188 :=
  typeName_ptr_named (nm := "errors.errorString") (by rw [star]; kernel_rfl) (by kernel_rfl) (by decide) u (by rw [star]; exact h)
theorem gET : Tryz.prog.globalNamed "errors.errorType" = some 5 := by kernel_rfl
theorem rtRow : (Tryz.prog.cutTypes.find? (·.1 == "internal/reflectlite.rtype")).map (·.2) = some 130 := by kernel_rfl
theorem oneRow : ((List.range 218).filter fun t => Tryz.prog.rowNamed t [101, 114, 114, 111, 114]) = [33] := by kernel_rfl
theorem tySize : Tryz.prog.types.size = 218 := by kernel_rfl
theorem gRangeT : (Tryz.prog.globals[11]?).map (·.type) = some 33 := by kernel_rfl

set_option maxRecDepth 20000 in
theorem env_of {W : World} (hL : laidMetH Tryz.prog Rows.tableTellsRow.laid W) (hsh : W.ShapedOpen Tryz.prog) : Env W := by
  have hL' : laidMet Tryz.prog [("math/bits.deBruijn32tab", Rows.laid_math_bits_deBruijn32tab), ("math/bits.deBruijn64tab", Rows.laid_math_bits_deBruijn64tab), ("internal/strconv.uint64pow10", Rows.laid_internal_strconv_uint64pow10), ("unicode/utf8.acceptRanges", Rows.laid_unicode_utf8_acceptRanges), ("strconv.ErrRange", Rows.laid_strconv_ErrRange), ("strconv.ErrSyntax", Rows.laid_strconv_ErrSyntax), ("hayloft/table.names", Rows.laid_hayloft_table_names), ("hayloft/table.unitsBounds", Rows.laid_hayloft_table_unitsBounds), ("hayloft/table.latBounds", Rows.laid_hayloft_table_latBounds), ("hayloft/table.busyBounds", Rows.laid_hayloft_table_busyBounds), ("hayloft/table.delayBounds", Rows.laid_hayloft_table_delayBounds), ("unicode/utf8.first", Rows.laid_unicode_utf8_first)] W ∧ handlesMet Tryz.prog [("errors.errorType", Rows.laid_errors_errorType)] W := hL
  obtain ⟨hP, hH⟩ := hL'
  have hbig : 14 ≤ W.heap.size := by
    obtain ⟨g0, t0, cs, fuel, p, h1, h2, h3, h4⟩ := Lib.laidMet.reads hP (n := "unicode/utf8.acceptRanges") (d := Rows.laid_unicode_utf8_acceptRanges) (by simp)
    have hg : Tryz.prog.globalNamed "unicode/utf8.acceptRanges" = some 13 := by kernel_rfl
    rw [World.var?, hg, Option.bind_some] at h3
    rcases Nat.lt_or_ge 13 W.heap.size with h | h
    · exact h
    · rw [Array.getElem?_eq_none h] at h3; cases h3
  have hd := bnd_of (Lib.laidMet.reads hP (n := "hayloft/table.delayBounds") (d := Rows.laid_hayloft_table_delayBounds) (by simp)) (g := 1) (by kernel_rfl) (by kernel_rfl)
  have hu := bnd_of (Lib.laidMet.reads hP (n := "hayloft/table.unitsBounds") (d := Rows.laid_hayloft_table_unitsBounds) (by simp)) (g := 2) (by kernel_rfl) (by kernel_rfl)
  have hl := bnd_of (Lib.laidMet.reads hP (n := "hayloft/table.latBounds") (d := Rows.laid_hayloft_table_latBounds) (by simp)) (g := 3) (by kernel_rfl) (by kernel_rfl)
  have hb := bnd_of (Lib.laidMet.reads hP (n := "hayloft/table.busyBounds") (d := Rows.laid_hayloft_table_busyBounds) (by simp)) (g := 4) (by kernel_rfl) (by kernel_rfl)
  have hn := names_of (Lib.laidMet.reads hP (n := "hayloft/table.names") (by simp))
  obtain ⟨a0, s0, hv0, -, -, -⟩ := laid_sentinel hP.tail.tail.tail.tail gRange gRangeT Tryz.underlying33 row188 Tryz.underlying188 Tryz.underlying190 rfl rfl Tryz.underlying9 (by kernel_rfl) (by kernel_rfl)
  have hm : ∃ m, W.cell? ⟨7, 0, none⟩ = some (.int .i64 m) := cell_of_shapedOpen_int (t := 3) (zero := #[.int .i64 0]) hsh (by decide) (by kernel_rfl) rfl (by kernel_rfl) (by kernel_rfl) Tryz.underlying3
  have het : W.cell? ⟨5, 0, none⟩ = some (.iface 130 (.agg #[.pointer (some ⟨14, 33, none⟩)])) := by
    obtain ⟨name, u, ty, e1, e2, e3, e4, e5⟩ := hH _ (List.mem_singleton.2 rfl)
    have en : name = [101, 114, 114, 111, 114] := (Option.some.inj e1).symm
    subst en
    obtain rfl := Option.some.inj (rtRow.symm.trans e2)
    have hmm : ty ∈ (List.range 218).filter fun t => Tryz.prog.rowNamed t [101, 114, 114, 111, 114] := List.mem_filter.2 ⟨List.mem_range.2 (by rw [← tySize]; exact e3), e4⟩
    rw [oneRow] at hmm
    obtain rfl := List.mem_singleton.1 hmm
    have hh : typeHandle Tryz.prog 33 = .pointer (some ⟨14, 33, none⟩) := by kernel_rfl
    rw [hh] at e5
    simpa using World.var?_cell gET e5 0
  exact ⟨⟨hd.1, hd.2, hu.1, hu.2, hl.1, hl.2, hb.1, hb.2, hbig⟩, ⟨hn, hbig⟩, hm, ⟨188, _, hv0⟩, het⟩

set_option maxRecDepth 100000 in
/-- The wrap: what the listed variables hold, and the world's shape, are handed to the contract. -/
theorem wrap {H : Type} {enc : TypeId × Value → H} {os : Os} {f : FuncId} {fn : Func} {s : ChangeSpec} {lv : List (String × DataW Unit)} (started : os.Started) (noInit : Tryz.prog.inits.idxOf? f = none) (hfn : Tryz.prog.funcs[f]? = some fn)
    (witness : ∃ (w : World) (tape : Tape) (i : Input), w.os = os ∧ (w.forCall tape i).Shaped Tryz.prog ∧ i.vars = [] ∧ Input.okWide Tryz.prog (w.forCall tape i) .any w.heap.size f i ∧
      ((s.pre enc Tryz.prog fn [] false (w.forCall tape i).memory i.args ∧ laidMetH Tryz.prog lv (w.forCall tape i).memory) ∧ sizedMet enc Tryz.prog fn (OpenSpec.ofChange s) false (w.forCall tape i).memory i.args) ∧ Assume.holds {} Tryz.prog (lone (Frame.enter Tryz.prog f i.args .normal) [] (w.forCall tape i)))
    (contract : ∀ (W : World) (base : Nat) (args : Array Value) (ds gs : List (DataW H)) (before : List MemPlace),
      (∀ (j : Nat) t v, fn.params[j]? = some t → args[j]? = some v → Value.okWide Tryz.prog W .any base t v) →
      DataW.Whole enc Tryz.prog fn.params.toList s.vars false W args.toList ds gs before →
      (DataW.weightsEach Tryz.prog (fn.params.toList ++ s.plain.varTypes Tryz.prog) (ds ++ gs)).all (· ≤ reachBytes) = true →
      laidMetH Tryz.prog lv W → W.ShapedOpen Tryz.prog →
      Calls Tryz.prog f args W fun e W' => ∃ v, e = .returned v ∧ s.post enc Tryz.prog fn false true false false W args v W') :
    ReturnsInHanded {} Tryz.checked os f .any (fun w args => (s.pre enc Tryz.prog fn [] false w args ∧ laidMetH Tryz.prog lv w) ∧ sizedMet enc Tryz.prog fn (OpenSpec.ofChange s) false w args) (s.post enc Tryz.prog fn false true false false) := by
  refine returnsInHanded_of_calls (C := Tryz.checked) own started noInit witness ?_
  intro w tape i _ hsh _ hok hpre hholds
  obtain ⟨_, _, _, fn', hfn', _, _, _, _, hval⟩ := hok
  have e : fn' = fn := Option.some.inj (hfn'.symm.trans hfn)
  subst e
  obtain ⟨⟨⟨ds, gs, before, hw, hc⟩, hx⟩, hz⟩ := hpre
  have hw' := DataW.Whole.of_heap (w' := w.forCall tape i) (by rfl) hw
  refine (contract (w.forCall tape i) w.heap.size i.args ds gs before hval hw' (hz.weights hw) (hx.of_heap (by rfl)) hsh).mono fun e W' ⟨v, he, hp⟩ => ?_
  subst he
  exact ChangeSpec.post_blind hp

def laid12 : List (String × DataW Unit) := [("math/bits.deBruijn32tab", Rows.laid_math_bits_deBruijn32tab), ("math/bits.deBruijn64tab", Rows.laid_math_bits_deBruijn64tab), ("internal/strconv.uint64pow10", Rows.laid_internal_strconv_uint64pow10), ("unicode/utf8.acceptRanges", Rows.laid_unicode_utf8_acceptRanges), ("strconv.ErrRange", Rows.laid_strconv_ErrRange), ("strconv.ErrSyntax", Rows.laid_strconv_ErrSyntax), ("hayloft/table.names", Rows.laid_hayloft_table_names), ("hayloft/table.unitsBounds", Rows.laid_hayloft_table_unitsBounds), ("hayloft/table.latBounds", Rows.laid_hayloft_table_latBounds), ("hayloft/table.busyBounds", Rows.laid_hayloft_table_busyBounds), ("hayloft/table.delayBounds", Rows.laid_hayloft_table_delayBounds), ("unicode/utf8.first", Rows.laid_unicode_utf8_first)]
set_option maxRecDepth 100000 in
theorem wit_met (os : Os) (args : Array Value) : laidMetH Tryz.prog Rows.tableTellsRow.laid (((({ World.holding Tryz.prog os ⟨#[], #[], []⟩ with heap := (World.holding Tryz.prog os ⟨#[], #[], []⟩).heap.modify 5 fun | .cells _ t fz => .cells #[.iface 130 (.agg #[.pointer (some ⟨14, 33, none⟩)])] t fz | o => o } : World)).layVars Tryz.prog laid12).forCall (fun _ _ => 0) ⟨#[], args, []⟩).memory := by
  refine laidMetH_of_parts ?_ (by kernel_rfl)
  have h : laidMet Tryz.prog laid12 ((({ World.holding Tryz.prog os ⟨#[], #[], []⟩ with heap := (World.holding Tryz.prog os ⟨#[], #[], []⟩).heap.modify 5 fun | .cells _ t fz => .cells #[.iface 130 (.agg #[.pointer (some ⟨14, 33, none⟩)])] t fz | o => o } : World)).layVars Tryz.prog laid12) :=
    laidMet_layVars (w0 := ({ World.holding Tryz.prog os ⟨#[], #[], []⟩ with heap := (World.holding Tryz.prog os ⟨#[], #[], []⟩).heap.modify 5 fun | .cells _ t fz => .cells #[.iface 130 (.agg #[.pointer (some ⟨14, 33, none⟩)])] t fz | o => o } : World)) ["math/bits.deBruijn32tab", "math/bits.deBruijn64tab", "internal/strconv.uint64pow10", "unicode/utf8.acceptRanges", "strconv.ErrRange", "strconv.ErrSyntax", "hayloft/table.names", "hayloft/table.unitsBounds", "hayloft/table.latBounds", "hayloft/table.busyBounds", "hayloft/table.delayBounds", "unicode/utf8.first"] [] (by rw [show (laid12.filter fun x => (["math/bits.deBruijn32tab", "math/bits.deBruijn64tab", "internal/strconv.uint64pow10", "unicode/utf8.acceptRanges", "strconv.ErrRange", "strconv.ErrSyntax", "hayloft/table.names", "hayloft/table.unitsBounds", "hayloft/table.latBounds", "hayloft/table.busyBounds", "hayloft/table.delayBounds", "unicode/utf8.first"] : List String).contains x.1) = laid12 from by kernel_rfl]) (by kernel_rfl) (by kernel_rfl) (by rw [show (laid12.filter fun x => !(["math/bits.deBruijn32tab", "math/bits.deBruijn64tab", "internal/strconv.uint64pow10", "unicode/utf8.acceptRanges", "strconv.ErrRange", "strconv.ErrSyntax", "hayloft/table.names", "hayloft/table.unitsBounds", "hayloft/table.latBounds", "hayloft/table.busyBounds", "hayloft/table.delayBounds", "unicode/utf8.first"] : List String).contains x.1) = [] from by kernel_rfl]; exact LaidIn.none)
  exact h.of_heap (by simp [World.memory, World.forCall, Input.heap])
set_option maxRecDepth 100000 in
theorem wit_os (os : Os) : ((({ World.holding Tryz.prog os ⟨#[], #[], []⟩ with heap := (World.holding Tryz.prog os ⟨#[], #[], []⟩).heap.modify 5 fun | .cells _ t fz => .cells #[.iface 130 (.agg #[.pointer (some ⟨14, 33, none⟩)])] t fz | o => o } : World)).layVars Tryz.prog laid12).os = os := World.layVars_os _ _ _

end Go.Proofs.YtgabnjiapkkjaaaGreatDoor.Tb
