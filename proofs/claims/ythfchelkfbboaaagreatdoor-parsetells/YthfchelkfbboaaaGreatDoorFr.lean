/- The frame that the three proofs share: what the listed variables give a walk; the wrap that keeps the world's shape. Conditions: none. -/
import Derived.Test.YthfchelkfbboaaaGreatDoorWk
import Derived.Test.YthfchelkfbboaaaGreatDoorTie
import Derived.Test.YthfchelkfbboaaaGreatDoorCards
import Derived.ProofKit
import Derived.HandedShaped
import Derived.Shelf.Vars
import Derived.Lib.LaidU8
import Derived.Lib.LaidTab
import Derived.Lay
import Derived.LaidHandle
import Derived.LaidLaws
import Derived.Stop.LaidErr
import Derived.Stop.Joined
import Derived.RowKitTokens
import Derived.SevenTiedAt
import Derived.ChangeMaps5
import Derived.Lib.SmallJoins
namespace Go.Proofs.YthfchelkfbboaaaGreatDoor.Pr
open Go.ChangeShapes Go.WideShapes Go.ChangeAt Go.RowKit
open _root_.Go.Proofs.YthfchelkfbboaaaGreatDoor.Op

theorem own : ownKnob Tryz.prog.godebug = none := by kernel_rfl
theorem four4 {p : Nat → Prop} (h0 : p 0) (h1 : p 1) (h2 : p 2) (h3 : p 3) : ∀ k, k < 4 → p k
  | 0, _ => h0
  | 1, _ => h1
  | 2, _ => h2
  | 3, _ => h3
theorem trod_bool1 {H : Type} {enc : TypeId × Value → H} {W : World} {base fuel : Nat} {sp : Nat → Bool} {held : Bool} {c : Value} {y : DataW H × List MemPlace} (h : DataW.trod enc Tryz.prog W base sp held fuel 4 [c] = some y) : ∃ b : Bool, c = .bool b ∧ y.1 = .lit (.bool b) := by
  obtain ⟨b, e, f⟩ := DataW.trod_bool Tryz.underlying4 h
  exact ⟨b, by simpa using e, by rw [f]⟩
theorem trod_end {H : Type} {enc : TypeId × Value → H} {W : World} {base fuel : Nat} {sp : Nat → Bool} {held : Bool} {c0 c1 c2 c3 : Value} {y : DataW H × List MemPlace} (h : DataW.trod enc Tryz.prog W base sp held fuel 97 [c0, c1, c2, c3] = some y) :
    ∃ a b c d : Bool, c0 = .bool a ∧ c1 = .bool b ∧ c2 = .bool c ∧ c3 = .bool d ∧ y.1 = .agg [.lit (.bool a), .lit (.bool b), .lit (.bool c), .lit (.bool d)] := by
  obtain ⟨y0, y1, y2, y3, n, hx, _, h0, h1, h2, h3⟩ := Joins.trod_struct4 Tryz.underlying97 h
  have k4 : Tryz.prog.cellsOf 4 = 1 := by kernel_rfl
  rw [k4] at h0 h1 h2 h3
  obtain ⟨a, e0, f0⟩ := trod_bool1 h0
  obtain ⟨b, e1, f1⟩ := trod_bool1 h1
  obtain ⟨c, e2, f2⟩ := trod_bool1 h2
  obtain ⟨d, e3, f3⟩ := trod_bool1 h3
  exact ⟨a, b, c, d, e0, e1, e2, e3, by rw [hx, f0, f1, f2, f3]⟩
set_option maxRecDepth 20000 in
theorem ends_of {W : World} (h : Lib.VarReads Tryz.prog W "hayloft/program.ends" Rows.laid_hayloft_program_ends) : EndsAt W := by
  have hg : Tryz.prog.globalNamed "hayloft/program.ends" = some 1 := by kernel_rfl
  have ht : (Tryz.prog.globals[1]?).map (·.type) = some 133 := by kernel_rfl
  obtain ⟨g0, t0, cs, fuel, p, h1, h2, h3, h4⟩ := h
  obtain rfl := Option.some.inj (hg.symm.trans h1)
  obtain rfl := Option.some.inj (ht.symm.trans h2)
  obtain ⟨xs, m, _, hx, hl, hn, he⟩ := DataW.trod_array Tryz.underlying133 h4
  have c97 : Tryz.prog.cellsOf 97 = 4 := by kernel_rfl
  have c133 : Tryz.prog.cellsOf 133 = 16 := by kernel_rfl
  rw [c133] at hl
  rw [c97] at he
  obtain ⟨l⟩ := cs
  match xs, hn, l, hl with
  | [x0, x1, x2, x3], _, [v0, v1, v2, v3, v4, v5, v6, v7, v8, v9, va, vb, vc, vd, ve, vf], _ =>
    obtain ⟨a0, a1, a2, a3, rfl, rfl, rfl, rfl, e0⟩ := trod_end (he 0 (by omega))
    obtain ⟨b0, b1, b2, b3, rfl, rfl, rfl, rfl, e1⟩ := trod_end (he 1 (by omega))
    obtain ⟨c0, c1, c2, c3, rfl, rfl, rfl, rfl, e2⟩ := trod_end (he 2 (by omega))
    obtain ⟨d0, d1, d2, d3, rfl, rfl, rfl, rfl, e3⟩ := trod_end (he 3 (by omega))
    simp [Rows.laid_hayloft_program_ends, e0, e1, e2, e3] at hx
    obtain ⟨⟨⟨rfl, rfl, rfl, rfl⟩, ⟨rfl, rfl, rfl, rfl⟩, ⟨rfl, rfl, rfl, rfl⟩, ⟨rfl, rfl, rfl, rfl⟩⟩, _⟩ := hx
    have cc := fun i => World.var?_cell h1 h3 i
    refine ⟨four4 (p := fun k => W.cell? ⟨1, k * 4, none⟩ = some (.bool (eA k)) ∧ W.cell? ⟨1, k * 4 + 1, none⟩ = some (.bool (eB k)) ∧ W.cell? ⟨1, k * 4 + 2, none⟩ = some (.bool (eT k)) ∧ W.cell? ⟨1, k * 4 + 3, none⟩ = some (.bool (eE k))) ⟨?_, ?_, ?_, ?_⟩ ⟨?_, ?_, ?_, ?_⟩ ⟨?_, ?_, ?_, ?_⟩ ⟨?_, ?_, ?_, ?_⟩⟩
    · exact (cc 0)
    · exact (cc 1)
    · exact (cc 2)
    · exact (cc 3)
    · exact (cc 4)
    · exact (cc 5)
    · exact (cc 6)
    · exact (cc 7)
    · exact (cc 8)
    · exact (cc 9)
    · exact (cc 10)
    · exact (cc 11)
    · exact (cc 12)
    · exact (cc 13)
    · exact (cc 14)
    · exact (cc 15)

theorem star : "*" ++ "errors.errorString" = "*errors.errorString" := by decide
theorem row218 (u : TypeId) (h : Tryz.prog.typeName? 3 u = some "*errors.errorString") : u = 218 :=
  typeName_ptr_named (nm := "errors.errorString") (by rw [star]; kernel_rfl) (by kernel_rfl) (by decide) u (by rw [star]; exact h)
theorem gET : Tryz.prog.globalNamed "errors.errorType" = some 0 := by kernel_rfl
theorem rtRow : (Tryz.prog.cutTypes.find? (·.1 == "internal/reflectlite.rtype")).map (·.2) = some 150 := by kernel_rfl
theorem oneRow : ((List.range 249).filter fun t => Tryz.prog.rowNamed t [101, 114, 114, 111, 114]) = [26] := by kernel_rfl
theorem tySize : Tryz.prog.types.size = 249 := by kernel_rfl
theorem laidOut : laidOutB Tryz.prog = true := by kernel_rfl
theorem gRangeT : (Tryz.prog.globals[5]?).map (·.type) = some 26 := by kernel_rfl
theorem gSyntaxT : (Tryz.prog.globals[4]?).map (·.type) = some 26 := by kernel_rfl
theorem gPowT : (Tryz.prog.globals[3]?).map (·.type) = some 209 := by kernel_rfl
theorem pow_laid : (Rows.laid_internal_strconv_uint64pow10 : DataW Unit) = Lib.tabData .u64 Lib.pow10Tab := by kernel_rfl
theorem big_world : 8 < (begin Tryz.prog (fun _ _ => 0) default).world.heap.size := of_decide_eq_true (by kernel_rfl)
theorem globs : Tryz.prog.globals.size = 8 := by kernel_rfl
def laid6 : List (String × DataW Unit) := [("math/bits.deBruijn32tab", Rows.laid_math_bits_deBruijn32tab), ("math/bits.deBruijn64tab", Rows.laid_math_bits_deBruijn64tab), ("internal/strconv.uint64pow10", Rows.laid_internal_strconv_uint64pow10), ("strconv.ErrRange", Rows.laid_strconv_ErrRange), ("strconv.ErrSyntax", Rows.laid_strconv_ErrSyntax), ("hayloft/program.ends", Rows.laid_hayloft_program_ends)]

set_option maxRecDepth 20000 in
theorem vars_of {W : World} (hL : laidMetH Tryz.prog Rows.parseTellsRow.laid W) (hsh : W.ShapedOpen Tryz.prog) : Vars W := by
  have hL' : laidMet Tryz.prog [("math/bits.deBruijn32tab", Rows.laid_math_bits_deBruijn32tab), ("math/bits.deBruijn64tab", Rows.laid_math_bits_deBruijn64tab), ("internal/strconv.uint64pow10", Rows.laid_internal_strconv_uint64pow10), ("strconv.ErrRange", Rows.laid_strconv_ErrRange), ("strconv.ErrSyntax", Rows.laid_strconv_ErrSyntax), ("hayloft/program.ends", Rows.laid_hayloft_program_ends)] W ∧ handlesMet Tryz.prog [("errors.errorType", Rows.laid_errors_errorType)] W := hL
  obtain ⟨hP, hH⟩ := hL'
  have hbig : 9 ≤ W.heap.size := by
    obtain ⟨o, o0, h1, _⟩ := hsh.2 8 (by rw [globs]; decide) big_world
    rcases Nat.lt_or_ge 8 W.heap.size with h | h
    · exact h
    · rw [Array.getElem?_eq_none h] at h1; cases h1
  have hn := ends_of (Lib.laidMet.reads hP (n := "hayloft/program.ends") (d := Rows.laid_hayloft_program_ends) (by simp))
  obtain ⟨a0, s0, hv0, -, -, -⟩ := laid_sentinel hP.tail.tail.tail gRange gRangeT Tryz.underlying26 row218 Tryz.underlying218 Tryz.underlying220 rfl rfl Tryz.underlying9 (by kernel_rfl) (by kernel_rfl)
  obtain ⟨a1, s1, hv1, -, -, -⟩ := laid_sentinel hP.tail.tail.tail.tail gSyntax gSyntaxT Tryz.underlying26 row218 Tryz.underlying218 Tryz.underlying220 rfl rfl Tryz.underlying9 (by kernel_rfl) (by kernel_rfl)
  have htb : Lib.TabIs Tryz.prog W "internal/strconv.uint64pow10" .u64 Lib.pow10Tab := by
    have h2 := hP.tail.tail
    rw [pow_laid] at h2
    exact Lib.tabIs_of_head gPow gPowT Tryz.underlying209 Tryz.underlying174 (by kernel_rfl) (by kernel_rfl) h2
  have hm : ∃ m, W.cell? ⟨2, 0, none⟩ = some (.int .i64 m) := cell_of_shapedOpen_int (t := 3) (zero := #[.int .i64 0]) hsh (by decide) (by kernel_rfl) rfl (by kernel_rfl) (by kernel_rfl) Tryz.underlying3
  have het : W.cell? ⟨0, 0, none⟩ = some (.iface 150 (.agg #[.pointer (some ⟨8, 26, none⟩)])) := by
    obtain ⟨name, u, ty, e1, e2, e3, e4, e5⟩ := hH _ (List.mem_singleton.2 rfl)
    have en : name = [101, 114, 114, 111, 114] := (Option.some.inj e1).symm
    subst en
    obtain rfl := Option.some.inj (rtRow.symm.trans e2)
    have hmm : ty ∈ (List.range 249).filter fun t => Tryz.prog.rowNamed t [101, 114, 114, 111, 114] := List.mem_filter.2 ⟨List.mem_range.2 (by rw [← tySize]; exact e3), e4⟩
    rw [oneRow] at hmm
    obtain rfl := List.mem_singleton.1 hmm
    have hh : typeHandle Tryz.prog 26 = .pointer (some ⟨8, 26, none⟩) := by kernel_rfl
    rw [hh] at e5
    simpa using World.var?_cell gET e5 0
  exact ⟨⟨hn, hbig⟩, hm, htb, ⟨218, _, hv1⟩, ⟨218, _, hv0⟩, het⟩

set_option maxRecDepth 100000 in
/-- The wrap: what the listed variables hold, and the world's shape, are handed to the contract. -/
theorem wrap {H : Type} {enc : TypeId × Value → H} {os : Os} {f : FuncId} {fn : Func} {s : ChangeSpec} {lv : List (String × DataW Unit)} (started : os.Started) (noInit : Tryz.prog.inits.idxOf? f = none) (hfn : Tryz.prog.funcs[f]? = some fn)
    (witness : ∃ (w : World) (tape : Tape) (i : Input), w.os = os ∧ (w.forCall tape i).Shaped Tryz.prog ∧ i.vars = [] ∧ Input.okWide Tryz.prog (w.forCall tape i) .any w.heap.size f i ∧
      ((s.pre enc Tryz.prog fn [] false (w.forCall tape i).memory i.args ∧ laidMetH Tryz.prog lv (w.forCall tape i).memory) ∧ sizedMet enc Tryz.prog fn (OpenSpec.ofChange s) false (w.forCall tape i).memory i.args) ∧ Assume.holds {} Tryz.prog (lone (Frame.enter Tryz.prog f i.args .normal) [] (w.forCall tape i)))
    (contract : ∀ (W : World) (base : Nat) (args : Array Value) (ds gs : List (DataW H)) (before : List MemPlace),
      (∀ (j : Nat) t v, fn.params[j]? = some t → args[j]? = some v → Value.okWide Tryz.prog W .any base t v) →
      DataW.Whole enc Tryz.prog fn.params.toList s.vars false W args.toList ds gs before →
      (DataW.weightsEach Tryz.prog (fn.params.toList ++ s.plain.varTypes Tryz.prog) (ds ++ gs)).all (· ≤ reachBytes) = true →
      laidMetH Tryz.prog lv W → W.ShapedOpen Tryz.prog →
      Calls Tryz.prog f args W fun e W' => ∃ v, e = .returned v ∧ s.post enc Tryz.prog fn false true false false W args v W') :
    ReturnsInHanded {} Tryz.checked os f .any (fun w args => (s.pre enc Tryz.prog fn [] false w args ∧ laidMetH Tryz.prog lv w) ∧ sizedMet enc Tryz.prog fn (OpenSpec.ofChange s) false w args) (s.post enc Tryz.prog fn false true false false) := by
  refine returnsInHanded_of_calls (C := Tryz.checked) own started noInit witness ?_
  intro w tape i _ hsh _ hok hpre hholds
  obtain ⟨_, _, _, fn', hfn', _, _, _, _, hval⟩ := hok
  have e : fn' = fn := Option.some.inj (hfn'.symm.trans hfn)
  subst e
  obtain ⟨⟨⟨ds, gs, before, hw, hc⟩, hx⟩, hz⟩ := hpre
  have hw' := DataW.Whole.of_heap (w' := w.forCall tape i) (by rfl) hw
  refine (contract (w.forCall tape i) w.heap.size i.args ds gs before hval hw' (hz.weights hw) (hx.of_heap (by rfl)) hsh).mono fun e W' ⟨v, he, hp⟩ => ?_
  subst he
  exact ChangeSpec.post_blind hp


set_option maxRecDepth 100000 in
theorem wit_met (os : Os) (args : Array Value) : laidMetH Tryz.prog Rows.parseTellsRow.laid (((({ World.holding Tryz.prog os ⟨#[], #[], []⟩ with heap := (World.holding Tryz.prog os ⟨#[], #[], []⟩).heap.modify 0 fun | .cells _ t fz => .cells #[.iface 150 (.agg #[.pointer (some ⟨8, 26, none⟩)])] t fz | o => o } : World).layVars Tryz.prog laid6).forCall (fun _ _ => 0) ⟨#[], args, []⟩).memory) := by
  refine laidMetH_of_parts ?_ (by kernel_rfl)
  have h : laidMet Tryz.prog laid6 (({ World.holding Tryz.prog os ⟨#[], #[], []⟩ with heap := (World.holding Tryz.prog os ⟨#[], #[], []⟩).heap.modify 0 fun | .cells _ t fz => .cells #[.iface 150 (.agg #[.pointer (some ⟨8, 26, none⟩)])] t fz | o => o } : World).layVars Tryz.prog laid6) :=
    laidMet_layVars (w0 := ({ World.holding Tryz.prog os ⟨#[], #[], []⟩ with heap := (World.holding Tryz.prog os ⟨#[], #[], []⟩).heap.modify 0 fun | .cells _ t fz => .cells #[.iface 150 (.agg #[.pointer (some ⟨8, 26, none⟩)])] t fz | o => o } : World)) ["math/bits.deBruijn32tab", "math/bits.deBruijn64tab", "internal/strconv.uint64pow10", "strconv.ErrRange", "strconv.ErrSyntax", "hayloft/program.ends"] [] (by rw [show (laid6.filter fun x => (["math/bits.deBruijn32tab", "math/bits.deBruijn64tab", "internal/strconv.uint64pow10", "strconv.ErrRange", "strconv.ErrSyntax", "hayloft/program.ends"] : List String).contains x.1) = laid6 from by kernel_rfl]) (by kernel_rfl) (by kernel_rfl) (by rw [show (laid6.filter fun x => !(["math/bits.deBruijn32tab", "math/bits.deBruijn64tab", "internal/strconv.uint64pow10", "strconv.ErrRange", "strconv.ErrSyntax", "hayloft/program.ends"] : List String).contains x.1) = [] from by kernel_rfl]; exact LaidIn.none)
  exact h.of_heap (by simp [World.memory, World.forCall, Input.heap])
set_option maxRecDepth 100000 in
theorem wit_os (os : Os) : (({ World.holding Tryz.prog os ⟨#[], #[], []⟩ with heap := (World.holding Tryz.prog os ⟨#[], #[], []⟩).heap.modify 0 fun | .cells _ t fz => .cells #[.iface 150 (.agg #[.pointer (some ⟨8, 26, none⟩)])] t fz | o => o } : World).layVars Tryz.prog laid6).os = os := World.layVars_os _ _ _
end Go.Proofs.YthfchelkfbboaaaGreatDoor.Pr
