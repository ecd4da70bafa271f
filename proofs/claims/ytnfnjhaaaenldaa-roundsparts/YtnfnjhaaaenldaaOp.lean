/- A plan out of the datum of a statement. Conditions: none. -/
import Derived.Test.YtnfnjhaaaenldaaRows
import Derived.Test.YtnfnjhaaaenldaaMe
import Derived.Deep.Strs
import Derived.ChangeSlices
import Derived.ProofKit
import Derived.OpenShut
import Derived.ChangeOld
import Derived.SizedLaws
import Derived.Carry
import Derived.ChangeMaps5
import Derived.Deep.Slices
import Derived.Lib.SmallJoins
namespace Go.Proofs.Ytnfnjhaaaenldaa.Ro
open Go.ChangeShapes Go.WideShapes Go.ChangeAt Go.RowKit
open _root_.Go.Proofs.Ytnfnjhaaaenldaa.Op _root_.Go.Proofs.Ytnfnjhaaaenldaa.So
set_option maxRecDepth 20000

theorem wf64 {n : Int} (h : (Lit.int .i64 n).wf = true) : -9223372036854775808 ≤ n ∧ n ≤ 9223372036854775807 := by
  simp [Lit.wf, IntKind.min, IntKind.max, IntKind.signed, IntKind.bits] at h
  omega
theorem own : ownKnob Try.prog.godebug = none := by kernel_rfl
theorem reach_eq : reachBytes = 140737488351232 := rfl
theorem tySize : Try.prog.types.size = 71 := by kernel_rfl
theorem laidOut : laidOutB Try.prog = true := by kernel_rfl
theorem cell_spot57 {w : World} {a : Addr} {v : Value} (h : w.cell? a = some v) : a = ⟨a.block, a.off, none⟩ := by
  obtain ⟨b, f, s⟩ := a
  cases s with
  | none => rfl
  | some s =>
    unfold World.cell? at h
    split at h
    · simp at h
    · cases h
theorem nums_small {H : Type} {enc : TypeId × Value → H} {W : World} {fuel : Nat} {held : Bool} {ao : Option Addr} {n cap : Nat} {d : DataW H} {p : List MemPlace} (hf' : DataW.trod enc Try.prog W 0 (fun _ => true) held fuel 22 [.slice ao n cap] = some (d, p)) (hw : ∀ n, n ∈ d.weights Try.prog 22 → n ≤ reachBytes) : n ≤ 17592186044400 := by
  have b49 : Try.prog.bytesOf 3 = 8 := by kernel_rfl
  rcases Deep.open_slice Try.underlying22 hf' with ⟨e, -⟩ | ⟨a, len, cap2, m, q, D, Pl, e, -, hlc, -, hm, e2, -⟩
  · injection e with e _
    injection e with _ e _
    omega
  · have hmc : m = cap2 := by simpa using hm
    have hcap : m * 8 ≤ reachBytes := by
      refine hw _ ?_
      have e3 : d = _ := congrArg Prod.fst e2
      rw [e3]
      unfold DataW.weights
      simp only [Try.underlying22, b49]
      refine List.mem_cons.2 (.inl ?_)
      simp; omega
    rw [reach_eq] at hcap
    injection e with e _
    injection e with _ e _
    omega
theorem open_nums {H : Type} {enc : TypeId × Value → H} {W : World} {fuel : Nat} {held : Bool} {c : Value} {d : DataW H} {p : List MemPlace} (hf' : DataW.trod enc Try.prog W 0 (fun _ => true) held fuel 22 [c] = some (d, p)) (hw : ∀ n, n ∈ d.weights Try.prog 22 → n ≤ reachBytes) :
    ∃ (la : Option Addr) (lc n : Nat) (g : Nat → Int), c = .slice la n lc ∧ Nl W W.heap.size la n g ∧ n ≤ 17592186044400 := by
  rcases open_ints (P := Try.prog) Try.underlying22 Try.underlying3 (by kernel_rfl) hf' with ⟨e, -⟩ | ⟨a, len, cap, zs, e, -, hl, hc, hz, -, hcell, hwf⟩
  · exact ⟨none, 0, 0, fun _ => 0, by simpa using e, ⟨fun h => by omega⟩, by omega⟩
  · have hz : zs.length = cap := by simpa using hz
    simp only [List.cons.injEq, and_true] at e
    subst e
    refine ⟨some a, cap, len, fun k => zs.getD k 0, rfl, ⟨fun h0 => ?_⟩, nums_small hf' hw⟩
    have h1 := hcell 0 (by omega)
    rw [show a.add 0 = a by unfold Addr.add; simp] at h1
    have ha := cell_spot57 h1
    refine ⟨a.block, a.off, by rw [← ha], World.block_lt_of_cell? W a h1, fun i hi => ?_⟩
    have h2 := hcell i (by omega)
    rw [ha, show (⟨a.block, a.off, none⟩ : Addr).add i = ⟨a.block, a.off + i, none⟩ by simp [Addr.add]] at h2
    exact h2
theorem open_plan {H : Type} {enc : TypeId × Value → H} {W : World} {r : Reach} {b0 : Nat} {held : Bool} {v : Value} {d : DataW H} {p : List MemPlace} (hv : Value.okWide Try.prog W r b0 24 v) (h : DataW.Trod enc Try.prog W 0 (fun _ => true) held 24 v d p) (hw : ∀ n, n ∈ d.weights Try.prog 24 → n ≤ reachBytes) :
    ∃ (E S : Int) (la : Option Addr) (lc n : Nat) (g : Nat → Int), v = .agg #[.int .i64 E, .slice la n lc, .int .i64 S] ∧ (Nl W W.heap.size la n g ∧ n ≤ 17592186044400) ∧ (-9223372036854775808 ≤ E ∧ E ≤ 9223372036854775807) ∧ (-9223372036854775808 ≤ S ∧ S ≤ 9223372036854775807) := by
  obtain ⟨cs, rfl, hsz⟩ := okWide_struct Try.underlying24 hv
  have k24 : Try.prog.cellsOf 24 = 3 := by kernel_rfl
  have k22 : Try.prog.cellsOf 22 = 1 := by kernel_rfl
  have k3 : Try.prog.cellsOf 3 = 1 := by kernel_rfl
  rw [k24] at hsz
  obtain ⟨l⟩ := cs
  clear hv
  match l, hsz with
  | [c0, c1, c2], _ =>
    obtain ⟨fuel, hf⟩ := h
    obtain ⟨y0, y1, y2, n, hx, _, h0, h1, h2⟩ := Deep.trod_struct3 Try.underlying24 hf
    rw [k3] at h0 h2
    rw [k22] at h1
    have h0 : DataW.trod enc Try.prog W 0 (fun _ => true) held n 3 [c0] = some y0 := h0
    have h1 : DataW.trod enc Try.prog W 0 (fun _ => true) held n 22 [c1] = some y1 := h1
    have h2 : DataW.trod enc Try.prog W 0 (fun _ => true) held n 3 [c2] = some y2 := h2
    obtain ⟨E, e0, f0, w0⟩ := DataW.trod_int Try.underlying3 h0
    obtain ⟨S, e2, f2, w2⟩ := DataW.trod_int Try.underlying3 h2
    obtain ⟨la, lc, k, g, e1, hn⟩ := open_nums (c := c1) (d := y1.1) (p := y1.2) h1 fun m hm => hw m (by
      have e3 : d = _ := congrArg Prod.fst hx
      rw [e3]
      unfold DataW.weights
      simp only [Try.underlying24]
      show m ∈ DataW.weightsEach Try.prog [3, 22, 3] [y0.1, y1.1, y2.1]
      unfold DataW.weightsEach
      refine List.mem_append_right _ ?_
      unfold DataW.weightsEach
      exact List.mem_append_left _ hm)
    have e0 : c0 = .int .i64 E := by simpa using e0
    have e2 : c2 = .int .i64 S := by simpa using e2
    subst e0 e1 e2
    exact ⟨E, S, la, lc, k, g, rfl, hn, wf64 w0, wf64 w2⟩
end Go.Proofs.Ytnfnjhaaaenldaa.Ro
