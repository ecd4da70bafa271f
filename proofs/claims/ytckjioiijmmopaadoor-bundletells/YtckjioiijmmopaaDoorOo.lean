/- Bundles and words out of a card's datum. Conditions: none. -/
import Derived.Test.YtckjioiijmmopaaDoorFr
import Derived.Test.YtckjioiijmmopaaDoorWf
namespace Go.Proofs.YtckjioiijmmopaaDoor.Bu
open Go.ChangeShapes Go.WideShapes Go.ChangeAt Go.RowKit
open _root_.Go.Proofs.YtckjioiijmmopaaDoor.Op
set_option maxRecDepth 20000

/-- One bundle, out of its cells. -/
theorem open_b1 {H : Type} {enc : TypeId × Value → H} {W : World} {fuel : Nat} {held : Bool} {cs : List Value} {y : DataW H × List MemPlace} (h : DataW.trod enc Tryd.prog W 0 (fun _ => true) held fuel 36 cs = some y) (hw : ∀ n, n ∈ y.1.weights Tryd.prog 36 → n ≤ reachBytes) :
    ∃ (x : Bn) (p : Pb), BnIn W x p ∧ cs = (bcs x p).toList := by
  have k36 : Tryd.prog.cellsOf 36 = 4 := by kernel_rfl
  have k34 : Tryd.prog.cellsOf 34 = 4 := by kernel_rfl
  have k33 : Tryd.prog.cellsOf 33 = 1 := by kernel_rfl
  obtain ⟨xs, n, _, hx, hl, hlen, hff⟩ := DataW.trod_struct Tryd.underlying36 h
  rw [k36] at hl
  match cs, hl with
  | [c0, c1, c2, c3], _ =>
    match xs, hlen with
    | [y0], _ =>
      have h0 : DataW.trod enc Tryd.prog W 0 (fun _ => true) held n 34 ((([c0, c1, c2, c3] : List Value).drop 0).take (Tryd.prog.cellsOf 34)) = some y0 := hff 0 _ rfl
      rw [k34] at h0
      have h0' : DataW.trod enc Tryd.prog W 0 (fun _ => true) held n 34 [c0, c1, c2, c3] = some y0 := h0
      obtain ⟨zs, m, _, hz, _, hzl, he⟩ := DataW.trod_array Tryd.underlying34 h0'
      rw [k33] at he
      have e0 := he 0 (by omega)
      have e1 := he 1 (by omega)
      have e2 := he 2 (by omega)
      have e3 := he 3 (by omega)
      match zs, hzl with
      | [z0, z1, z2, z3], _ =>
        have hd : y.1 = .agg [.agg [z0.1, z1.1, z2.1, z3.1]] := by rw [hx]; simp [hz]
        have hall : ∀ n, n ∈ DataW.weightsAll Tryd.prog 33 [z0.1, z1.1, z2.1, z3.1] → n ≤ reachBytes := fun n hn => by
          refine hw n ?_
          rw [hd]
          unfold DataW.weights
          simp only [Tryd.underlying36]
          refine DataW.weights_mem_each (ts := [34]) (ds := [.agg [z0.1, z1.1, z2.1, z3.1]]) (j := 0) rfl rfl n ?_
          unfold DataW.weights
          simp only [Tryd.underlying34]
          exact hn
        obtain ⟨a0, q0, o0, f0, i0, -⟩ := open_list (y := z0) e0 fun n hn => hall n (weightsAll_mem (by simp) hn)
        obtain ⟨a1, q1, o1, f1, i1, -⟩ := open_list (y := z1) e1 fun n hn => hall n (weightsAll_mem (by simp) hn)
        obtain ⟨a2, q2, o2, f2, i2, -⟩ := open_list (y := z2) e2 fun n hn => hall n (weightsAll_mem (by simp) hn)
        obtain ⟨a3, q3, o3, f3, i3, -⟩ := open_list (y := z3) e3 fun n hn => hall n (weightsAll_mem (by simp) hn)
        have f0' : [c0] = [Value.slice a0 o0.length q0] := f0
        have f1' : [c1] = [Value.slice a1 o1.length q1] := f1
        have f2' : [c2] = [Value.slice a2 o2.length q2] := f2
        have f3' : [c3] = [Value.slice a3 o3.length q3] := f3
        obtain rfl : c0 = .slice a0 o0.length q0 := by simpa using f0'
        obtain rfl : c1 = .slice a1 o1.length q1 := by simpa using f1'
        obtain rfl : c2 = .slice a2 o2.length q2 := by simpa using f2'
        obtain rfl : c3 = .slice a3 o3.length q3 := by simpa using f3'
        exact ⟨⟨fun k => if k = 0 then o0 else if k = 1 then o1 else if k = 2 then o2 else o3⟩, ⟨fun k => if k = 0 then a0 else if k = 1 then a1 else if k = 2 then a2 else a3, fun k => if k = 0 then q0 else if k = 1 then q1 else if k = 2 then q2 else q3⟩, ⟨Tb.four i0 i1 i2 i3⟩, rfl⟩
/-- Bundles that come in. -/
theorem open_bs {H : Type} {enc : TypeId × Value → H} {W : World} {r : Reach} {b0 : Nat} {held : Bool} {v : Value} {d : DataW H} {p : List MemPlace} (hv : Value.okWide Tryd.prog W r b0 22 v) (hT : DataW.Trod enc Tryd.prog W 0 (fun _ => true) held 22 v d p) (hw : ∀ n, n ∈ d.weights Tryd.prog 22 → n ≤ reachBytes) :
    ∃ (ao : Option Addr) (cap : Nat) (ls : List Bn), v = .slice ao ls.length cap ∧ BsAt W ao ls := by
  obtain ⟨a0, len0, cap0, rfl⟩ := okWide_slice Tryd.underlying22 hv
  obtain ⟨fuel, hf⟩ := hT
  have h : DataW.trod enc Tryd.prog W 0 (fun _ => true) held fuel 22 [.slice a0 len0 cap0] = some (d, p) := hf
  have k36 : Tryd.prog.cellsOf 36 = 4 := by kernel_rfl
  have b36 : Tryd.prog.bytesOf 36 = 96 := by kernel_rfl
  rcases Deep.open_slice Tryd.underlying22 h with ⟨e, -⟩ | ⟨a, len, cap, m, n, D, Pl, e, _, hlc, hmx, hm, hd, hx⟩
  · exact ⟨none, 0, [], by simpa using e, by simp, fun h => by simp at h⟩
  · have hmc : m = cap := by simpa using hm
    subst hmc
    have hall : ∀ n, n ∈ (m * 96) :: (DataW.weightsAll Tryd.prog 36 ((List.range len).map D) ++ DataW.weightsAll Tryd.prog 36 ((List.range (m - len)).map fun j => D (len + j))) → n ≤ reachBytes := fun n hn => by
      refine hw n ?_
      rw [show d = _ from congrArg Prod.fst hd]
      unfold DataW.weights
      simp only [Tryd.underlying22, b36]
      rw [show ((List.range len).map D).length + ((List.range (m - len)).map fun j => D (len + j)).length = m by simp; omega]
      exact hn
    have hcap : m * 96 ≤ reachBytes := hall _ (List.mem_cons_self ..)
    rw [reach_eq] at hcap
    rw [k36] at hx
    haveI : Inhabited Bn := ⟨⟨fun _ => []⟩⟩
    obtain ⟨X, hX⟩ := Deep.choose_lt (α := Bn) (n := len) (p := fun i x => ∃ p, BnIn W x p ∧ W.cells? 0 (a.add (i * 4)) 4 = some (bcs x p).toList) (fun i hi => by
      obtain ⟨cs', h1, h2⟩ := hx i (by omega)
      obtain ⟨x, p, hb, rfl⟩ := open_b1 h2 fun n hn => hall n (List.mem_cons_of_mem _ (List.mem_append_left _ (weightsAll_mem (List.mem_map.2 ⟨i, List.mem_range.2 hi, rfl⟩) hn)))
      exact ⟨x, p, hb, h1⟩)
    refine ⟨some a, m, (List.range len).map X, by simpa using e, by simp; omega, fun h0 => ?_⟩
    have h0' : 0 < len := by simpa using h0
    have ha : a = ⟨a.block, a.off, none⟩ := by
      obtain ⟨_, _, this⟩ := hX 0 h0'
      rw [show a.add (0 * 4) = a by unfold Addr.add; simp] at this
      exact spot_none this (by omega)
    refine ⟨a.block, a.off, by rw [← ha], ?_, fun i hi => ?_⟩
    · obtain ⟨_, _, this⟩ := hX 0 h0'
      rw [ha, addr_add] at this
      exact (cells_at this (by omega)).1
    · have hi' : i < len := by simpa using hi
      obtain ⟨p, hb, this⟩ := hX i hi'
      rw [ha, addr_add] at this
      have hc := (cells_at this (by omega)).2
      simp only [List.getElem_map, List.getElem_range]
      exact ⟨p, ⟨Tb.four (hc 0 _ rfl) (hc 1 _ rfl) (hc 2 _ rfl) (hc 3 _ rfl)⟩, hb⟩

theorem cell_spot {w : World} {a : Addr} {v : Value} (h : w.cell? a = some v) : a = ⟨a.block, a.off, none⟩ := by
  obtain ⟨b, f, s⟩ := a
  cases s with
  | none => rfl
  | some s =>
    unfold World.cell? at h
    split at h
    · simp at h
    · cases h
theorem wfu64 {n : Int} (h : (Lit.int .u64 n).wf = true) : 0 ≤ n ∧ n < 18446744073709551616 := by
  simp [Lit.wf, IntKind.min, IntKind.max, IntKind.signed, IntKind.bits] at h
  omega
/-- Words that come in. -/
theorem open_ws {H : Type} {enc : TypeId × Value → H} {W : World} {r : Reach} {b0 : Nat} {held : Bool} {v : Value} {d : DataW H} {p : List MemPlace} (hv : Value.okWide Tryd.prog W r b0 23 v) (h : DataW.Trod enc Tryd.prog W 0 (fun _ => true) held 23 v d p) (hw : ∀ n, n ∈ d.weights Tryd.prog 23 → n ≤ reachBytes) :
    ∃ (ao : Option Addr) (n cap : Nat) (g : Nat → Int), v = .slice ao n cap ∧ n ≤ cap ∧ n ≤ 17592186044416 ∧ Ws W ao n g := by
  obtain ⟨a0, len0, cap0, rfl⟩ := okWide_slice Tryd.underlying23 hv
  obtain ⟨fuel, hf⟩ := h
  have hf' : DataW.trod enc Tryd.prog W 0 (fun _ => true) held fuel 23 [.slice a0 len0 cap0] = some (d, p) := hf
  have b44 : Tryd.prog.bytesOf 44 = 8 := by kernel_rfl
  rcases open_ints (P := Tryd.prog) Tryd.underlying23 Tryd.underlying44 (by kernel_rfl) hf' with ⟨e, -⟩ | ⟨a, len, cap, zs, e, -, hl, hc, hz, hd, hcell, hwf⟩
  · refine ⟨none, 0, 0, fun _ => 0, by simpa using e, by omega, by omega, fun j hj => absurd hj (by omega), fun h => absurd h (by omega)⟩
  · have hz : zs.length = cap := by simpa using hz
    simp only [List.cons.injEq, Value.slice.injEq, and_true] at e
    obtain ⟨rfl, rfl, rfl⟩ := e
    have hcap : cap0 * 8 ≤ reachBytes := by
      refine hw _ ?_
      rw [show d = _ from congrArg Prod.fst hd]
      unfold DataW.weights
      simp only [Tryd.underlying23, b44]
      refine List.mem_cons.2 (.inl ?_)
      simp [lits, List.length_take, List.length_drop]; omega
    rw [reach_eq] at hcap
    refine ⟨some a, len0, cap0, fun k => zs.getD k 0, rfl, hl, by omega, fun k hk => ?_, fun h0 => ?_⟩
    · have hm : zs.getD k 0 ∈ zs := by
        have hk' : k < zs.length := by omega
        rw [List.getD_eq_getElem?_getD, List.getElem?_eq_getElem hk']; exact List.getElem_mem hk'
      exact wfu64 (hwf _ hm)
    · have h1 := hcell 0 (by omega)
      rw [show a.add 0 = a by unfold Addr.add; simp] at h1
      have ha := cell_spot h1
      refine ⟨a.block, a.off, by rw [← ha], World.block_lt_of_cell? W a h1, fun i hi => ?_⟩
      have h2 := hcell i (by omega)
      rw [ha, show (⟨a.block, a.off, none⟩ : Addr).add i = ⟨a.block, a.off + i, none⟩ by simp [Addr.add]] at h2
      exact h2
/-- A number that comes in. -/
theorem open_num {H : Type} {enc : TypeId × Value → H} {W : World} {r : Reach} {b0 base : Nat} {sp : Nat → Bool} {held : Bool} {v : Value} {d : DataW H} {p : List MemPlace} (hv : Value.okWide Tryd.prog W r b0 3 v) (h : DataW.Trod enc Tryd.prog W base sp held 3 v d p) : (∃ n : Int, v = .int .i64 n) ∧ p = [] := by
  obtain ⟨n, rfl⟩ := okWide_int Tryd.underlying3 hv
  obtain ⟨fuel, hf⟩ := h
  obtain ⟨a, a1, a2, a3⟩ := DataW.trod_int Tryd.underlying3 hf
  exact ⟨⟨n, rfl⟩, congrArg Prod.snd a2⟩
end Go.Proofs.YtckjioiijmmopaaDoor.Bu
