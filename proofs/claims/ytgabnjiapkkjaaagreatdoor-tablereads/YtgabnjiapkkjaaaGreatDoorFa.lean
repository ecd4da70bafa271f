/- What the statements' own Fault answers of what Parse told, read off the program by the walk. Conditions: the variables lie in memory as the program lays them. -/
import Derived.Test.YtgabnjiapkkjaaaGreatDoorPa
import Derived.Test.YtgabnjiapkkjaaaGreatDoorAs
namespace Go.Proofs.YtgabnjiapkkjaaaGreatDoor.Tb
open Go.ChangeShapes Go.WideShapes Go.ChangeAt Go.RowKit

theorem as_any (q : Nat) (t : Addr) (old : Value) (w : World) (hg : w.cell? ⟨5, 0, none⟩ = some (.iface 130 (.agg #[.pointer (some ⟨14, 33, none⟩)]))) (ht0 : w.cell? t = some old) (hf0 : w.frozen? t = false) :
    Calls Tryz.prog 27 #[.iface 58 (.pointer (some ⟨q, 0, none⟩)), .iface 74 (.pointer (some t))] w fun ev w' => ev = .returned (.bool true) ∧ ∃ w1, Below w.heap.size w w1 ∧ w' = w1.setCell t (.pointer (some ⟨q, 0, none⟩)) :=
  (as_hit ⟨q, 0, none⟩ t old w hg ht0 hf0).mono fun _ _ h => ⟨h.1, _, by go_grown, h.2⟩

def fltV (c a : Int) (s : ByteArray) : Value := .agg #[.int .i64 c, .int .i64 a, .string s]

theorem fault_nil (w : World) : Calls Tryz.prog 16 #[.nilIface] w fun e w' => e = .returned (.tuple #[fltV 0 0 ⟨#[]⟩, .bool true]) ∧ Below w.heap.size w w' := by
  go_enter Tryz.func16, Tryz.ntmps16
  go_wp2
  go_returns
  exact ⟨rfl, (Below.refl _ _).alloc (Nat.le_refl _) _⟩

set_option maxHeartbeats 1000000 in
theorem fault_some (q : Nat) (c a : Int) (s : ByteArray) (w : World) (hE : Env w) (hF : FaultAt w q c a s) (hc : c ≠ 0) :
    Calls Tryz.prog 16 #[.iface 58 (.pointer (some ⟨q, 0, none⟩))] w fun e w' => e = .returned (.tuple #[fltV c a s, .bool true]) ∧ Below w.heap.size w w' := by
  have het := hE.et
  have h14 := hE.G.big
  have hq : q < w.heap.size := by
    rcases Nat.lt_or_ge q w.heap.size with h | h
    · exact h
    · unfold FaultAt at hF; rw [Array.getElem?_eq_none h] at hF; cases hF
  have c0 : w.cell? ⟨q, 0, none⟩ = some (.int .i64 c) := by rw [Lib.cell_of_heap hF]; rfl
  have c1 : w.cell? ⟨q, 1, none⟩ = some (.int .i64 a) := by rw [Lib.cell_of_heap hF]; rfl
  have c2 : w.cell? ⟨q, 2, none⟩ = some (.string s) := by rw [Lib.cell_of_heap hF]; rfl
  have hcb : (c == 0) = false := by simpa using hc
  clear hE hF
  have hA : Hid _ := as_any q ⟨w.heap.size + 1, 0, none⟩ (.pointer none) ((w.alloc (.cells #[.int .i64 0, .int .i64 0, .string ⟨#[]⟩] 37)).alloc (.cells #[.pointer none] 58)) (by rw [look_old _ _ _ _ (by simp; omega), look_old _ _ _ _ (by omega)]; exact het) (by simp) (by simp)
  clear het
  go_enter Tryz.func16, Tryz.ntmps16
  go_wp2_with (first | (go_at_call 27; refine Calls.mono hA.out ?_; rintro e w2 ⟨rfl, w1, hb1, hw⟩; subst w2; refine Hid.out ?_))
  refine Lib.hid ?_
  have hz1 := hb1.size
  simp at hz1
  obtain ⟨w2, hw2⟩ : ∃ w2, w2 = w1.setCell ⟨w.heap.size + 1, 0, none⟩ (.pointer (some ⟨q, 0, none⟩)) := ⟨_, rfl⟩
  rw [← hw2]
  have k1 : ∀ b j, b < w.heap.size + 1 → w2.cell? ⟨b, j, none⟩ = ((w.alloc (.cells #[.int .i64 0, .int .i64 0, .string ⟨#[]⟩] 37)).alloc (.cells #[.pointer none] 58)).cell? ⟨b, j, none⟩ := fun b j h => by
    rw [hw2, set_other (addr_ne (.inl (by omega)))]; exact (bcell hb1).1 b j (by simp; omega)
  have k2 : ∀ b j, b < w.heap.size → w2.cell? ⟨b, j, none⟩ = w.cell? ⟨b, j, none⟩ := fun b j h => by
    rw [k1 b j (by omega), look_old _ _ _ _ (by simp; omega), look_old _ _ _ _ h]
  have g0 : w2.cell? ⟨w.heap.size + 1, 0, none⟩ = some (.pointer (some ⟨q, 0, none⟩)) := by
    rw [hw2]; exact set_same (((bcell hb1).1 _ _ (by simp)).trans (by simp : _ = some (Value.pointer none)))
  have r0 : w2.cell? ⟨w.heap.size, 0, none⟩ = some (.int .i64 0) := (k1 _ _ (by omega)).trans (look [.cells #[.int .i64 0, .int .i64 0, .string ⟨#[]⟩] 37, .cells #[.pointer none] 58] w 0 _ _ _ _ _ rfl rfl rfl)
  have r1 : w2.cell? ⟨w.heap.size, 1, none⟩ = some (.int .i64 0) := (k1 _ _ (by omega)).trans (look [.cells #[.int .i64 0, .int .i64 0, .string ⟨#[]⟩] 37, .cells #[.pointer none] 58] w 0 _ _ _ _ _ rfl rfl rfl)
  have r2 : w2.cell? ⟨w.heap.size, 2, none⟩ = some (.string ⟨#[]⟩) := (k1 _ _ (by omega)).trans (look [.cells #[.int .i64 0, .int .i64 0, .string ⟨#[]⟩] 37, .cells #[.pointer none] 58] w 0 _ _ _ _ _ rfl rfl rfl)
  have rf : ∀ j, w2.frozen? ⟨w.heap.size, j, none⟩ = false := fun j => by
    rw [hw2, World.frozen?_setCell, (bcell hb1).2 _ _ (by simp; omega)]; simp
  have m0 := (k2 q 0 hq).trans c0
  have m1 := (k2 q 1 hq).trans c1
  have m2 := (k2 q 2 hq).trans c2
  have HB : Hid (Below w.heap.size w w2) := by
    have : Below w.heap.size w w2 := by
      rw [hw2]
      exact Below.setCell (p := ⟨w.heap.size + 1, 0, none⟩) ((((Below.refl _ w).alloc (Nat.le_refl _) _).alloc (by simp) _).trans (hb1.mono (by simp; omega))) (by show w.heap.size ≤ w.heap.size + 1; omega) _
    exact this
  have hqne : q ≠ w.heap.size := by omega
  clear k1 k2 hw2 hb1 hz1 hA c0 c1 c2
  go_wp2
  go_region_held3 (fun w' => w'.cell? ⟨w.heap.size + 1, 0, none⟩ = some (.pointer (some ⟨q, 0, none⟩)) ∧ w'.cell? ⟨q, 0, none⟩ = some (.int .i64 c) ∧ w'.cell? ⟨q, 1, none⟩ = some (.int .i64 a) ∧ w'.cell? ⟨q, 2, none⟩ = some (.string s))
    (first | (go_keep; done) | ((try dsimp only); (refine ⟨?_, ?_, ?_, ?_⟩) <;> exact ((set_other (addr_ne (.inl (by omega)))).trans ((set_other (addr_ne (.inl (by omega)))).trans (set_other (addr_ne (.inl (by omega)))))).trans (by assumption))) (fail)
  go_wp2
  refine bodyPost_ret (v := .tuple #[.agg #[.int .i64 c, .int .i64 a, .string s], .bool true]) (by simp [results, Tryz.results16, go_sem, r0, r1, r2]) rfl ⟨rfl, ?_⟩
  refine Below.drew ?_
  iterate 3 (refine Below.setCell (B := w.heap.size) (p := ⟨w.heap.size, _, none⟩) ?_ (Nat.le_refl _) _)
  exact HB.out

end Go.Proofs.YtgabnjiapkkjaaaGreatDoor.Tb
