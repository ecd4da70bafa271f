/- What the statements' own Fault answers of what Program told, read off the program by the walk. Conditions: the variables lie in memory as the program lays them. -/
import Derived.Test.YthfchelkfbboaaaGreatDoorPa
import Derived.Test.YthfchelkfbboaaaGreatDoorAs
import Derived.Deep.QuietTactic
import Derived.BigQuiet
namespace Go.Proofs.YthfchelkfbboaaaGreatDoor.Pr
open Go.ChangeShapes Go.WideShapes Go.ChangeAt Go.RowKit
open _root_.Go.Proofs.YthfchelkfbboaaaGreatDoor.Op
set_option maxRecDepth 20000

theorem as_any (q : Nat) (t : Addr) (old : Value) (w : World) (hg : w.cell? ⟨0, 0, none⟩ = some (.iface 150 (.agg #[.pointer (some ⟨8, 26, none⟩)]))) (ht0 : w.cell? t = some old) (hf0 : w.frozen? t = false) :
    Calls Tryz.prog 38 #[.iface 49 (.pointer (some ⟨q, 0, none⟩)), .iface 94 (.pointer (some t))] w fun ev w' => ev = .returned (.bool true) ∧ ∃ w1, Below w.heap.size w w1 ∧ w' = w1.setCell t (.pointer (some ⟨q, 0, none⟩)) :=
  (as_hit ⟨q, 0, none⟩ t old w hg ht0 hf0).mono fun _ _ h => ⟨h.1, _, by go_grown, h.2⟩

def fltV (c a : Int) (s : ByteArray) : Value := .agg #[.int .i64 c, .int .i64 a, .string s]

theorem fault_nil (w : World) : Calls Tryz.prog 17 #[.nilIface] w fun e w' => e = .returned (.tuple #[fltV 0 0 ⟨#[]⟩, .bool true]) ∧ Below w.heap.size w w' := by
  go_enter Tryz.func17, Tryz.ntmps17
  go_wp2
  go_returns
  exact ⟨rfl, (Below.refl _ _).alloc (Nat.le_refl _) _⟩
/-- A fault that is asked for. -/
structure Fy (w V : World) (q : Nat) (c a : Int) (s : ByteArray) : Prop where
  r : At V w.heap.size #[.int .i64 0, .int .i64 0, .string ⟨#[]⟩]
  p : At V (w.heap.size + 1) #[.pointer (some ⟨q, 0, none⟩)]
  f0 : V.cell? ⟨q, 0, none⟩ = some (.int .i64 c)
  f1 : V.cell? ⟨q, 1, none⟩ = some (.int .i64 a)
  f2 : V.cell? ⟨q, 2, none⟩ = some (.string s)
  b : Below w.heap.size w V
theorem Fy.start {w w1 : World} {q : Nat} {c a : Int} {s : ByteArray} (hq : q < w.heap.size) (c0 : w.cell? ⟨q, 0, none⟩ = some (.int .i64 c)) (c1 : w.cell? ⟨q, 1, none⟩ = some (.int .i64 a)) (c2 : w.cell? ⟨q, 2, none⟩ = some (.string s)) (hb1 : Below ((w.alloc (.cells #[.int .i64 0, .int .i64 0, .string ⟨#[]⟩] 62)).alloc (.cells #[.pointer none] 49)).heap.size ((w.alloc (.cells #[.int .i64 0, .int .i64 0, .string ⟨#[]⟩] 62)).alloc (.cells #[.pointer none] 49)) w1) : Fy w (w1.setCell ⟨w.heap.size + 1, 0, none⟩ (.pointer (some ⟨q, 0, none⟩))) q c a s := by
  obtain ⟨a1, a2, hb, _, _⟩ := two_new w _ _ 62 49 hb1
  have k : ∀ j, (w1.setCell ⟨w.heap.size + 1, 0, none⟩ (.pointer (some ⟨q, 0, none⟩))).cell? ⟨q, j, none⟩ = w.cell? ⟨q, j, none⟩ := fun j => by rw [set_far _ (by omega)]; exact (bcell hb).1 q j hq
  exact ⟨at_fr a1 ((Fr.refl (One (w.heap.size + 1)) w1).setCell (.inr rfl) _ _) (by show ¬ _ = _; omega), at_set a2 (j := 0) (by simp) _, (k 0).trans c0, (k 1).trans c1, (k 2).trans c2, hb.setCell (by show w.heap.size ≤ w.heap.size + 1; omega) _⟩

set_option maxHeartbeats 1000000 in
theorem fault_some (q : Nat) (c : Int) (f : Wd') (w : World) (hV : Vars w) (hF : FaultAt w q c f) (hc : c ≠ 0) :
    Calls Tryz.prog 17 #[.iface 49 (.pointer (some ⟨q, 0, none⟩))] w fun e w' => e = .returned (.tuple #[fltV c (f.1 : Int) ⟨f.2.toArray⟩, .bool true]) ∧ Below w.heap.size w w' := by
  have het := hV.et
  have h9 : 9 ≤ w.heap.size := hV.e.big
  have hq := hF.lt
  have c0 : w.cell? ⟨q, 0, none⟩ = some (.int .i64 c) := by rw [Lib.cell_of_heap hF]; rfl
  have c1 : w.cell? ⟨q, 1, none⟩ = some (.int .i64 (f.1 : Int)) := by rw [Lib.cell_of_heap hF]; rfl
  have c2 : w.cell? ⟨q, 2, none⟩ = some (.string ⟨f.2.toArray⟩) := by rw [Lib.cell_of_heap hF]; rfl
  generalize (f.1 : Int) = a at *
  generalize (⟨f.2.toArray⟩ : ByteArray) = s at *
  have hcb : (c == 0) = false := by simpa using hc
  have hcb : (c != 0) = true := by simpa using hc
  clear hV hF
  have hA : Hid _ := as_any q ⟨w.heap.size + 1, 0, none⟩ (.pointer none) ((w.alloc (.cells #[.int .i64 0, .int .i64 0, .string ⟨#[]⟩] 62)).alloc (.cells #[.pointer none] 49)) (by rw [World.cell?_alloc_lt _ _ ⟨0, 0, none⟩ (by simp), World.cell?_alloc_lt _ _ ⟨0, 0, none⟩ (by show 0 < w.heap.size; omega)]; exact het) (by simp) (by simp)
  have HS : Hid (∀ w1, Below ((w.alloc (.cells #[.int .i64 0, .int .i64 0, .string ⟨#[]⟩] 62)).alloc (.cells #[.pointer none] 49)).heap.size ((w.alloc (.cells #[.int .i64 0, .int .i64 0, .string ⟨#[]⟩] 62)).alloc (.cells #[.pointer none] 49)) w1 → Fy w (w1.setCell ⟨w.heap.size + 1, 0, none⟩ (.pointer (some ⟨q, 0, none⟩))) q c a s) := fun w1 h => Fy.start hq c0 c1 c2 h
  clear het c0 c1 c2
  go_enter Tryz.func17, Tryz.ntmps17
  go_wp2_with (first | (go_at_call 38; refine Calls.mono hA.out ?_; rintro e w3 ⟨rfl, w1, hb1, hw⟩; have hfy := HS.out w1 hb1; rw [← hw] at hfy; clear hw hb1 hA HS; have g0 := hfy.p.c 0 _ rfl; have m0 := hfy.f0; have m1 := hfy.f1; have m2 := hfy.f2; obtain ⟨r0, r1, r2⟩ := hfy.r.k3; have rf := hfy.r.f; have HB : Hid _ := hfy.b; have HR : Hid _ := hfy.r; clear hfy))
  have hqne : q ≠ w.heap.size := by omega
  go_region_held3 (fun w' => w'.cell? ⟨w.heap.size + 1, 0, none⟩ = some (.pointer (some ⟨q, 0, none⟩)) ∧ w'.cell? ⟨q, 0, none⟩ = some (.int .i64 c) ∧ w'.cell? ⟨q, 1, none⟩ = some (.int .i64 a) ∧ w'.cell? ⟨q, 2, none⟩ = some (.string s))
    (first | (go_keep; done) | ((try dsimp only); (refine ⟨?_, ?_, ?_, ?_⟩) <;> exact ((set_far _ (by omega)).trans ((set_far _ (by omega)).trans (set_far _ (by omega)))).trans (by assumption))) (fail)
  go_wp2
  refine bodyPost_ret (v := .tuple #[.agg #[.int .i64 c, .int .i64 a, .string s], .bool true]) (by simp [results, Tryz.results17, go_sem, r0, r1, r2]) rfl ⟨rfl, ?_⟩
  refine Below.drew ?_
  iterate 3 (refine Below.setCell (B := w.heap.size) (p := ⟨w.heap.size, _, none⟩) ?_ (Nat.le_refl _) _)
  exact HB.out

/-- Told: the error is this fault. -/
theorem told_some (q : Nat) (c : Int) (f : Wd') (w : World) (hV : Vars w) (hF : FaultAt w q c f) (hc : c ≠ 0) :
    Calls Tryz.prog 8 #[.iface 49 (.pointer (some ⟨q, 0, none⟩)), fltV c (f.1 : Int) ⟨f.2.toArray⟩] w fun e w' => e = .returned (.bool true) ∧ Below w.heap.size w w' := by
  have hf := fault_some q c f (w.alloc (.cells #[.int .i64 c, .int .i64 (f.1 : Int), .string ⟨f.2.toArray⟩] 31)) (hV.up ((Below.refl _ _).alloc (Nat.le_refl _) _)) (by unfold FaultAt; rw [((Below.refl _ _).alloc (Nat.le_refl _) _).block q hF.lt]; exact hF) hc
  unfold fltV at hf ⊢
  generalize (f.1 : Int) = a at *
  generalize (⟨f.2.toArray⟩ : ByteArray) = s at *
  have h9 : 9 ≤ w.heap.size := hV.e.big
  have HF : Hid _ := hf
  have hcb : (c == 0) = false := by simpa using hc
  clear hf hV hF
  go_enter Tryz.func8, Tryz.ntmps8
  go_wp2_with (first | (go_at_call 17; refine Calls.mono HF.out ?_; rintro e w1 ⟨rfl, hb⟩; obtain ⟨a1, hb0, hz⟩ := one_new w _ _ hb; clear HF hb; have HB : Hid _ := hb0; clear hb0; obtain ⟨r0, r1, r2⟩ := a1.k3; clear a1))
  go_quiet (fail)
  go_wp2
  go_ret
  exact ⟨rfl, drewN_below (HB.out.alloc HB.out.size _) nq⟩
/-- Told: there is no error. -/
theorem told_nil (w : World) : Calls Tryz.prog 8 #[.nilIface, fltV 0 0 ⟨#[]⟩] w fun e w' => e = .returned (.bool true) ∧ Below w.heap.size w w' := by
  have hf := fault_nil (w.alloc (.cells #[.int .i64 0, .int .i64 0, .string ⟨#[]⟩] 31))
  unfold fltV at hf ⊢
  have HF : Hid _ := hf
  clear hf
  go_enter Tryz.func8, Tryz.ntmps8
  go_wp2_with (first | (go_at_call 17; refine Calls.mono HF.out ?_; rintro e w1 ⟨rfl, hb⟩; obtain ⟨a1, hb0, hz⟩ := one_new w _ _ hb; clear HF hb; have HB : Hid _ := hb0; clear hb0; obtain ⟨r0, r1, r2⟩ := a1.k3; clear a1))
  go_quiet (fail)
  go_wp2
  go_ret
  exact ⟨rfl, drewN_below (HB.out.alloc HB.out.size _) nq⟩
end Go.Proofs.YthfchelkfbboaaaGreatDoor.Pr
