/- What the statement's own short program is made of: its table, its bundles, two lists of numbers held side by side. Conditions: the lists lie in memory. -/
import Derived.Test.YtldfjlepbbmhnaaDoorQn
namespace Go.Proofs.YtldfjlepbbmhnaaDoor.Pp
open Go.ChangeShapes Go.WideShapes Go.ChangeAt Go.RowKit
open _root_.Go.Proofs.YtldfjlepbbmhnaaDoor.Op _root_.Go.Proofs.YtldfjlepbbmhnaaDoor.So _root_.Go.Proofs.YtldfjlepbbmhnaaDoor.Bu
open _root_.Go.Proofs.YtldfjlepbbmhnaaDoor.Tb (Tab TabAt Bnds tabAt_new)
set_option maxRecDepth 20000

def oneT : Tab := ⟨fun _ => 1, fun k => if k = 1 then 3 else if k = 2 then 2 else 1, fun _ => 1, 1⟩
theorem one_any (w : World) : Calls Tryd.prog 25 #[] w fun e w' => e = .returned oneT.val ∧ Below w.heap.size w w' := by
  go_enter Tryd.func25, Tryd.ntmps25
  go_wp2_with fail
  exact bodyPost_ret (v := oneT.val) (by simp [results, Tryd.results25, go_sem, Tb.Tab.val, oneT]) rfl ⟨rfl, by go_grown⟩
def rowB (k : Nat) (o : O) : Bn := ⟨fun j => if j = k then [o] else []⟩
def rowP (k b : Nat) : Pb := ⟨fun j => if j = k then some ⟨b, 0, none⟩ else none, fun j => if j = k then 1 else 0⟩
theorem row_in {w : World} {k b : Nat} {o : O} (ho : o.Ok) (h : OAt w b 0 o) (hb : b < w.heap.size) : BnIn w (rowB k o) (rowP k b) := ⟨fun j _ => by
  by_cases e : j = k
  · subst e
    refine ⟨fun x hx => ?_, by simp [rowB], fun _ => ⟨b, 0, by simp [rowP], hb, fun i hi => ?_⟩⟩
    · simp [rowB] at hx; subst hx; exact ho
    · have : i = 0 := by simp [rowB] at hi; exact hi
      subst this
      simpa [rowB] using h
  · refine ⟨fun x hx => ?_, by simp [rowB, e], fun h0 => ?_⟩
    · simp [rowB, e] at hx
    · simp [rowB, e] at h0⟩
theorem oat_last (X : World) (n : Nat) (o : O) (hz : X.heap.size = n) : OAt (X.alloc (.cells o.cells 55)) n 0 o := by
  subst hz
  exact ⟨by simp, by simp, by simp, by simp, by simp⟩
def RowPost (k : Nat) (o : O) (w : World) (e : Ending) (w' : World) : Prop := ∃ b, e = .returned (bval (rowB k o) (rowP k b)) ∧ BnIn w' (rowB k o) (rowP k b) ∧ Below w.heap.size w w'
theorem row_1 (o : O) (ho : o.Ok) (w : World) : Calls Tryd.prog 22 #[.int .i64 1, o.val] w (RowPost 1 o w) := by
  have HO : Hid o.Ok := ho
  clear ho
  obtain ⟨o0, o1, o2, o3, o4⟩ := o
  go_enter Tryd.func22, Tryd.ntmps22
  go_wp2_with fail
  refine bodyPost_ret (v := bval (rowB 1 ⟨o0, o1, o2, o3, o4⟩) (rowP 1 (w.heap.size + 3))) (by simp [results, Tryd.results22, go_sem, rowB, rowP]) rfl ?_
  refine ⟨w.heap.size + 3, rfl, row_in HO.out ?_ (by simp), by go_grown⟩
  refine oat_last _ _ ⟨o0, o1, o2, o3, o4⟩ ?_
  simp
theorem row_2 (o : O) (ho : o.Ok) (w : World) : Calls Tryd.prog 22 #[.int .i64 2, o.val] w (RowPost 2 o w) := by
  have HO : Hid o.Ok := ho
  clear ho
  obtain ⟨o0, o1, o2, o3, o4⟩ := o
  go_enter Tryd.func22, Tryd.ntmps22
  go_wp2_with fail
  refine bodyPost_ret (v := bval (rowB 2 ⟨o0, o1, o2, o3, o4⟩) (rowP 2 (w.heap.size + 3))) (by simp [results, Tryd.results22, go_sem, rowB, rowP]) rfl ?_
  refine ⟨w.heap.size + 3, rfl, row_in HO.out ?_ (by simp), by go_grown⟩
  refine oat_last _ _ ⟨o0, o1, o2, o3, o4⟩ ?_
  simp
theorem row_3 (o : O) (ho : o.Ok) (w : World) : Calls Tryd.prog 22 #[.int .i64 3, o.val] w (RowPost 3 o w) := by
  have HO : Hid o.Ok := ho
  clear ho
  obtain ⟨o0, o1, o2, o3, o4⟩ := o
  go_enter Tryd.func22, Tryd.ntmps22
  go_wp2_with fail
  refine bodyPost_ret (v := bval (rowB 3 ⟨o0, o1, o2, o3, o4⟩) (rowP 3 (w.heap.size + 3))) (by simp [results, Tryd.results22, go_sem, rowB, rowP]) rfl ?_
  refine ⟨w.heap.size + 3, rfl, row_in HO.out ?_ (by simp), by go_grown⟩
  refine oat_last _ _ ⟨o0, o1, o2, o3, o4⟩ ?_
  simp
theorem numbers_yes (ba bb ca cb : Nat) (x y : Int) (w : World) (a0 : w.cell? ⟨ba, 0, none⟩ = some (.int .i64 x)) (a1 : w.cell? ⟨ba, 1, none⟩ = some (.int .i64 y)) (b0 : w.cell? ⟨bb, 0, none⟩ = some (.int .i64 x)) (b1 : w.cell? ⟨bb, 1, none⟩ = some (.int .i64 y)) (la : ba < w.heap.size) (lb : bb < w.heap.size) :
    Calls Tryd.prog 19 #[.slice (some ⟨ba, 0, none⟩) 2 ca, .slice (some ⟨bb, 0, none⟩) 2 cb] w fun e w' => e = .returned (.bool true) ∧ Below w.heap.size w w' := by
  go_enter Tryd.func19, Tryd.ntmps19
  go_wp2_with fail
  go_loopw [5] (fun i wr => ∃ k : Nat, k ≤ 2 ∧ i = .int .i64 k ∧ Below w.heap.size w wr) (fun i _ => 2 - (intOf i).toNat)
  case atStart => exact ⟨0, by omega, rfl, Below.refl _ _⟩
  case round =>
    rename World => wr
    obtain ⟨k, hk, rfl, hb⟩ := hrel
    have HB : Hid (Below w.heap.size w wr) := hb
    have c0 := ((bcell hb).1 _ 0 la).trans a0
    have c1 := ((bcell hb).1 _ 1 la).trans a1
    have d0 := ((bcell hb).1 _ 0 lb).trans b0
    have d1 := ((bcell hb).1 _ 1 lb).trans b1
    clear hb a0 a1 b0 b1 la lb
    rcases (by omega : k = 0 ∨ k = 1 ∨ k = 2) with rfl | rfl | rfl
    · go_wp2_with fail
      go_quiet (fail)
      go_wp2_with fail
      exact ⟨⟨1, by omega, rfl, drewN_below HB.out _⟩, by simp [intOf]⟩
    · go_wp2_with fail
      go_quiet (fail)
      go_wp2_with fail
      exact ⟨⟨2, by omega, rfl, drewN_below HB.out _⟩, by simp [intOf]⟩
    · go_wp2_with fail
      go_ret
      exact ⟨rfl, HB.out⟩
end Go.Proofs.YtldfjlepbbmhnaaDoor.Pp
