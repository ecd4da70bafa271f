/- The document's Digits and lines: read off the program by the walk. Conditions: the numbers are from 0 on; the operations lie in memory. -/
import Derived.Test.YthjpddjfckdefaaDoorSa
import Derived.Test.YthjpddjfckdefaaDoorRt
import Derived.Deep.RegionWith
import Derived.Laws.IdiomStrings
import Derived.Laws.BitsLemmas
namespace Go.Proofs.YthjpddjfckdefaaDoor.Op
open Go.ChangeShapes Go.WideShapes Go.ChangeAt Go.RowKit
set_option maxRecDepth 20000

theorem dg_int (m : Nat) : ((dg m).toNat : Int) = 48 + (m : Int) % 10 := by
  unfold dg
  rw [UInt8.toNat_ofNat']
  omega
/-- A byte, as a text of its own. -/
theorem byte_at (w : World) (k m : Nat) (h : w.cell? ⟨k, 0, none⟩ = some (.int .u8 (48 + (m : Int) % 10))) : (convert 49 9 (.slice (some ⟨k, 0, none⟩) 1 1)).run Tryd.prog w = .ok (.string ⟨#[dg m]⟩) w := by
  refine Go.run_convert_bytes_back (P := Tryd.prog) w 49 9 5 ⟨k, 0, none⟩ 1 [dg m] Tryd.underlying49 Tryd.underlying5 Tryd.underlying9 (fun j hj => ?_)
  obtain rfl : j = 0 := by simpa using hj
  simp only [List.getElem_cons_zero]
  rw [dg_int]
  simpa [Addr.add] using h
theorem byte_new (w : World) (m : Nat) : (convert 49 9 (.slice (some ⟨w.heap.size, 0, none⟩) 1 1)).run Tryd.prog (w.alloc (.cells #[.int .u8 (48 + (m : Int) % 10)] 5)) = .ok (.string ⟨#[dg m]⟩) (w.alloc (.cells #[.int .u8 (48 + (m : Int) % 10)] 5)) := byte_at _ _ m ((At.new w #[.int .u8 (48 + (m : Int) % 10)] 5).c 0 _ rfl)
set_option maxHeartbeats 1000000 in
theorem rdig_small (n : Nat) (w : World) (h : n < 10) : Calls Tryd.prog 15 #[.int .i64 (n : Int)] w fun e w' => e = .returned (.string ⟨(Lib.decDigits n).toArray⟩) ∧ Below w.heap.size w w' := by
  have hc := byte_new w n
  rw [show (n : Int) % 10 = n by omega] at hc
  have hdd : Lib.decDigits n = [dg n] := by rw [dec_pre]; simp [pre, h]
  rw [hdd]
  go_enter Tryd.func15, Tryd.ntmps15
  go_wp2
  go_ret
  exact ⟨rfl, by go_grown⟩
set_option maxHeartbeats 2000000 in
theorem rdig_big (n : Nat) (w : World) (h : 10 ≤ n) (h2 : n ≤ 1000000) (ih : ∀ W, Calls Tryd.prog 15 #[.int .i64 ((n / 10 : Nat) : Int)] W fun e w' => e = .returned (.string ⟨(Lib.decDigits (n / 10)).toArray⟩) ∧ Below W.heap.size W w') : Calls Tryd.prog 15 #[.int .i64 (n : Int)] w fun e w' => e = .returned (.string ⟨(Lib.decDigits n).toArray⟩) ∧ Below w.heap.size w w' := by
  have ht : (n : Int).tmod 10 = (n : Int) % 10 := Int.tmod_eq_emod_of_nonneg (by omega)
  have hq : (n : Int).tdiv 10 = ((n / 10 : Nat) : Int) := by rw [Int.tdiv_eq_ediv_of_nonneg (by omega)]; omega
  have hc : ∀ W : World, (convert 49 9 (.slice (some ⟨W.heap.size, 0, none⟩) 1 1)).run Tryd.prog (W.alloc (.cells #[.int .u8 (48 + (n : Int) % 10)] 5)) = .ok (.string ⟨#[dg n]⟩) (W.alloc (.cells #[.int .u8 (48 + (n : Int) % 10)] 5)) := fun W => byte_new W n
  have hdd : Lib.decDigits n = Lib.decDigits (n / 10) ++ [dg n] := by rw [dec_pre]; simp [pre, show ¬ n < 10 by omega]
  have hl : (Lib.decDigits (n / 10)).length ≤ 7 := dec_len 6 (n / 10) (by omega)
  obtain ⟨c, hcc, hz, hr⟩ := cat_rule ⟨(Lib.decDigits (n / 10)).toArray⟩ ⟨#[dg n]⟩ 7 1 (by rw [ba_size]; exact hl) (by rw [show (⟨#[dg n]⟩ : ByteArray).size = 1 from rfl]; omega) (by omega)
  have hcr : c = ⟨(Lib.decDigits n).toArray⟩ := ba_eq (by rw [hcc, hdd])
  rw [hcr] at hr
  have hcd : (convert 49 9 (.slice (some ⟨w.heap.size, 0, none⟩) 1 1)).run Tryd.prog (w.alloc (.cells #[.int .u8 (48 + (n : Int) % 10)] 5)).drew = .ok (.string ⟨#[dg n]⟩) (w.alloc (.cells #[.int .u8 (48 + (n : Int) % 10)] 5)).drew := byte_at _ _ n ((At.new w #[.int .u8 (48 + (n : Int) % 10)] 5).c 0 _ rfl)
  have hw1 : IntKind.i64.wrap ((n / 10 : Nat) : Int) = ((n / 10 : Nat) : Int) := by rw [IntKind.wrap_i64]; omega
  have hw2 : IntKind.i64.wrap (48 + (n : Int) % 10) = 48 + (n : Int) % 10 := by rw [IntKind.wrap_i64]; omega
  have hw3 : IntKind.u8.wrap (48 + (n : Int) % 10) = 48 + (n : Int) % 10 := by rw [IntKind.wrap_u8]; omega
  have HI : Hid _ := ih
  clear ih hcc hz hcr hdd hl
  generalize Lib.decDigits (n / 10) = d1 at *
  generalize Lib.decDigits n = d2 at *
  generalize ((n / 10 : Nat) : Int) = n1 at *
  go_enter Tryd.func15, Tryd.ntmps15
  go_wp2
  go_region_with (first | (go_at_call 15; (refine Calls.mono (HI.out _) ?_; rintro e u1 ⟨rfl, hb⟩; have HB : Hid (Below w.heap.size w u1) := (by first | exact ((Below.refl w.heap.size w).drew).trans hb | exact (((Below.refl w.heap.size w).alloc (Nat.le_refl _) _).drew).trans (hb.mono (show w.heap.size ≤ (w.alloc (.cells #[.int .u8 (48 + (n : Int) % 10)] 5)).heap.size from Nat.le_of_lt (At.new w #[.int .u8 (48 + (n : Int) % 10)] 5).lt))); (try have hcv := byte_at u1 w.heap.size n (((bcell hb).1 _ _ (show w.heap.size < (w.alloc (.cells #[.int .u8 (48 + (n : Int) % 10)] 5)).drew.heap.size from (At.new w #[.int .u8 (48 + (n : Int) % 10)] 5).lt)).trans ((At.new w #[.int .u8 (48 + (n : Int) % 10)] 5).c 0 _ rfl))); clear hb)))
  all_goals go_wp2
  all_goals go_ret
  all_goals first | exact ⟨rfl, HB.out⟩ | exact ⟨rfl, HB.out.alloc HB.out.size _⟩
theorem rdig_any : ∀ (n : Nat) (w : World), n ≤ 1000000 → Calls Tryd.prog 15 #[.int .i64 (n : Int)] w fun e w' => e = .returned (.string ⟨(Lib.decDigits n).toArray⟩) ∧ Below w.heap.size w w' := by
  intro n
  induction n using Nat.strongRecOn with
  | _ n ih =>
    intro w hn
    rcases Nat.lt_or_ge n 10 with h | h
    · exact rdig_small n w h
    · exact rdig_big n w h hn (fun W => ih (n / 10) (by omega) W (by omega))
end Go.Proofs.YthjpddjfckdefaaDoor.Op
