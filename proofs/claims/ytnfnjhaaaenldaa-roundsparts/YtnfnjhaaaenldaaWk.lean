/- What the statements say of a short plan (wakes), read off by the walk. Conditions: none. -/
import Derived.Test.YtnfnjhaaaenldaaWh
namespace Go.Proofs.Ytnfnjhaaaenldaa.Ro
open Go.ChangeShapes Go.WideShapes Go.ChangeAt Go.RowKit
open _root_.Go.Proofs.Ytnfnjhaaaenldaa.Op _root_.Go.Proofs.Ytnfnjhaaaenldaa.So
open _root_.Go.Proofs.Ytnfnjhaaaenldaa.Sp (Pr)
set_option maxRecDepth 20000

def cyW : Nat → Int := fun k => if k = 0 then 0 else if k = 1 then 1 else 3
theorem wk1 : whE 3 2 2 cyW 2 = 0 := by decide
theorem wk2 : whN 3 2 2 cyW 2 = 6 := by decide
theorem wk3 : whE 3 2 2 cyW (-1) = 2 := by decide
theorem wk4 : rowP 2 cyW (evR 3 (2 : Int).toNat) 3 = [(2, 0), (1, 1)] := by decide
set_option maxHeartbeats 8000000 in
theorem wakes_any (w : World) : Calls Try.prog 11 #[] w fun e w' => e = .returned (.bool true) ∧ Below w.heap.size w w' := by
  have HU : Hid (Below w.heap.size w ((w.alloc (.cells #[.int .i64 0, .int .i64 1, .int .i64 3] 3)).alloc (.cells #[.int .i64 2, .slice (some ⟨w.heap.size, 0, none⟩) 3 3, .int .i64 2] 24))) := ((Below.refl _ _).alloc (Nat.le_refl _) _).alloc (by simp) _
  have HB : Hid (At ((w.alloc (.cells #[.int .i64 0, .int .i64 1, .int .i64 3] 3)).alloc (.cells #[.int .i64 2, .slice (some ⟨w.heap.size, 0, none⟩) 3 3, .int .i64 2] 24)) (w.heap.size + 1) #[.int .i64 2, .slice (some ⟨w.heap.size, 0, none⟩) 3 3, .int .i64 2]) := by
    have h := At.new (w.alloc (.cells #[.int .i64 0, .int .i64 1, .int .i64 3] 3)) #[.int .i64 2, .slice (some ⟨w.heap.size, 0, none⟩) 3 3, .int .i64 2] 24
    rw [World.size_alloc] at h
    exact h
  have HL : Hid (Nl ((w.alloc (.cells #[.int .i64 0, .int .i64 1, .int .i64 3] 3)).alloc (.cells #[.int .i64 2, .slice (some ⟨w.heap.size, 0, none⟩) 3 3, .int .i64 2] 24)) ((w.alloc (.cells #[.int .i64 0, .int .i64 1, .int .i64 3] 3)).alloc (.cells #[.int .i64 2, .slice (some ⟨w.heap.size, 0, none⟩) 3 3, .int .i64 2] 24)).heap.size (some ⟨w.heap.size, 0, none⟩) 3 cyW) := ⟨fun _ => ⟨w.heap.size, 0, rfl, by simp; omega, fun k hk => by
    have h := (At.new w #[.int .i64 0, .int .i64 1, .int .i64 3] 3).alloc (.cells #[.int .i64 2, .slice (some ⟨w.heap.size, 0, none⟩) 3 3, .int .i64 2] 24)
    rw [Nat.zero_add]
    obtain rfl | rfl | rfl : k = 0 ∨ k = 1 ∨ k = 2 := by omega
    · exact h.c 0 _ rfl
    · exact h.c 1 _ rfl
    · exact h.c 2 _ rfl⟩⟩
  go_enter Try.func11, Try.ntmps11
  go_upto_region 2 with fail
  generalize ((w.alloc (.cells #[.int .i64 0, .int .i64 1, .int .i64 3] 3)).alloc (.cells #[.int .i64 2, .slice (some ⟨w.heap.size, 0, none⟩) 3 3, .int .i64 2] 24)) = V at *
  have c0 : V.cell? ⟨w.heap.size + 1, 0, none⟩ = some (.int .i64 2) := HB.out.c 0 _ rfl
  have c1 : V.cell? ⟨w.heap.size + 1, 1, none⟩ = some (.slice (some ⟨w.heap.size, 0, none⟩) 3 3) := HB.out.c 1 _ rfl
  have c2 : V.cell? ⟨w.heap.size + 1, 2, none⟩ = some (.int .i64 2) := HB.out.c 2 _ rfl
  have cl := HB.out.lt
  go_upto_region 3 with (first
    | (go_at_call 6; refine Calls.mono (whole_any 2 2 (some ⟨w.heap.size, 0, none⟩) 3 3 cyW 2 _ HL.out (by omega) (by omega)) ?_; rintro e w1 ⟨v, rfl, hb, hr⟩; rw [wk2] at hr; rw [wk1]; have HR : Hid (Below V.heap.size V w1 ∧ Rd w1 v 6 (rowP 2 cyW (evR 3 (2 : Int).toNat))) := ⟨hb, hr⟩; clear hb hr c0 c1 c2 cl))
  have HB2 : Hid (At w1 (w.heap.size + 1) #[.int .i64 2, .slice (some ⟨w.heap.size, 0, none⟩) 3 3, .int .i64 2]) := HB.out.below HR.out.1 HB.out.lt
  have c0 : w1.cell? ⟨w.heap.size + 1, 0, none⟩ = some (.int .i64 2) := HB2.out.c 0 _ rfl
  have c1 : w1.cell? ⟨w.heap.size + 1, 1, none⟩ = some (.slice (some ⟨w.heap.size, 0, none⟩) 3 3) := HB2.out.c 1 _ rfl
  have c2 : w1.cell? ⟨w.heap.size + 1, 2, none⟩ = some (.int .i64 2) := HB2.out.c 2 _ rfl
  have cl := HB2.out.lt
  go_upto_region 4 with (first
    | (go_at_call 6; refine Calls.mono (whole_any 2 2 (some ⟨w.heap.size, 0, none⟩) 3 3 cyW (-1) _ (HL.out.up HR.out.1) (by omega) (by omega)) ?_; rintro e w2 ⟨v2, rfl, hb, hr⟩; rw [wk3]; have HR2 : Hid (Below w1.heap.size w1 w2) := hb; clear hb hr c0 c1 c2 cl))
  have HU2 : Hid (Below w.heap.size w w2) := (HU.out.trans (HR.out.1.mono HU.out.size)).trans (HR2.out.mono (Nat.le_trans HU.out.size HR.out.1.size))
  obtain ⟨a, cap, rfl, hcap, hd⟩ := (HR.out.2.up HR2.out).is
  obtain ⟨b, o, rfl, -, hc⟩ := hd (by omega)
  obtain ⟨u, q1, s1⟩ := hc 3 (by omega)
  rw [wk4] at s1
  obtain ⟨ua, uc, rfl, hu⟩ := s1.is
  obtain ⟨p, rfl, -, hp⟩ := hu (by simp)
  obtain ⟨t1, t2⟩ := hp 0 (2, 0) rfl
  obtain ⟨t3, t4⟩ := hp 1 (1, 1) rfl
  simp only [Nat.zero_mul, Nat.zero_add, Nat.one_mul, Nat.reduceAdd] at t1 t2 t3 t4
  have q2 : w2.cell? ⟨b, o + 3, none⟩ = some (.slice (some ⟨p, 0, none⟩) 2 uc) := q1
  clear HB HB2 HL hc hu hp q1 s1 hd
  go_wp2_with fail
  go_ret
  exact ⟨rfl, HU2.out⟩
end Go.Proofs.Ytnfnjhaaaenldaa.Ro
