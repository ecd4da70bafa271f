/- The statements' own wakes answers true: two texts are read as the document says. Conditions: the variables lie in memory as the program lays them. -/
import Derived.Test.YthfchelkfbboaaaGreatDoorFa
namespace Go.Proofs.YthfchelkfbboaaaGreatDoor.Pr
open Go.ChangeShapes Go.WideShapes Go.ChangeAt Go.RowKit
open _root_.Go.Proofs.YthfchelkfbboaaaGreatDoor.Op
set_option maxRecDepth 20000

def text1 : List UInt8 := [98, 108, 111, 99, 107, 32, 48, 58, 10, 99, 111, 110, 115, 116, 32, 114, 49, 32, 53, 10, 104, 97, 108, 116, 32, 114, 49, 10]
def text2 : List UInt8 := [98, 108, 111, 99, 107, 32, 49, 58]
theorem text1_is : parseF text1 = (none, [⟨[⟨1, 1, 0, 0, 5⟩], 2, 1, [], 0, 0⟩]) := by kernel_rfl
theorem text2_is : parseF text2 = (some (60, 6, [49, 58]), []) := by kernel_rfl
/-- One block with one operation. -/
structure One1 (V : World) (a : Option Addr) (g h co : Nat) : Prop where
  e : a = some ⟨g, 0, none⟩
  gl : g < V.heap.size
  hl : h < V.heap.size
  b0 : V.cell? ⟨g, 0, none⟩ = some (.slice (some ⟨h, 0, none⟩) 1 co)
  b1 : V.cell? ⟨g, 1, none⟩ = some (.int .i8 2)
  o0 : V.cell? ⟨h, 0, none⟩ = some (.int .i8 1)
  o1 : V.cell? ⟨h, 1, none⟩ = some (.int .u8 1)
  o2 : V.cell? ⟨h, 2, none⟩ = some (.int .u8 0)
  o3 : V.cell? ⟨h, 3, none⟩ = some (.int .u8 0)
  o4 : V.cell? ⟨h, 4, none⟩ = some (.int .i64 5)
theorem One1.up {V V' : World} {a : Option Addr} {g h co : Nat} (x : One1 V a g h co) (hb : Below V.heap.size V V') : One1 V' a g h co := by
  have c := (bcell hb).1
  have hs := hb.size
  have h1 := x.gl
  have h2 := x.hl
  exact ⟨x.e, by omega, by omega, by rw [c _ _ x.gl]; exact x.b0, by rw [c _ _ x.gl]; exact x.b1, by rw [c _ _ x.hl]; exact x.o0, by rw [c _ _ x.hl]; exact x.o1, by rw [c _ _ x.hl]; exact x.o2, by rw [c _ _ x.hl]; exact x.o3, by rw [c _ _ x.hl]; exact x.o4⟩
theorem one1 {V : World} {B : Nat} {a : Option Addr} {c : Nat} (x : PRow V B a c [⟨[⟨1, 1, 0, 0, 5⟩], 2, 1, [], 0, 0⟩]) : ∃ g h co, One1 V a g h co := by
  obtain ⟨pls, h1, h2, h3⟩ := x.r
  obtain ⟨p, rfl⟩ : ∃ p, pls = [p] := by
    match pls, h1 with
    | [p], _ => exact ⟨p, rfl⟩
  have hr := (h3 0 p _ rfl rfl).1
  unfold LRow at hr
  rcases h2.2 with ⟨_, h0⟩ | ⟨g, cap, cur, e, _⟩
  · simp at h0
  · rcases hr.2 with ⟨_, h0⟩ | ⟨h, cap', cur', e', _⟩
    · simp at h0
    · injection e with e _ _
      injection e' with e' _ _
      subst e
      rw [e'] at hr
      have k := h2.cells (g := g) rfl
      have k' := hr.cells (g := h) rfl
      have k0 : V.cell? ((⟨g, 0, none⟩ : Addr).add 0) = some (.slice p.oa 1 p.oc) := k 0 _ rfl
      rw [e'] at k0
      have k1 := k 1 _ rfl
      have q0 := k' 0 _ rfl
      have q1 := k' 1 _ rfl
      have q2 := k' 2 _ rfl
      have q3 := k' 3 _ rfl
      have q4 := k' 4 _ rfl
      rw [add_at] at k0 k1 q0 q1 q2 q3 q4
      exact ⟨g, h, p.oc, rfl, (h2.lt g rfl).2, (hr.lt h rfl).2, k0, k1, q0, q1, q2, q3, q4⟩
theorem parse1 (w : World) (hV : Vars w) : Calls Tryz.prog 6 #[.string ⟨#[98, 108, 111, 99, 107, 32, 48, 58, 10, 99, 111, 110, 115, 116, 32, 114, 49, 32, 53, 10, 104, 97, 108, 116, 32, 114, 49, 10]⟩] w fun e w' => ∃ g h co c, e = .returned (.tuple #[.agg #[.slice (some ⟨g, 0, none⟩) 1 c], .nilIface]) ∧ One1 w' (some ⟨g, 0, none⟩) g h co ∧ Below w.heap.size w w' := by
  have h := parse_any ⟨#[98, 108, 111, 99, 107, 32, 48, 58, 10, 99, 111, 110, 115, 116, 32, 114, 49, 32, 53, 10, 104, 97, 108, 116, 32, 114, 49, 10]⟩ w (by decide) hV
  rw [show parseF (ByteArray.mk #[98, 108, 111, 99, 107, 32, 48, 58, 10, 99, 111, 110, 115, 116, 32, 114, 49, 32, 53, 10, 104, 97, 108, 116, 32, 114, 49, 10]).data.toList = _ from text1_is] at h
  refine h.mono ?_
  rintro e w' ⟨a, c, rfl, hp, hb⟩
  obtain ⟨g, h, co, hx⟩ := one1 hp
  have := hx.e
  subst this
  exact ⟨g, h, co, c, rfl, hx, hb⟩
theorem parse2 (w : World) (hV : Vars w) : Calls Tryz.prog 6 #[.string ⟨#[98, 108, 111, 99, 107, 32, 49, 58]⟩] w fun e w' => ∃ q, e = .returned (.tuple #[.agg #[.slice none 0 0], .iface 49 (.pointer (some ⟨q, 0, none⟩))]) ∧ FaultAt w' q 60 (6, [49, 58]) ∧ Below w.heap.size w w' := by
  have h := parse_any ⟨#[98, 108, 111, 99, 107, 32, 49, 58]⟩ w (by decide) hV
  rw [show parseF (ByteArray.mk #[98, 108, 111, 99, 107, 32, 49, 58]).data.toList = _ from text2_is] at h
  refine h.mono ?_
  rintro e w' ⟨_, q, rfl, hf, hb⟩
  exact ⟨q, rfl, hf, hb⟩
theorem FaultAt.up {w w' : World} {q : Nat} {c : Int} {f : Wd'} (h : FaultAt w q c f) (hb : Below w.heap.size w w') : FaultAt w' q c f := by
  have hlt := h.lt
  unfold FaultAt at h ⊢
  rw [hb.block q hlt]; exact h
/-- The first text is read. -/
structure Wy (w V : World) (g h co c nb : Nat) : Prop where
  x : One1 V (some ⟨g, 0, none⟩) g h co
  a : At V nb #[.slice (some ⟨g, 0, none⟩) 1 c]
  b : Below w.heap.size w V
theorem Wy.up {w V V' : World} {g h co c nb : Nat} (y : Wy w V g h co c nb) (hb : Below V.heap.size V V') : Wy w V' g h co c nb := ⟨y.x.up hb, y.a.below hb y.a.lt, y.b.trans (hb.mono y.b.size)⟩
set_option maxHeartbeats 2000000 in
theorem wakes_any (w : World) (hV : Vars w) : Calls Tryz.prog 10 #[] w fun e w' => e = .returned (.bool true) ∧ Below w.heap.size w w' := by
  have HV : Hid _ := hV
  have HP1 : Hid _ := parse1 w hV
  have HP2 : Hid (∀ W, Vars W → _) := fun W h => parse2 W h
  have HT : Hid (∀ q W, Vars W → FaultAt W q 60 (6, [49, 58]) → Calls Tryz.prog 8 #[.iface 49 (.pointer (some ⟨q, 0, none⟩)), .agg #[.int .i64 60, .int .i64 6, .string ⟨#[49, 58]⟩]] W fun e w' => e = .returned (.bool true) ∧ Below W.heap.size W w') := fun q W h1 h2 => told_some q 60 (6, [49, 58]) W h1 h2 (by decide)
  clear hV
  go_enter Tryz.func10, Tryz.ntmps10
  go_wp2_with (first
    | (go_at_call_of 6 (Value.string { data := #[98, 108, 111, 99, 107, 32, 48, 58, 10, 99, 111, 110, 115, 116, 32, 114, 49, 32, 53, 10, 104, 97, 108, 116, 32, 114, 49, 10] }); refine Calls.mono HP1.out ?_; rintro e w1 ⟨g, h, co, c, rfl, hx, hb⟩; have HA : Hid (Wy w (w1.alloc (.cells #[.slice (some ⟨g, 0, none⟩) 1 c] 24)) g h co c w1.heap.size) := ⟨hx.up ((Below.refl _ _).alloc (Nat.le_refl _) _), At.new _ _ _, hb.alloc hb.size _⟩; clear hx hb HP1)
    | (go_at_call_of 6 (Value.string { data := #[98, 108, 111, 99, 107, 32, 49, 58] }); refine Calls.mono (HP2.out _ (HV.out.up HA.out.b)) ?_; rintro e w2 ⟨q, rfl, hf, hb⟩; have HB : Hid (Wy w (w2.alloc (.cells #[.slice none 0 0] 24)) g h co c w1.heap.size ∧ FaultAt (w2.alloc (.cells #[.slice none 0 0] 24)) q 60 (6, [49, 58])) := ⟨(HA.out.up hb).up ((Below.refl _ _).alloc (Nat.le_refl _) _), hf.up ((Below.refl _ _).alloc (Nat.le_refl _) _)⟩; have ha := (HA.out.up hb).a.c 0 _ rfl; have hx := (HA.out.up hb).x; have z := (HA.out.up hb).a.lt; have gl := hx.gl; have hl := hx.hl; have b0 := hx.b0; have b1 := hx.b1; have o0 := hx.o0; have o1 := hx.o1; have o2 := hx.o2; have o3 := hx.o3; have o4 := hx.o4; clear hx hf hb HA HP2)
    | (go_at_call 8; refine Calls.mono (HT.out _ _ (HV.out.up HB.out.1.b) HB.out.2) ?_; rintro e w3 ⟨rfl, hb⟩; have HC : Hid _ := HB.out.1.b.trans (hb.mono HB.out.1.b.size); clear hb HB))
  go_ret
  exact ⟨rfl, HC.out⟩
end Go.Proofs.YthfchelkfbboaaaGreatDoor.Pr
