/- The statement ShowAgain, whole: of any text, the program that is read is written as a text that is read as the same program and written the same; the listed variables are tied to the program's text. Conditions: none. -/
import Derived.Test.YthjpddjfckdefaaGreatDoorSy
import Derived.Test.YthjpddjfckdefaaGreatDoorRr
import Derived.Test.YthjpddjfckdefaaGreatDoorPk
import Derived.Deep.QuietTactic
import Derived.BigQuiet
import Derived.Test.YthjpddjfckdefaaGreatDoorPx
import Derived.Test.YthjpddjfckdefaaGreatDoorPa
import Derived.Test.YthjpddjfckdefaaGreatDoorTie
import Derived.Test.YthjpddjfckdefaaGreatDoorCards
import Derived.ProofKit
import Derived.HandedShaped
import Derived.Shelf.Vars
import Derived.Lib.LaidU8
import Derived.Lib.LaidTab
import Derived.Lay
import Derived.LaidHandle
import Derived.LaidLaws
import Derived.Stop.LaidErr
import Derived.Stop.Joined
import Derived.RowKitTokens
import Derived.SevenTiedAt
import Derived.ChangeMaps5
import Derived.Carry
import Derived.Deep.Slices
import Derived.Lib.SmallJoins
import Derived.ChangeOld
import Derived.SizedLaws
namespace Go.Proofs.YthjpddjfckdefaaGreatDoor.Op
open Go.ChangeShapes Go.WideShapes Go.ChangeAt Go.RowKit
set_option maxRecDepth 20000

theorem opsAt_one {w : World} {b : Nat} {o : O} (h : At w b o.cells) (ho : o.Ok) : OpsAt w (some ⟨b, 0, none⟩) [o] := by
  refine ⟨fun x hx => by rw [List.mem_singleton.1 hx]; exact ho, by simp, fun _ => ⟨b, 0, rfl, h.lt, fun i hi => ?_⟩⟩
  have hi0 : i = 0 := by simpa using hi
  subst hi0
  exact ⟨h.c 0 _ rfl, h.c 1 _ rfl, h.c 2 _ rfl, h.c 3 _ rfl, h.c 4 _ rfl⟩
theorem At.new' (w : World) (c : Array Value) (t : TypeId) (n : Nat) (h : w.heap.size = n) : At (w.alloc (.cells c t)) n c := h ▸ At.new w c t
def wk1 : Bk := ⟨[⟨1, 1, 0, 0, 5⟩], 3, 1, [⟨17, 0, 1, 0, 0⟩], 1, 0⟩
def wk2 : Bk := ⟨[], 2, 1, [], 0, 0⟩
def wkL : List UInt8 := [98, 108, 111, 99, 107, 32, 48, 58, 10, 32, 32, 99, 111, 110, 115, 116, 32, 114, 49, 32, 53, 10, 32, 32, 108, 111, 111, 112, 32, 114, 49, 32, 123, 10, 32, 32, 32, 32, 112, 114, 105, 110, 116, 32, 114, 49, 10, 32, 32, 125, 10, 32, 32, 106, 117, 109, 112, 32, 49, 10, 98, 108, 111, 99, 107, 32, 49, 58, 10, 32, 32, 104, 97, 108, 116, 32, 114, 49, 10]
theorem itoa_0 : Lib.itoa 0 = [48] := by simp [Lib.itoa, Lib.decDigits]
theorem itoa_1 : Lib.itoa 1 = [49] := by simp [Lib.itoa, Lib.decDigits]
theorem itoa_5 : Lib.itoa 5 = [53] := by simp [Lib.itoa, Lib.decDigits]
theorem wk_op1 : opL ⟨1, 1, 0, 0, 5⟩ = [99, 111, 110, 115, 116, 32, 114, 49, 32, 53] := by
  rw [show opL ⟨1, 1, 0, 0, 5⟩ = [99, 111, 110, 115, 116] ++ (32 :: 114 :: Lib.itoa 1) ++ [] ++ [] ++ (32 :: Lib.itoa 5) from rfl, itoa_1, itoa_5]
  rfl
theorem wk_op2 : opL ⟨17, 0, 1, 0, 0⟩ = [112, 114, 105, 110, 116, 32, 114, 49] := by
  rw [show opL ⟨17, 0, 1, 0, 0⟩ = [112, 114, 105, 110, 116] ++ [] ++ (32 :: 114 :: Lib.itoa 1) ++ [] ++ [] from rfl, itoa_1]
  rfl
theorem wk_ck : ckP [wk1, wk2] = 0 := by decide
theorem wk_text : progL [wk1, wk2] = wkL := by
  show ([] ++ blockL 0 wk1) ++ blockL 1 wk2 = _
  unfold blockL
  rw [show endL wk1 = two [loopW, 114 :: Lib.itoa 1, [123]] ++ linesL sp4 [⟨17, 0, 1, 0, 0⟩] ++ two [[125]] ++ two [jumpW, Lib.itoa 1] from rfl, show endL wk2 = two [haltW, 114 :: Lib.itoa 1] from rfl]
  simp only [wk1, wk2, linesL, List.flatMap_cons, List.flatMap_nil, wk_op1, wk_op2, two, join_cons, join_one]
  rw [show Lib.itoa ((0 : Nat) : Int) = [48] from itoa_0, show Lib.itoa ((1 : Nat) : Int) = [49] from itoa_1, itoa_1]
  rfl
theorem wk_show : showT [wk1, wk2] = (wkL, 0) := by
  unfold showT
  rw [if_pos wk_ck, wk_text]
  rfl
theorem wk_none : showT [] = ([], 50) := by
  unfold showT
  rw [if_neg (by decide)]
  rfl
theorem wk_ok1 : wk1.Ok := by constructor <;> decide
theorem wk_ok2 : wk2.Ok := by constructor <;> decide
theorem wk_pat (w : World) : PAt ((((w.alloc (.cells #[.int .i8 1, .int .u8 1, .int .u8 0, .int .u8 0, .int .i64 5] 46)).alloc (.cells #[.int .i8 17, .int .u8 0, .int .u8 1, .int .u8 0, .int .i64 0] 46)).alloc (.cells #[.slice (some ⟨w.heap.size, 0, none⟩) 1 1, .int .i8 3, .int .u8 1, .slice (some ⟨w.heap.size + 1, 0, none⟩) 1 1, .int .i64 1, .int .i64 0, .slice none 0 0, .int .i8 2, .int .u8 1, .slice none 0 0, .int .i64 0, .int .i64 0] 43)).alloc (.cells #[.slice (some ⟨w.heap.size + 1 + 1, 0, none⟩) 2 2] 24)) (some ⟨w.heap.size + 1 + 1, 0, none⟩) [wk1, wk2] := by
  have a0 := (((At.new w #[.int .i8 1, .int .u8 1, .int .u8 0, .int .u8 0, .int .i64 5] 46).alloc (.cells #[.int .i8 17, .int .u8 0, .int .u8 1, .int .u8 0, .int .i64 0] 46)).alloc (.cells #[.slice (some ⟨w.heap.size, 0, none⟩) 1 1, .int .i8 3, .int .u8 1, .slice (some ⟨w.heap.size + 1, 0, none⟩) 1 1, .int .i64 1, .int .i64 0, .slice none 0 0, .int .i8 2, .int .u8 1, .slice none 0 0, .int .i64 0, .int .i64 0] 43)).alloc (.cells #[.slice (some ⟨w.heap.size + 1 + 1, 0, none⟩) 2 2] 24)
  have a1 := ((At.new' (w.alloc (.cells #[.int .i8 1, .int .u8 1, .int .u8 0, .int .u8 0, .int .i64 5] 46)) #[.int .i8 17, .int .u8 0, .int .u8 1, .int .u8 0, .int .i64 0] 46 (w.heap.size + 1) (by simp)).alloc (.cells #[.slice (some ⟨w.heap.size, 0, none⟩) 1 1, .int .i8 3, .int .u8 1, .slice (some ⟨w.heap.size + 1, 0, none⟩) 1 1, .int .i64 1, .int .i64 0, .slice none 0 0, .int .i8 2, .int .u8 1, .slice none 0 0, .int .i64 0, .int .i64 0] 43)).alloc (.cells #[.slice (some ⟨w.heap.size + 1 + 1, 0, none⟩) 2 2] 24)
  have a2 := (At.new' ((w.alloc (.cells #[.int .i8 1, .int .u8 1, .int .u8 0, .int .u8 0, .int .i64 5] 46)).alloc (.cells #[.int .i8 17, .int .u8 0, .int .u8 1, .int .u8 0, .int .i64 0] 46)) #[.slice (some ⟨w.heap.size, 0, none⟩) 1 1, .int .i8 3, .int .u8 1, .slice (some ⟨w.heap.size + 1, 0, none⟩) 1 1, .int .i64 1, .int .i64 0, .slice none 0 0, .int .i8 2, .int .u8 1, .slice none 0 0, .int .i64 0, .int .i64 0] 43 (w.heap.size + 1 + 1) (by simp)).alloc (.cells #[.slice (some ⟨w.heap.size + 1 + 1, 0, none⟩) 2 2] 24)
  have o1 : O.Ok ⟨1, 1, 0, 0, 5⟩ := by constructor <;> decide
  have o2 : O.Ok ⟨17, 0, 1, 0, 0⟩ := by constructor <;> decide
  have none0 : ∀ V : World, OpsAt V none [] := fun V => ⟨by simp, by simp, fun h => by simp at h⟩
  refine ⟨by decide, fun _ => ⟨w.heap.size + 1 + 1, 0, rfl, a2.lt, fun i hi => ?_⟩⟩
  have hi2 : i = 0 ∨ i = 1 := by simp at hi; omega
  rcases hi2 with rfl | rfl
  · refine ⟨⟨some ⟨w.heap.size, 0, none⟩, 1, some ⟨w.heap.size + 1, 0, none⟩, 1⟩, ⟨a2.c 0 _ rfl, a2.c 1 _ rfl, a2.c 2 _ rfl, a2.c 3 _ rfl, a2.c 4 _ rfl, a2.c 5 _ rfl⟩, ⟨wk_ok1, opsAt_one a0 o1, opsAt_one a1 o2⟩⟩
  · exact ⟨⟨none, 0, none, 0⟩, ⟨a2.c 6 _ rfl, a2.c 7 _ rfl, a2.c 8 _ rfl, a2.c 9 _ rfl, a2.c 10 _ rfl, a2.c 11 _ rfl⟩, ⟨wk_ok2, none0 _, none0 _⟩⟩
theorem wkL_arr : (⟨wkL.toArray⟩ : ByteArray) = ⟨([98, 108, 111, 99, 107, 32, 48, 58, 10, 32, 32, 99, 111, 110, 115, 116, 32, 114, 49, 32, 53, 10, 32, 32, 108, 111, 111, 112, 32, 114, 49, 32, 123, 10, 32, 32, 32, 32, 112].append [114, 105, 110, 116, 32, 114, 49, 10, 32, 32, 125, 10, 32, 32, 106, 117, 109, 112, 32, 49, 10, 98, 108, 111, 99, 107, 32, 49, 58, 10, 32, 32, 104, 97, 108, 116, 32, 114, 49, 10]).toArray⟩ := rfl
set_option maxHeartbeats 1000000 in
theorem wakes_any (w : World) (hE : Env w) (hP : Pow w) : Calls Tryz.prog 7 #[] w fun e w' => e = .returned (.bool true) ∧ Below w.heap.size w w' := by
  have hb0 : Below w.heap.size w ((((w.alloc (.cells #[.int .i8 1, .int .u8 1, .int .u8 0, .int .u8 0, .int .i64 5] 46)).alloc (.cells #[.int .i8 17, .int .u8 0, .int .u8 1, .int .u8 0, .int .i64 0] 46)).alloc (.cells #[.slice (some ⟨w.heap.size, 0, none⟩) 1 1, .int .i8 3, .int .u8 1, .slice (some ⟨w.heap.size + 1, 0, none⟩) 1 1, .int .i64 1, .int .i64 0, .slice none 0 0, .int .i8 2, .int .u8 1, .slice none 0 0, .int .i64 0, .int .i64 0] 43)).alloc (.cells #[.slice (some ⟨w.heap.size + 1 + 1, 0, none⟩) 2 2] 24)) := by go_grown
  have H1 : Hid (Calls Tryz.prog 5 #[.agg #[.slice (some ⟨w.heap.size + 1 + 1, 0, none⟩) 2 2]] ((((w.alloc (.cells #[.int .i8 1, .int .u8 1, .int .u8 0, .int .u8 0, .int .i64 5] 46)).alloc (.cells #[.int .i8 17, .int .u8 0, .int .u8 1, .int .u8 0, .int .i64 0] 46)).alloc (.cells #[.slice (some ⟨w.heap.size, 0, none⟩) 1 1, .int .i8 3, .int .u8 1, .slice (some ⟨w.heap.size + 1, 0, none⟩) 1 1, .int .i64 1, .int .i64 0, .slice none 0 0, .int .i8 2, .int .u8 1, .slice none 0 0, .int .i64 0, .int .i64 0] 43)).alloc (.cells #[.slice (some ⟨w.heap.size + 1 + 1, 0, none⟩) 2 2] 24)) fun e w' => e = .returned (.tuple #[.string ⟨wkL.toArray⟩, .int .i64 0]) ∧ Below w.heap.size w w') := by
    have h := text_any (some ⟨w.heap.size + 1 + 1, 0, none⟩) 2 [wk1, wk2] _ (wk_pat w) (hE.up hb0) (hP.bl hb0)
    rw [wk_show] at h
    exact h.mono fun e w' hh => ⟨hh.1, hb0.trans (hh.2.mono hb0.size)⟩
  have H2 : Hid (∀ W, Below w.heap.size w W → Calls Tryz.prog 5 #[.agg #[.slice none 0 0]] W fun e w' => e = .returned (.tuple #[.string ⟨#[]⟩, .int .i64 50]) ∧ Below W.heap.size W w') := fun W hb => by
    have h := text_any none 0 [] W (pAt_nil _ _) (hE.up hb) (hP.bl hb)
    rw [wk_none] at h
    exact h
  clear hE hP hb0
  rw [wkL_arr] at H1
  go_enter Tryz.func7, Tryz.ntmps7
  go_wp2_with (first
    | (go_at_call_of 5 (Value.agg #[.slice none 0 0]); refine Calls.mono (H2.out _ HB.out) ?_; rintro e w2 ⟨rfl, hb⟩; have HC : Hid _ := HB.out.trans (hb.mono HB.out.size); clear hb)
    | (go_at_call 5; refine Calls.mono H1.out ?_; rintro e w1 ⟨rfl, hb⟩; have HB : Hid _ := hb; clear hb H1))
  go_ret
  exact ⟨rfl, HC.out⟩
end Go.Proofs.YthjpddjfckdefaaGreatDoor.Op

namespace Go.Proofs.YthjpddjfckdefaaGreatDoor.Op
open Go.ChangeShapes Go.WideShapes Go.ChangeAt Go.RowKit
set_option maxRecDepth 20000

set_option maxHeartbeats 1000000 in
theorem likeOps_any (ao bo : Option Addr) (c d : Nat) (xs : List O) (w : World) (h : OpsAt w ao xs) (h' : OpsAt w bo xs) :
    Calls Tryz.prog 15 #[.slice ao xs.length c, .slice bo xs.length d] w fun e w' => e = .returned (.bool true) ∧ Below w.heap.size w w' := by
  have HA : Hid (OpsAt w ao xs) := h
  have HB : Hid (OpsAt w bo xs) := h'
  have hlen := h.len
  clear h h'
  go_enter Tryz.func15, Tryz.ntmps15
  go_wp2
  go_loopw [5] (fun i wr => ∃ k : Nat, k ≤ xs.length ∧ i = .int .i64 k ∧ Below w.heap.size w wr) (fun i _ => xs.length - (intOf i).toNat)
  case atStart => exact ⟨0, by omega, rfl, Below.refl _ _⟩
  case round =>
    rename World => wr
    obtain ⟨k, hk, rfl, hbw⟩ := hrel
    by_cases hlt : k < xs.length
    · obtain ⟨b, f, rfl, hz, hx⟩ := HA.out.is (by omega)
      obtain ⟨b', f', rfl, hz', hx'⟩ := HB.out.is (by omega)
      obtain ⟨c0, c1, c2, c3, c4⟩ := (hx k hlt).below hbw hz
      obtain ⟨d0, d1, d2, d3, d4⟩ := (hx' k hlt).below hbw hz'
      clear hx hx' HA HB
      generalize xs[k] = o at *
      go_wp2
      go_quiet (fail)
      go_wp2
      go_roundw
      case rel => exact ⟨k + 1, by omega, by go_num, drewN_below hbw nq⟩
      case measure => simp [intOf]; omega
    · obtain rfl : k = xs.length := by omega
      go_wp2
      go_ret
      exact ⟨rfl, hbw⟩
/-- Two programs' boxes. -/
structure Lw (w V : World) (u v : Value) : Prop where
  b : Below w.heap.size w V
  p : At V w.heap.size #[u]
  q : At V (w.heap.size + 1) #[v]
theorem Lw.go {w V V' : World} {u v : Value} (h : Lw w V u v) (hb : Below V.heap.size V V') : Lw w V' u v :=
  ⟨h.b.trans (hb.mono h.b.size), h.p.below hb h.p.lt, h.q.below hb h.q.lt⟩
theorem Lw.start (w : World) (u v : Value) (t t' : TypeId) : Lw w ((w.alloc (.cells #[u] t)).alloc (.cells #[v] t')) u v := by
  obtain ⟨a1, a2, b, _, _⟩ := two_new w #[u] #[v] t t' (Below.refl _ _)
  exact ⟨b, a1, a2⟩
set_option maxHeartbeats 4000000 in
theorem likeProgram_any (ao bo : Option Addr) (c d : Nat) (ps : List Bk) (w : World) (h : PAt w ao ps) (h' : PAt w bo ps) :
    Calls Tryz.prog 9 #[.agg #[.slice ao ps.length c], .agg #[.slice bo ps.length d]] w fun e w' => e = .returned (.bool true) ∧ Below w.heap.size w w' := by
  have HA : Hid (PAt w ao ps) := h
  have HB : Hid (PAt w bo ps) := h'
  have hlen := h.len
  clear h h'
  have HS : Hid (Lw w ((w.alloc (.cells #[.slice ao ps.length c] 24)).alloc (.cells #[.slice bo ps.length d] 24)) (.slice ao ps.length c) (.slice bo ps.length d)) := Lw.start _ _ _ _ _
  go_enter Tryz.func9, Tryz.ntmps9
  go_wp2
  generalize ((w.alloc (.cells #[.slice ao ps.length c] 24)).alloc (.cells #[.slice bo ps.length d] 24)) = V at *
  go_loopw [5] (fun i wr => ∃ k : Nat, k ≤ ps.length ∧ i = .int .i64 k ∧ Lw w wr (.slice ao ps.length c) (.slice bo ps.length d)) (fun i _ => ps.length - (intOf i).toNat)
  case atStart => exact ⟨0, by omega, rfl, HS.out⟩
  case round =>
    rename World => wr
    obtain ⟨k, hk, rfl, hw⟩ := hrel
    have HW : Hid (Lw w wr (.slice ao ps.length c) (.slice bo ps.length d)) := hw
    have cp := hw.p.c 0 _ rfl
    clear HS
    by_cases hlt : k < ps.length
    · obtain ⟨b, f, rfl, hz, hx⟩ := HA.out.is (by omega)
      obtain ⟨b', f', rfl, hz', hx'⟩ := HB.out.is (by omega)
      obtain ⟨⟨oa, oc, ba, bc⟩, g1, g2⟩ := hx k hlt
      obtain ⟨⟨oa', oc', ba', bc'⟩, g1', g2'⟩ := hx' k hlt
      have zw := hw.b.size
      generalize ps[k] = x at *
      have hb1 : Below wr.heap.size wr (wr.alloc (.cells #[.slice oa x.ops.length oc, .int .i8 x.fin, .int .u8 x.a, .slice ba x.body.length bc, .int .i64 x.thn, .int .i64 x.els] 43)) := (Below.refl _ _).alloc (Nat.le_refl _) _
      obtain ⟨c0, c1, c2, c3, c4, c5⟩ := g1.below hw.b hz
      obtain ⟨d0, d1, d2, d3, d4, d5⟩ := (g1'.below hw.b hz').below hb1 (Nat.lt_of_lt_of_le hz' zw)
      have cq := (hw.q.below hb1 hw.q.lt).c 0 _ rfl
      simp only at c0 c3 d0 d3
      have HO : Hid (∀ w1, Below w.heap.size w w1 → Calls Tryz.prog 15 #[.slice oa x.ops.length oc, .slice oa' x.ops.length oc'] w1 fun e w' => e = .returned (.bool true) ∧ Below w1.heap.size w1 w') := fun w1 hb => likeOps_any _ _ _ _ _ _ (g2.o.below hb) (g2'.o.below hb)
      have HY : Hid (∀ w1, Below w.heap.size w w1 → Calls Tryz.prog 15 #[.slice ba x.body.length bc, .slice ba' x.body.length bc'] w1 fun e w' => e = .returned (.bool true) ∧ Below w1.heap.size w1 w') := fun w1 hb => likeOps_any _ _ _ _ _ _ (g2.b.below hb) (g2'.b.below hb)
      clear hx hx' g1 g2 g1' g2' hw hb1 HA HB
      go_wp2_with (first
        | (go_at_call 15; refine Calls.mono (HO.out _ ((HW.out.b.alloc HW.out.b.size _).alloc (by have := HW.out.b.size; simp; omega) _)) ?_; rintro e w2 ⟨rfl, hb⟩; obtain ⟨a1, a2, hb0, -, -⟩ := two_new wr _ _ _ _ hb; have HW2 : Hid (Lw w w2 (.slice (some ⟨b, f, none⟩) ps.length c) (.slice (some ⟨b', f', none⟩) ps.length d)) := HW.out.go hb0; clear hb hb0 HO c0 c1 c2 c3 c4 c5 d0 d1 d2 d3 d4 d5 cp cq; have e3 := a1.c 3 _ rfl; have e3' := a2.c 3 _ rfl; clear a1 a2)
        | (go_at_call 15; refine Calls.mono (HY.out _ HW2.out.b) ?_; rintro e w3 ⟨rfl, hb⟩; have HW3 : Hid (Lw w w3 (.slice (some ⟨b, f, none⟩) ps.length c) (.slice (some ⟨b', f', none⟩) ps.length d)) := HW2.out.go hb; clear hb HY))
      go_roundw
      case rel => exact ⟨k + 1, by omega, by go_num, HW3.out⟩
      case measure => simp [intOf]; omega
    · obtain rfl : k = ps.length := by omega
      clear hw
      go_wp2
      go_ret
      exact ⟨rfl, HW.out.b⟩
end Go.Proofs.YthjpddjfckdefaaGreatDoor.Op

namespace Go.Proofs.YthjpddjfckdefaaGreatDoor.Pr
open _root_.Go.Proofs.YthjpddjfckdefaaGreatDoor.Op

theorem bH_no {t n : Int} (h : bH t n false = true) : t = 0 := by simpa [bH] using h
theorem bx_of {x : Bk} {n : Int} (h : ckB x n = 0) (hn : n ≤ 1000) (hx : x.Ok) (ho : ∀ o ∈ x.ops, o.Ok) (hb : ∀ o ∈ x.body, o.Ok) : Bx x := by
  unfold ckB at h
  split at h
  · rename_i h1
    split at h
    · rename_i h2
      split at h
      · rename_i h3
        unfold endB at h2
        simp only [Bool.and_eq_true] at h2
        obtain ⟨⟨⟨⟨k1, k2⟩, k3⟩, k4⟩, k5⟩ := h2
        have f := of_decide_eq_true k1
        have t := bH_in k3 hn
        have e := bH_in k4 hn
        refine ⟨hx, fun o hm => ⟨List.all_eq_true.1 h1 o hm, ho o hm⟩, fun o hm => ⟨List.all_eq_true.1 h3 o hm, hb o hm⟩, f.1, f.2, k2, t, fun h2 => ?_, e, fun h1 => ?_, fun h3 => ?_⟩
        · rw [show eT x.fin = false by simp [eT, h2]] at k3; exact bH_no k3
        · rw [show eE x.fin = false by simp [eE, h1]] at k4; exact bH_no k4
        · rw [show eB x.fin = false by simp [eB, h3]] at k5
          have : x.body.length = 0 := by simpa using k5
          exact List.eq_nil_of_length_eq_zero this
      · cases h
    · cases h
  · cases h
theorem ck_all {ps : List Bk} (h : ckP ps = 0) : ps ≠ [] ∧ ps.length ≤ 128 ∧ ∀ x ∈ ps, ckB x ps.length = 0 := by
  unfold ckP at h
  split at h
  · cases h
  · rename_i h1
    split at h
    · cases h
    · rename_i h2
      exact ⟨fun e => h2 (by rw [e]; rfl), by omega, firstE_all h⟩
theorem pat_bx {w : World} {ao : Option Addr} {ps : List Bk} (hp : PAt w ao ps) (h : ckP ps = 0) : ∀ x ∈ ps, Bx x := by
  obtain ⟨_, hl, hc⟩ := ck_all h
  intro x hx
  obtain ⟨k, hk, rfl⟩ := List.getElem_of_mem hx
  obtain ⟨b, f, _, _, ha⟩ := hp.is (by omega)
  obtain ⟨p, _, hi⟩ := ha k hk
  exact bx_of (hc _ hx) (by omega) hi.ok hi.o.ok hi.b.ok
/-- A program that is written is read as it was. -/
theorem parse_text {w : World} {ao : Option Addr} {ps : List Bk} (hp : PAt w ao ps) (h : ckP ps = 0) (hl : ¬ 65536 < (progL ps).length) : parseF (progL ps) = (none, ps) := by
  unfold parseF
  rw [if_neg hl, read_back ps (pat_bx hp h) (ck_all h).1]
  simp only
  rw [if_pos h]
theorem show_ok {ps : List Bk} (h : ckP ps = 0) (hl : ¬ 65536 < (progL ps).length) : showT ps = (progL ps, 0) := by
  unfold showT; rw [if_pos h, if_neg hl]
theorem show_long {ps : List Bk} (h : ckP ps = 0) (hl : 65536 < (progL ps).length) : showT ps = ([], 3) := by
  unfold showT; rw [if_pos h, if_pos hl]
theorem show_no {ps : List Bk} (h : ¬ ckP ps = 0) : showT ps = ([], ckP ps) := by
  unfold showT; rw [if_neg h]
theorem parse_ck {l : List UInt8} {bs : List Bk} (h : parseF l = (none, bs)) : ckP bs = 0 := by
  unfold parseF at h
  split at h
  · cases h
  · split at h
    · cases h
    · split at h
      · rename_i hk
        cases h; exact hk
      · cases h
theorem parse_nil {l : List UInt8} {f : Int × Wd'} {bs : List Bk} (h : parseF l = (some f, bs)) : bs = [] := by
  unfold parseF at h
  split at h
  · cases h; rfl
  · split at h
    · cases h; rfl
    · split at h
      · cases h
      · cases h; rfl
end Go.Proofs.YthjpddjfckdefaaGreatDoor.Pr

namespace Go.Proofs.YthjpddjfckdefaaGreatDoor.Pr
open Go.ChangeShapes Go.WideShapes Go.ChangeAt Go.RowKit
open _root_.Go.Proofs.YthjpddjfckdefaaGreatDoor.Op
set_option maxRecDepth 20000

theorem pow_v {w : World} (h : Vars w) : Pow w := h.tb
abbrev WakC (w : World) : Prop := ∀ W, Below w.heap.size w W → Calls Tryz.prog 7 #[] W fun e w' => e = .returned (.bool true) ∧ Below W.heap.size W w'
theorem wak_c {w : World} (hV : Vars w) : WakC w := fun W hb => wakes_any W (hV.up hb).e (pow_v (hV.up hb))
abbrev TexC (w : World) (ps : List Bk) (s : List UInt8) (e0 : Int) : Prop := ∀ a c W, PAt W a ps → Below w.heap.size w W → Calls Tryz.prog 5 #[.agg #[.slice a ps.length c]] W fun e w' => e = .returned (.tuple #[.string ⟨s.toArray⟩, .int .i64 e0]) ∧ Below W.heap.size W w'
theorem tex_c {w : World} (hV : Vars w) {ps : List Bk} {s : List UInt8} {e0 : Int} (h : showT ps = (s, e0)) : TexC w ps s e0 := fun a c W hp hb => by
  have := text_any a c ps W hp (hV.up hb).e (pow_v (hV.up hb))
  rw [h] at this
  exact this
abbrev ParC (w : World) (l : List UInt8) (ps : List Bk) : Prop := ∀ W, Below w.heap.size w W → Calls Tryz.prog 8 #[.string ⟨l.toArray⟩] W fun e w' => ∃ a c, e = .returned (.tuple #[.agg #[.slice a ps.length c], .nilIface]) ∧ PAt w' a ps ∧ Below W.heap.size W w'
theorem par_c {w : World} (hV : Vars w) {l : List UInt8} {ps : List Bk} (hl : l.length ≤ 1000000) (h : parseF l = (none, ps)) : ParC w l ps := fun W hb => by
  have := parse_any ⟨l.toArray⟩ W (by rw [ba_size]; unfold maxLen; omega) (hV.up hb)
  rw [show (⟨l.toArray⟩ : ByteArray).data.toList = l by simp, h] at this
  exact this.mono fun e w' ⟨a, c, h1, h2, h3⟩ => ⟨a, c, h1, h2.pat, h3⟩
/-- The boxes of two programs. -/
structure Tw2 (w V : World) (ao a : Option Addr) (cap c u q : Nat) (ps : List Bk) : Prop where
  x : At V u #[.slice ao ps.length cap]
  p : PAt V ao ps
  m : At V q #[.slice a ps.length c]
  r : PAt V a ps
  b : Below w.heap.size w V
theorem Tw2.up {w V V' : World} {ao a : Option Addr} {cap c u q : Nat} {ps : List Bk} (h : Tw2 w V ao a cap c u q ps) (hb : Below V.heap.size V V') : Tw2 w V' ao a cap c u q ps := ⟨h.x.below hb h.x.lt, h.p.below hb, h.m.below hb h.m.lt, h.r.below hb, h.b.trans (hb.mono h.b.size)⟩
/-- The box of one. -/
structure Tw1 (w V : World) (ao : Option Addr) (cap u : Nat) (ps : List Bk) : Prop where
  x : At V u #[.slice ao ps.length cap]
  p : PAt V ao ps
  b : Below w.heap.size w V
theorem Tw1.up {w V V' : World} {ao : Option Addr} {cap u : Nat} {ps : List Bk} (h : Tw1 w V ao cap u ps) (hb : Below V.heap.size V V') : Tw1 w V' ao cap u ps := ⟨h.x.below hb h.x.lt, h.p.below hb, h.b.trans (hb.mono h.b.size)⟩
theorem Tw1.two {w V V' : World} {ao a : Option Addr} {cap c u : Nat} {ps : List Bk} (h : Tw1 w V ao cap u ps) (hb : Below V.heap.size V V') (hr : PAt V' a ps) : Tw2 w (V'.alloc (.cells #[.slice a ps.length c] 24)) ao a cap c u V'.heap.size ps :=
  have g := h.up hb
  have hB : Below V'.heap.size V' (V'.alloc (.cells #[.slice a ps.length c] 24)) := (Below.refl _ _).alloc (Nat.le_refl _) _
  ⟨g.x.alloc _, g.p.below hB, At.new _ _ _, hr.below hB, g.b.trans (hB.mono g.b.size)⟩
set_option maxHeartbeats 2000000 in
theorem back_no (ao : Option Addr) (cap : Nat) (ps : List Bk) (w : World) (h : PAt w ao ps) (hV : Vars w) (hc : ¬ ckP ps = 0) :
    Calls Tryz.prog 3 #[.agg #[.slice ao ps.length cap]] w fun e w' => e = .returned (.bool true) ∧ Below w.heap.size w w' := by
  have hb0 : Below w.heap.size w (w.alloc (.cells #[.slice ao ps.length cap] 24)) := (Below.refl _ _).alloc (Nat.le_refl _) _
  have HQ : Hid (Tw1 w (w.alloc (.cells #[.slice ao ps.length cap] 24)) ao cap w.heap.size ps) := ⟨At.new _ _ _, h.below hb0, hb0⟩
  have HT : Hid (TexC w ps [] (ckP ps)) := tex_c hV (show_no hc)
  have HC : Hid (∀ W, Below w.heap.size w W → Calls Tryz.prog 6 #[.agg #[.slice ao ps.length cap]] W fun e w' => e = .returned (.int .i64 (ckP ps)) ∧ Below W.heap.size W w') := fun W hb => checkP_any ao cap ps W (h.below hb) (hV.up hb).e
  have HK : Hid (WakC w) := wak_c hV
  have hc1 : (ckP ps == 0) = false := by simpa using hc
  have hc2 : (ckP ps != 0) = true := by simpa using hc
  clear h hV hc hb0
  generalize ckP ps = ec at *
  go_enter Tryz.func3, Tryz.ntmps3
  go_wp2_with (first
    | (go_at_call 5; refine Calls.mono (HT.out _ _ _ HQ.out.p HQ.out.b) ?_; rintro e w1 ⟨rfl, hb⟩; have H1 : Hid _ := HQ.out.up hb; clear hb HQ HT; have c0 := H1.out.x.c 0 _ rfl)
    | (go_at_call 6; refine Calls.mono (HC.out _ H1.out.b) ?_; rintro e w2 ⟨rfl, hb⟩; have H2 : Hid _ := H1.out.up hb; clear hb H1 HC c0)
    | (go_at_call 7; refine Calls.mono (HK.out _ H2.out.b) ?_; rintro e w3 ⟨rfl, hb⟩; have H3 : Hid _ := H2.out.up hb; clear hb H2 HK))
  go_ret
  exact ⟨rfl, H3.out.b⟩
set_option maxHeartbeats 2000000 in
theorem back_long (ao : Option Addr) (cap : Nat) (ps : List Bk) (w : World) (h : PAt w ao ps) (hV : Vars w) (hc : ckP ps = 0) (hl : 65536 < (progL ps).length) :
    Calls Tryz.prog 3 #[.agg #[.slice ao ps.length cap]] w fun e w' => e = .returned (.bool true) ∧ Below w.heap.size w w' := by
  have hb0 : Below w.heap.size w (w.alloc (.cells #[.slice ao ps.length cap] 24)) := (Below.refl _ _).alloc (Nat.le_refl _) _
  have HQ : Hid (Tw1 w (w.alloc (.cells #[.slice ao ps.length cap] 24)) ao cap w.heap.size ps) := ⟨At.new _ _ _, h.below hb0, hb0⟩
  have HT : Hid (TexC w ps [] 3) := tex_c hV (show_long hc hl)
  have HC : Hid (∀ W, Below w.heap.size w W → Calls Tryz.prog 6 #[.agg #[.slice ao ps.length cap]] W fun e w' => e = .returned (.int .i64 0) ∧ Below W.heap.size W w') := fun W hb => by
    have := checkP_any ao cap ps W (h.below hb) (hV.up hb).e
    rw [hc] at this
    exact this
  have HK : Hid (WakC w) := wak_c hV
  clear h hV hc hb0 hl
  go_enter Tryz.func3, Tryz.ntmps3
  go_wp2_with (first
    | (go_at_call 5; refine Calls.mono (HT.out _ _ _ HQ.out.p HQ.out.b) ?_; rintro e w1 ⟨rfl, hb⟩; have H1 : Hid _ := HQ.out.up hb; clear hb HQ HT; have c0 := H1.out.x.c 0 _ rfl)
    | (go_at_call 6; refine Calls.mono (HC.out _ H1.out.b) ?_; rintro e w2 ⟨rfl, hb⟩; have H2 : Hid _ := H1.out.up hb; clear hb H1 HC c0)
    | (go_at_call 7; refine Calls.mono (HK.out _ H2.out.b) ?_; rintro e w3 ⟨rfl, hb⟩; have H3 : Hid _ := H2.out.up hb; clear hb H2 HK))
  go_ret
  exact ⟨rfl, H3.out.b⟩
set_option maxHeartbeats 2000000 in
theorem back_ok (ao : Option Addr) (cap : Nat) (ps : List Bk) (w : World) (h : PAt w ao ps) (hV : Vars w) (hc : ckP ps = 0) (hl : ¬ 65536 < (progL ps).length) :
    Calls Tryz.prog 3 #[.agg #[.slice ao ps.length cap]] w fun e w' => e = .returned (.bool true) ∧ Below w.heap.size w w' := by
  have hb0 : Below w.heap.size w (w.alloc (.cells #[.slice ao ps.length cap] 24)) := (Below.refl _ _).alloc (Nat.le_refl _) _
  have HQ : Hid (Tw1 w (w.alloc (.cells #[.slice ao ps.length cap] 24)) ao cap w.heap.size ps) := ⟨At.new _ _ _, h.below hb0, hb0⟩
  have HT : Hid (TexC w ps (progL ps) 0) := tex_c hV (show_ok hc hl)
  have HC : Hid (∀ W, Below w.heap.size w W → Calls Tryz.prog 6 #[.agg #[.slice ao ps.length cap]] W fun e w' => e = .returned (.int .i64 0) ∧ Below W.heap.size W w') := fun W hb => by
    have := checkP_any ao cap ps W (h.below hb) (hV.up hb).e
    rw [hc] at this
    exact this
  have HP : Hid (ParC w (progL ps) ps) := par_c hV (by omega) (parse_text h hc hl)
  have HK : Hid (WakC w) := wak_c hV
  clear h hV hc hb0 hl
  generalize progL ps = s at *
  go_enter Tryz.func3, Tryz.ntmps3
  go_wp2_with (first
    | (go_at_call 5; refine Calls.mono (HT.out _ _ _ HQ.out.p HQ.out.b) ?_; rintro e w1 ⟨rfl, hb⟩; have H1 : Hid _ := HQ.out.up hb; clear hb HQ HT; have c0 := H1.out.x.c 0 _ rfl)
    | (go_at_call 6; refine Calls.mono (HC.out _ H1.out.b) ?_; rintro e w2 ⟨rfl, hb⟩; have H2 : Hid _ := H1.out.up hb; clear hb H1 HC c0)
    | (go_at_call 8; refine Calls.mono (HP.out _ H2.out.b) ?_; rintro e w3 ⟨a, c, rfl, hr, hb⟩; have H3 : Hid (Tw2 w (w3.alloc (.cells #[.slice a ps.length c] 24)) ao a cap c w.heap.size w3.heap.size ps) := H2.out.two hb hr; clear hb hr H2 HP; have c1 := H3.out.x.c 0 _ rfl)
    | (go_at_call 9; refine Calls.mono (likeProgram_any ao a cap c ps _ H3.out.p H3.out.r) ?_; rintro e w4 ⟨rfl, hb⟩; have H4 : Hid _ := H3.out.up hb; clear hb H3 c1)
    | (go_at_call 7; refine Calls.mono (HK.out _ H4.out.b) ?_; rintro e w5 ⟨rfl, hb⟩; have H5 : Hid _ := H4.out.up hb; clear hb H4 HK))
  go_ret
  exact ⟨rfl, H5.out.b⟩
theorem law_back (ao : Option Addr) (cap : Nat) (ps : List Bk) (w : World) (h : PAt w ao ps) (hV : Vars w) :
    Calls Tryz.prog 3 #[.agg #[.slice ao ps.length cap]] w fun e w' => e = .returned (.bool true) ∧ Below w.heap.size w w' := by
  by_cases hc : ckP ps = 0
  · by_cases hl : 65536 < (progL ps).length
    · exact back_long ao cap ps w h hV hc hl
    · exact back_ok ao cap ps w h hV hc hl
  · exact back_no ao cap ps w h hV hc
end Go.Proofs.YthjpddjfckdefaaGreatDoor.Pr

namespace Go.Proofs.YthjpddjfckdefaaGreatDoor.Pr
open Go.ChangeShapes Go.WideShapes Go.ChangeAt Go.RowKit
open _root_.Go.Proofs.YthjpddjfckdefaaGreatDoor.Op
set_option maxRecDepth 20000

theorem Tw1.new {w V : World} {a : Option Addr} {c : Nat} {ps : List Bk} (hb : Below w.heap.size w V) (hr : PAt V a ps) : Tw1 w (V.alloc (.cells #[.slice a ps.length c] 24)) a c V.heap.size ps :=
  ⟨At.new _ _ _, hr.below ((Below.refl _ _).alloc (Nat.le_refl _) _), hb.alloc hb.size _⟩
theorem par_s {w : World} (hV : Vars w) {s : ByteArray} {ps : List Bk} (hs : s.size ≤ maxLen) (h : parseF s.data.toList = (none, ps)) : Calls Tryz.prog 8 #[.string s] w fun e w' => ∃ a c, e = .returned (.tuple #[.agg #[.slice a ps.length c], .nilIface]) ∧ PAt w' a ps ∧ Below w.heap.size w w' := by
  have := parse_any s w hs hV
  rw [h] at this
  exact this.mono fun e w' ⟨a, c, h1, h2, h3⟩ => ⟨a, c, h1, h2.pat, h3⟩
theorem par_f {w : World} (hV : Vars w) {s : ByteArray} {f : Int × Wd'} {ps : List Bk} (hs : s.size ≤ maxLen) (h : parseF s.data.toList = (some f, ps)) : Calls Tryz.prog 8 #[.string s] w fun e w' => ∃ q, e = .returned (.tuple #[.agg #[.slice none 0 0], .iface 47 (.pointer (some ⟨q, 0, none⟩))]) ∧ Below w.heap.size w w' := by
  have := parse_any s w hs hV
  rw [h] at this
  exact this.mono fun e w' ⟨_, q, h1, _, h3⟩ => ⟨q, h1, h3⟩
set_option maxHeartbeats 2000000 in
theorem again_long (s : ByteArray) (w : World) (hs : 65536 < s.size) (hs2 : s.size ≤ maxLen) (hV : Vars w) :
    Calls Tryz.prog 4 #[.string s] w fun e w' => e = .returned (.bool true) ∧ Below w.heap.size w w' := by
  have HK : Hid (WakC w) := wak_c hV
  clear hV
  unfold maxLen at hs2
  go_enter Tryz.func4, Tryz.ntmps4
  go_wp2_with (first
    | (go_at_call 7; refine Calls.mono (HK.out _ (Below.refl _ _)) ?_; rintro e w1 ⟨rfl, hb⟩; have H1 : Hid _ := hb; clear hb HK))
  go_ret
  exact ⟨rfl, H1.out⟩
set_option maxHeartbeats 2000000 in
theorem again_no (s : ByteArray) (f : Int × Wd') (ps : List Bk) (w : World) (hs : s.size ≤ 65536) (hV : Vars w) (hp : parseF s.data.toList = (some f, ps)) :
    Calls Tryz.prog 4 #[.string s] w fun e w' => e = .returned (.bool true) ∧ Below w.heap.size w w' := by
  have HK : Hid (WakC w) := wak_c hV
  have HP : Hid (Calls Tryz.prog 8 #[.string s] w fun e w' => ∃ q, e = .returned (.tuple #[.agg #[.slice none 0 0], .iface 47 (.pointer (some ⟨q, 0, none⟩))]) ∧ Below w.heap.size w w') := par_f hV (by unfold maxLen; omega) hp
  clear hV hp
  go_enter Tryz.func4, Tryz.ntmps4
  go_wp2_with (first
    | (go_at_call 8; refine Calls.mono HP.out ?_; rintro e w1 ⟨q, rfl, hb⟩; have H1 : Hid (Below w.heap.size w (w1.alloc (.cells #[.slice none 0 0] 24))) := hb.alloc hb.size _; clear hb HP)
    | (go_at_call 7; refine Calls.mono (HK.out _ H1.out) ?_; rintro e w2 ⟨rfl, hb⟩; have H2 : Hid _ := H1.out.trans (hb.mono H1.out.size); clear hb HK H1))
  go_ret
  exact ⟨rfl, H2.out⟩
set_option maxHeartbeats 2000000 in
theorem again_tl (s : ByteArray) (ps : List Bk) (w : World) (hs : s.size ≤ 65536) (hV : Vars w) (hp : parseF s.data.toList = (none, ps)) (hl : 65536 < (progL ps).length) :
    Calls Tryz.prog 4 #[.string s] w fun e w' => e = .returned (.bool true) ∧ Below w.heap.size w w' := by
  have HK : Hid (WakC w) := wak_c hV
  have HP : Hid (Calls Tryz.prog 8 #[.string s] w fun e w' => ∃ a c, e = .returned (.tuple #[.agg #[.slice a ps.length c], .nilIface]) ∧ PAt w' a ps ∧ Below w.heap.size w w') := par_s hV (by unfold maxLen; omega) hp
  have HT : Hid (TexC w ps [] 3) := tex_c hV (show_long (parse_ck hp) hl)
  clear hV hp hl
  go_enter Tryz.func4, Tryz.ntmps4
  go_wp2_with (first
    | (go_at_call 8; refine Calls.mono HP.out ?_; rintro e w1 ⟨a, c, rfl, hr, hb⟩; have H1 : Hid (Tw1 w (w1.alloc (.cells #[.slice a ps.length c] 24)) a c w1.heap.size ps) := Tw1.new hb hr; clear hr hb HP)
    | (go_at_call 5; refine Calls.mono (HT.out _ _ _ H1.out.p H1.out.b) ?_; rintro e w2 ⟨rfl, hb⟩; have H2 : Hid _ := H1.out.up hb; clear hb H1 HT)
    | (go_at_call 7; refine Calls.mono (HK.out _ H2.out.b) ?_; rintro e w3 ⟨rfl, hb⟩; have H3 : Hid _ := H2.out.up hb; clear hb HK H2))
  go_ret
  exact ⟨rfl, H3.out.b⟩
set_option maxHeartbeats 2000000 in
theorem again_ok (s : ByteArray) (ps : List Bk) (w : World) (hs : s.size ≤ 65536) (hV : Vars w) (hp : parseF s.data.toList = (none, ps)) (hl : ¬ 65536 < (progL ps).length) :
    Calls Tryz.prog 4 #[.string s] w fun e w' => e = .returned (.bool true) ∧ Below w.heap.size w w' := by
  have HK : Hid (WakC w) := wak_c hV
  have HP : Hid (Calls Tryz.prog 8 #[.string s] w fun e w' => ∃ a c, e = .returned (.tuple #[.agg #[.slice a ps.length c], .nilIface]) ∧ PAt w' a ps ∧ Below w.heap.size w w') := par_s hV (by unfold maxLen; omega) hp
  have HT : Hid (TexC w ps (progL ps) 0) := tex_c hV (show_ok (parse_ck hp) hl)
  have HR : Hid (∀ W a, PAt W a ps → ParC w (progL ps) ps) := fun W a hr => par_c hV (by omega) (parse_text hr (parse_ck hp) hl)
  have HU := HT
  clear hV hp hl
  generalize progL ps = t at *
  go_enter Tryz.func4, Tryz.ntmps4
  go_wp2_with (first
    | (go_at_call 8; refine Calls.mono HP.out ?_; rintro e w1 ⟨a, c, rfl, hr, hb⟩; have H1 : Hid (Tw1 w (w1.alloc (.cells #[.slice a ps.length c] 24)) a c w1.heap.size ps) := Tw1.new hb hr; clear hr hb HP)
    | (go_at_call 5; refine Calls.mono (HT.out _ _ _ H1.out.p H1.out.b) ?_; rintro e w2 ⟨rfl, hb⟩; have H2 : Hid _ := H1.out.up hb; clear hb H1 HT)
    | (go_at_call 8; refine Calls.mono (HR.out _ _ H2.out.p _ H2.out.b) ?_; rintro e w3 ⟨a3, c3, rfl, hr, hb⟩; have H3 : Hid (Tw2 w (w3.alloc (.cells #[.slice a3 ps.length c3] 24)) a a3 c c3 w1.heap.size w3.heap.size ps) := H2.out.two hb hr; clear hr hb HR H2)
    | (go_at_call 5; refine Calls.mono (HU.out _ _ _ H3.out.r H3.out.b) ?_; rintro e w4 ⟨rfl, hb⟩; have H4 : Hid _ := H3.out.up hb; clear hb H3 HU; have c0 := H4.out.x.c 0 _ rfl; have c1 := H4.out.m.c 0 _ rfl)
    | (go_at_call 9; refine Calls.mono (likeProgram_any a a3 c c3 ps _ H4.out.p H4.out.r) ?_; rintro e w5 ⟨rfl, hb⟩; have H5 : Hid _ := H4.out.up hb; clear hb H4 c0 c1)
    | (go_at_call 7; refine Calls.mono (HK.out _ H5.out.b) ?_; rintro e w6 ⟨rfl, hb⟩; have H6 : Hid _ := H5.out.up hb; clear hb HK H5))
  go_ret
  exact ⟨rfl, H6.out.b⟩
theorem law_again (s : ByteArray) (w : World) (hs : s.size ≤ maxLen) (hV : Vars w) :
    Calls Tryz.prog 4 #[.string s] w fun e w' => e = .returned (.bool true) ∧ Below w.heap.size w w' := by
  by_cases hl : 65536 < s.size
  · exact again_long s w hl hs hV
  · rcases hp : parseF s.data.toList with ⟨_ | f, ps⟩
    · by_cases ht : 65536 < (progL ps).length
      · exact again_tl s ps w (by omega) hV hp ht
      · exact again_ok s ps w (by omega) hV hp ht
    · exact again_no s f ps w (by omega) hV hp
end Go.Proofs.YthjpddjfckdefaaGreatDoor.Pr

namespace Go.Proofs.YthjpddjfckdefaaGreatDoor.Pr
open Go.ChangeShapes Go.WideShapes Go.ChangeAt Go.RowKit
open _root_.Go.Proofs.YthjpddjfckdefaaGreatDoor.Op

theorem wf64 {n : Int} (h : (Lit.int .i64 n).wf = true) : -9223372036854775808 ≤ n ∧ n ≤ 9223372036854775807 := by
  simp [Lit.wf, IntKind.min, IntKind.max, IntKind.signed, IntKind.bits] at h
  omega
theorem wf8 {n : Int} (h : (Lit.int .i8 n).wf = true) : -128 ≤ n ∧ n ≤ 127 := by
  simp [Lit.wf, IntKind.min, IntKind.max, IntKind.signed, IntKind.bits] at h
  omega
theorem wfu8 {n : Int} (h : (Lit.int .u8 n).wf = true) : 0 ≤ n ∧ n ≤ 255 := by
  simp [Lit.wf, IntKind.min, IntKind.max, IntKind.signed, IntKind.bits] at h
  omega
theorem trod_struct5 {H : Type} {enc : TypeId × Value → H} {P : Program} {w : World} {base : Nat} {spare : Nat → Bool} {held : Bool} {t : TypeId} {f0 f1 f2 f3 f4 : Field} {fuel : Nat} {cs : List Value} {x : DataW H × List MemPlace} (ht : P.underlying t = some (.struct #[f0, f1, f2, f3, f4])) (h : DataW.trod enc P w base spare held fuel t cs = some x) :
    ∃ y0 y1 y2 y3 y4 n, x = (.agg [y0.1, y1.1, y2.1, y3.1, y4.1], y0.2 ++ (y1.2 ++ (y2.2 ++ (y3.2 ++ y4.2)))) ∧ cs.length = P.cellsOf t ∧ DataW.trod enc P w base spare held n f0.type ((cs.drop f0.offset).take (P.cellsOf f0.type)) = some y0 ∧
      DataW.trod enc P w base spare held n f1.type ((cs.drop f1.offset).take (P.cellsOf f1.type)) = some y1 ∧ DataW.trod enc P w base spare held n f2.type ((cs.drop f2.offset).take (P.cellsOf f2.type)) = some y2 ∧
      DataW.trod enc P w base spare held n f3.type ((cs.drop f3.offset).take (P.cellsOf f3.type)) = some y3 ∧ DataW.trod enc P w base spare held n f4.type ((cs.drop f4.offset).take (P.cellsOf f4.type)) = some y4 := by
  obtain ⟨xs, n, _, rfl, hl, hlen, hf⟩ := DataW.trod_struct ht h
  match xs, hlen with
  | [y0, y1, y2, y3, y4], _ => exact ⟨y0, y1, y2, y3, y4, n, by simp, hl, by simpa using hf 0 f0 rfl, by simpa using hf 1 f1 rfl, by simpa using hf 2 f2 rfl, by simpa using hf 3 f3 rfl, by simpa using hf 4 f4 rfl⟩
theorem own : ownKnob Tryz.prog.godebug = none := by kernel_rfl
theorem four4 {p : Nat → Prop} (h0 : p 0) (h1 : p 1) (h2 : p 2) (h3 : p 3) : ∀ k, k < 4 → p k
  | 0, _ => h0
  | 1, _ => h1
  | 2, _ => h2
  | 3, _ => h3
theorem trod_bool1 {H : Type} {enc : TypeId × Value → H} {W : World} {base fuel : Nat} {sp : Nat → Bool} {held : Bool} {c : Value} {y : DataW H × List MemPlace} (h : DataW.trod enc Tryz.prog W base sp held fuel 4 [c] = some y) : ∃ b : Bool, c = .bool b ∧ y.1 = .lit (.bool b) := by
  obtain ⟨b, e, f⟩ := DataW.trod_bool Tryz.underlying4 h
  exact ⟨b, by simpa using e, by rw [f]⟩
theorem trod_end {H : Type} {enc : TypeId × Value → H} {W : World} {base fuel : Nat} {sp : Nat → Bool} {held : Bool} {c0 c1 c2 c3 : Value} {y : DataW H × List MemPlace} (h : DataW.trod enc Tryz.prog W base sp held fuel 68 [c0, c1, c2, c3] = some y) :
    ∃ a b c d : Bool, c0 = .bool a ∧ c1 = .bool b ∧ c2 = .bool c ∧ c3 = .bool d ∧ y.1 = .agg [.lit (.bool a), .lit (.bool b), .lit (.bool c), .lit (.bool d)] := by
  obtain ⟨y0, y1, y2, y3, n, hx, _, h0, h1, h2, h3⟩ := Joins.trod_struct4 Tryz.underlying68 h
  have k4 : Tryz.prog.cellsOf 4 = 1 := by kernel_rfl
  rw [k4] at h0 h1 h2 h3
  obtain ⟨a, e0, f0⟩ := trod_bool1 h0
  obtain ⟨b, e1, f1⟩ := trod_bool1 h1
  obtain ⟨c, e2, f2⟩ := trod_bool1 h2
  obtain ⟨d, e3, f3⟩ := trod_bool1 h3
  exact ⟨a, b, c, d, e0, e1, e2, e3, by rw [hx, f0, f1, f2, f3]⟩
set_option maxRecDepth 20000 in
theorem ends_of {W : World} (h : Lib.VarReads Tryz.prog W "hayloft/program.ends" Rows.laid_hayloft_program_ends) : EndsAt W := by
  have hg : Tryz.prog.globalNamed "hayloft/program.ends" = some 0 := by kernel_rfl
  have ht : (Tryz.prog.globals[0]?).map (·.type) = some 87 := by kernel_rfl
  obtain ⟨g0, t0, cs, fuel, p, h1, h2, h3, h4⟩ := h
  obtain rfl := Option.some.inj (hg.symm.trans h1)
  obtain rfl := Option.some.inj (ht.symm.trans h2)
  obtain ⟨xs, m, _, hx, hl, hn, he⟩ := DataW.trod_array Tryz.underlying87 h4
  have c68 : Tryz.prog.cellsOf 68 = 4 := by kernel_rfl
  have c87 : Tryz.prog.cellsOf 87 = 16 := by kernel_rfl
  rw [c87] at hl
  rw [c68] at he
  obtain ⟨l⟩ := cs
  match xs, hn, l, hl with
  | [x0, x1, x2, x3], _, [v0, v1, v2, v3, v4, v5, v6, v7, v8, v9, va, vb, vc, vd, ve, vf], _ =>
    obtain ⟨a0, a1, a2, a3, rfl, rfl, rfl, rfl, e0⟩ := trod_end (he 0 (by omega))
    obtain ⟨b0, b1, b2, b3, rfl, rfl, rfl, rfl, e1⟩ := trod_end (he 1 (by omega))
    obtain ⟨c0, c1, c2, c3, rfl, rfl, rfl, rfl, e2⟩ := trod_end (he 2 (by omega))
    obtain ⟨d0, d1, d2, d3, rfl, rfl, rfl, rfl, e3⟩ := trod_end (he 3 (by omega))
    simp [Rows.laid_hayloft_program_ends, e0, e1, e2, e3] at hx
    obtain ⟨⟨⟨rfl, rfl, rfl, rfl⟩, ⟨rfl, rfl, rfl, rfl⟩, ⟨rfl, rfl, rfl, rfl⟩, ⟨rfl, rfl, rfl, rfl⟩⟩, _⟩ := hx
    have cc := fun i => World.var?_cell h1 h3 i
    refine ⟨four4 (p := fun k => W.cell? ⟨0, k * 4, none⟩ = some (.bool (eA k)) ∧ W.cell? ⟨0, k * 4 + 1, none⟩ = some (.bool (eB k)) ∧ W.cell? ⟨0, k * 4 + 2, none⟩ = some (.bool (eT k)) ∧ W.cell? ⟨0, k * 4 + 3, none⟩ = some (.bool (eE k))) ⟨?_, ?_, ?_, ?_⟩ ⟨?_, ?_, ?_, ?_⟩ ⟨?_, ?_, ?_, ?_⟩ ⟨?_, ?_, ?_, ?_⟩⟩
    · exact (cc 0)
    · exact (cc 1)
    · exact (cc 2)
    · exact (cc 3)
    · exact (cc 4)
    · exact (cc 5)
    · exact (cc 6)
    · exact (cc 7)
    · exact (cc 8)
    · exact (cc 9)
    · exact (cc 10)
    · exact (cc 11)
    · exact (cc 12)
    · exact (cc 13)
    · exact (cc 14)
    · exact (cc 15)

theorem star : "*" ++ "errors.errorString" = "*errors.errorString" := by decide
theorem row170 (u : TypeId) (h : Tryz.prog.typeName? 3 u = some "*errors.errorString") : u = 170 :=
  typeName_ptr_named (nm := "errors.errorString") (by rw [star]; kernel_rfl) (by kernel_rfl) (by decide) u (by rw [star]; exact h)
theorem tySize : Tryz.prog.types.size = 185 := by kernel_rfl
theorem laidOut : laidOutB Tryz.prog = true := by kernel_rfl
theorem gRangeT : (Tryz.prog.globals[4]?).map (·.type) = some 31 := by kernel_rfl
theorem gSyntaxT : (Tryz.prog.globals[3]?).map (·.type) = some 31 := by kernel_rfl
theorem gPowT : (Tryz.prog.globals[2]?).map (·.type) = some 149 := by kernel_rfl
theorem pow_laid : (Rows.laid_internal_strconv_uint64pow10 : DataW Unit) = Lib.tabData .u64 Lib.pow10Tab := by kernel_rfl
/-- The last of the variables lies there. -/
theorem big_of {W : World} (h : Lib.VarReads Tryz.prog W "math/bits.deBruijn64tab" Rows.laid_math_bits_deBruijn64tab) : 7 ≤ W.heap.size := by
  have hg : Tryz.prog.globalNamed "math/bits.deBruijn64tab" = some 6 := by kernel_rfl
  obtain ⟨g0, t0, cs, fuel, p, h1, h2, h3, h4⟩ := h
  rw [World.var?, hg, Option.bind_some] at h3
  rcases Nat.lt_or_ge 6 W.heap.size with h | h
  · exact h
  · rw [Array.getElem?_eq_none h] at h3; cases h3
def laid6 : List (String × DataW Unit) := [("math/bits.deBruijn32tab", Rows.laid_math_bits_deBruijn32tab), ("math/bits.deBruijn64tab", Rows.laid_math_bits_deBruijn64tab), ("internal/strconv.uint64pow10", Rows.laid_internal_strconv_uint64pow10), ("strconv.ErrRange", Rows.laid_strconv_ErrRange), ("strconv.ErrSyntax", Rows.laid_strconv_ErrSyntax), ("hayloft/program.ends", Rows.laid_hayloft_program_ends)]

set_option maxRecDepth 20000 in
theorem vars_of {W : World} (hL : laidMetH Tryz.prog laid6 W) (hsh : W.ShapedOpen Tryz.prog) : Vars W := by
  have hP : laidMet Tryz.prog laid6 W := hL
  have hbig : 7 ≤ W.heap.size := big_of (Lib.laidMet.reads hP (n := "math/bits.deBruijn64tab") (d := Rows.laid_math_bits_deBruijn64tab) (by simp [laid6]))
  have hn := ends_of (Lib.laidMet.reads hP (n := "hayloft/program.ends") (d := Rows.laid_hayloft_program_ends) (by simp [laid6]))
  obtain ⟨a0, s0, hv0, -, -, -⟩ := laid_sentinel hP.tail.tail.tail gRange gRangeT Tryz.underlying31 row170 Tryz.underlying170 Tryz.underlying172 rfl rfl Tryz.underlying9 (by kernel_rfl) (by kernel_rfl)
  obtain ⟨a1, s1, hv1, -, -, -⟩ := laid_sentinel hP.tail.tail.tail.tail gSyntax gSyntaxT Tryz.underlying31 row170 Tryz.underlying170 Tryz.underlying172 rfl rfl Tryz.underlying9 (by kernel_rfl) (by kernel_rfl)
  have htb : Lib.TabIs Tryz.prog W "internal/strconv.uint64pow10" .u64 Lib.pow10Tab := by
    have h2 := hP.tail.tail
    rw [pow_laid] at h2
    exact Lib.tabIs_of_head gPow gPowT Tryz.underlying149 Tryz.underlying129 (by kernel_rfl) (by kernel_rfl) h2
  have hm : ∃ m, W.cell? ⟨1, 0, none⟩ = some (.int .i64 m) := cell_of_shapedOpen_int (t := 3) (zero := #[.int .i64 0]) hsh (by decide) (by kernel_rfl) rfl (by kernel_rfl) (by kernel_rfl) Tryz.underlying3
  exact ⟨⟨hn, hbig⟩, hm, htb, ⟨170, _, hv1⟩, ⟨170, _, hv0⟩⟩

set_option maxRecDepth 100000 in
/-- The wrap: what the listed variables hold, and the world's shape, are handed to the contract. -/
theorem wrap {H : Type} {enc : TypeId × Value → H} {os : Os} {f : FuncId} {fn : Func} {s : ChangeSpec} {lv : List (String × DataW Unit)} (started : os.Started) (noInit : Tryz.prog.inits.idxOf? f = none) (hfn : Tryz.prog.funcs[f]? = some fn)
    (witness : ∃ (w : World) (tape : Tape) (i : Input), w.os = os ∧ (w.forCall tape i).Shaped Tryz.prog ∧ i.vars = [] ∧ Input.okWide Tryz.prog (w.forCall tape i) .any w.heap.size f i ∧
      ((s.pre enc Tryz.prog fn [] false (w.forCall tape i).memory i.args ∧ laidMetH Tryz.prog lv (w.forCall tape i).memory) ∧ sizedMet enc Tryz.prog fn (OpenSpec.ofChange s) false (w.forCall tape i).memory i.args) ∧ Assume.holds {} Tryz.prog (lone (Frame.enter Tryz.prog f i.args .normal) [] (w.forCall tape i)))
    (contract : ∀ (W : World) (base : Nat) (args : Array Value) (ds gs : List (DataW H)) (before : List MemPlace),
      (∀ (j : Nat) t v, fn.params[j]? = some t → args[j]? = some v → Value.okWide Tryz.prog W .any base t v) →
      DataW.Whole enc Tryz.prog fn.params.toList s.vars false W args.toList ds gs before →
      (DataW.weightsEach Tryz.prog (fn.params.toList ++ s.plain.varTypes Tryz.prog) (ds ++ gs)).all (· ≤ reachBytes) = true →
      laidMetH Tryz.prog lv W → W.ShapedOpen Tryz.prog →
      Calls Tryz.prog f args W fun e W' => ∃ v, e = .returned v ∧ s.post enc Tryz.prog fn false true false false W args v W') :
    ReturnsInHanded {} Tryz.checked os f .any (fun w args => (s.pre enc Tryz.prog fn [] false w args ∧ laidMetH Tryz.prog lv w) ∧ sizedMet enc Tryz.prog fn (OpenSpec.ofChange s) false w args) (s.post enc Tryz.prog fn false true false false) := by
  refine returnsInHanded_of_calls (C := Tryz.checked) own started noInit witness ?_
  intro w tape i _ hsh _ hok hpre hholds
  obtain ⟨_, _, _, fn', hfn', _, _, _, _, hval⟩ := hok
  have e : fn' = fn := Option.some.inj (hfn'.symm.trans hfn)
  subst e
  obtain ⟨⟨⟨ds, gs, before, hw, hc⟩, hx⟩, hz⟩ := hpre
  have hw' := DataW.Whole.of_heap (w' := w.forCall tape i) (by rfl) hw
  refine (contract (w.forCall tape i) w.heap.size i.args ds gs before hval hw' (hz.weights hw) (hx.of_heap (by rfl)) hsh).mono fun e W' ⟨v, he, hp⟩ => ?_
  subst he
  exact ChangeSpec.post_blind hp


set_option maxRecDepth 100000 in
theorem wit_met (os : Os) (args : Array Value) : laidMetH Tryz.prog laid6 ((((World.holding Tryz.prog os ⟨#[], #[], []⟩).layVars Tryz.prog laid6).forCall (fun _ _ => 0) ⟨#[], args, []⟩).memory) := by
  refine laidMetH_of_parts ?_ (by kernel_rfl)
  have h : laidMet Tryz.prog laid6 ((World.holding Tryz.prog os ⟨#[], #[], []⟩).layVars Tryz.prog laid6) :=
    laidMet_layVars (w0 := (World.holding Tryz.prog os ⟨#[], #[], []⟩)) ["math/bits.deBruijn32tab", "math/bits.deBruijn64tab", "internal/strconv.uint64pow10", "strconv.ErrRange", "strconv.ErrSyntax", "hayloft/program.ends"] [] (by rw [show (laid6.filter fun x => (["math/bits.deBruijn32tab", "math/bits.deBruijn64tab", "internal/strconv.uint64pow10", "strconv.ErrRange", "strconv.ErrSyntax", "hayloft/program.ends"] : List String).contains x.1) = laid6 from by kernel_rfl]) (by kernel_rfl) (by kernel_rfl) (by rw [show (laid6.filter fun x => !(["math/bits.deBruijn32tab", "math/bits.deBruijn64tab", "internal/strconv.uint64pow10", "strconv.ErrRange", "strconv.ErrSyntax", "hayloft/program.ends"] : List String).contains x.1) = [] from by kernel_rfl]; exact LaidIn.none)
  exact h.of_heap (by simp [World.memory, World.forCall, Input.heap])
set_option maxRecDepth 100000 in
theorem wit_os (os : Os) : ((World.holding Tryz.prog os ⟨#[], #[], []⟩).layVars Tryz.prog laid6).os = os := World.layVars_os _ _ _
end Go.Proofs.YthjpddjfckdefaaGreatDoor.Pr

namespace Go.Proofs.YthjpddjfckdefaaGreatDoor.Pr
open _root_.Go.Proofs.YthjpddjfckdefaaGreatDoor.Op
open Go.ChangeShapes Go.WideShapes Go.ChangeAt Go.RowKit
set_option maxRecDepth 20000

theorem opsAt_nil (w : World) (ao : Option Addr) : OpsAt w ao [] := ⟨by simp, by simp, fun h => by simp at h⟩
theorem reach_eq : reachBytes = 140737488351232 := rfl
theorem addr_add (b f : Nat) (n : Nat) : (⟨b, f, none⟩ : Addr).add n = ⟨b, f + n, none⟩ := by
  unfold Addr.add
  split
  · rename_i h; subst h; rfl
  · rfl
/-- Cells in a row, told by block and offset. -/
theorem cells_at {w : World} {b f n : Nat} {cs : List Value} (h : w.cells? 0 ⟨b, f, none⟩ n = some cs) (hn : 0 < n) : b < w.heap.size ∧ ∀ i v, cs[i]? = some v → w.cell? ⟨b, f + i, none⟩ = some v := by
  obtain ⟨_, hl, hc⟩ := World.cells?_some h
  refine ⟨World.cells?_block h hn, fun i v e => ?_⟩
  have hi : i < n := by
    rcases Nat.lt_or_ge i n with h | h
    · exact h
    · rw [List.getElem?_eq_none (by omega)] at e; cases e
  have := hc i hi
  rw [addr_add, e] at this
  exact this
theorem spot_none {w : World} {a : Addr} {n : Nat} {cs : List Value} (h : w.cells? 0 a n = some cs) (hn : 0 < n) : a = ⟨a.block, a.off, none⟩ := by
  obtain ⟨_, hl, hc⟩ := World.cells?_some h
  have h0 := hc 0 hn
  have ha : a.add 0 = a := by unfold Addr.add; simp
  rw [ha, List.getElem?_eq_getElem (by omega)] at h0
  obtain ⟨b, f, s⟩ := a
  cases s with
  | none => rfl
  | some s =>
    unfold World.cell? at h0
    split at h0
    · simp at h0
    · cases h0
instance : Inhabited O := ⟨⟨0, 0, 0, 0, 0⟩⟩
instance : Inhabited Bk := ⟨⟨[], 0, 0, [], 0, 0⟩⟩

theorem weightsAll_mem {H : Type} {P : Program} {e : TypeId} {d : DataW H} {n : Nat} : ∀ {l : List (DataW H)}, d ∈ l → n ∈ d.weights P e → n ∈ DataW.weightsAll P e l
  | x :: r, hd, hn => by
    unfold DataW.weightsAll
    rcases List.mem_cons.1 hd with rfl | hd
    · exact List.mem_append_left _ hn
    · exact List.mem_append_right _ (weightsAll_mem hd hn)

/-- One operation, out of its cells. -/
theorem open_o {H : Type} {enc : TypeId × Value → H} {W : World} {base fuel : Nat} {sp : Nat → Bool} {held : Bool} {cs : List Value} {y : DataW H × List MemPlace} (h : DataW.trod enc Tryz.prog W base sp held fuel 46 cs = some y) : ∃ o : O, o.Ok ∧ cs = [.int .i8 o.op, .int .u8 o.d, .int .u8 o.a, .int .u8 o.b, .int .i64 o.im] := by
  have k49 : Tryz.prog.cellsOf 46 = 5 := by kernel_rfl
  have k38 : Tryz.prog.cellsOf 41 = 1 := by kernel_rfl
  have k5 : Tryz.prog.cellsOf 5 = 1 := by kernel_rfl
  have k2 : Tryz.prog.cellsOf 2 = 1 := by kernel_rfl
  obtain ⟨y0, y1, y2, y3, y4, n, hx, hl, h0, h1, h2, h3, h4⟩ := trod_struct5 Tryz.underlying46 h
  rw [k49] at hl
  match cs, hl with
  | [c0, c1, c2, c3, c4], _ =>
    rw [k38] at h0
    rw [k5] at h1 h2 h3
    rw [k2] at h4
    obtain ⟨a, a1, a2, a3⟩ := DataW.trod_int Tryz.underlying41 h0
    obtain ⟨b, b1, b2, b3⟩ := DataW.trod_int Tryz.underlying5 h1
    obtain ⟨c, c1', c2', c3'⟩ := DataW.trod_int Tryz.underlying5 h2
    obtain ⟨e, e1, e2, e3⟩ := DataW.trod_int Tryz.underlying5 h3
    obtain ⟨g, g1, g2, g3⟩ := DataW.trod_int Tryz.underlying2 h4
    have a1' : [c0] = [Value.int .i8 a] := a1
    have b1' : [c1] = [Value.int .u8 b] := b1
    have c1'' : [c2] = [Value.int .u8 c] := c1'
    have e1' : [c3] = [Value.int .u8 e] := e1
    have g1' : [c4] = [Value.int .i64 g] := g1
    obtain rfl : c0 = .int .i8 a := by simpa using a1'
    obtain rfl : c1 = .int .u8 b := by simpa using b1'
    obtain rfl : c2 = .int .u8 c := by simpa using c1''
    obtain rfl : c3 = .int .u8 e := by simpa using e1'
    obtain rfl : c4 = .int .i64 g := by simpa using g1'
    have w0 := wf8 a3
    have w1 := wfu8 b3
    have w2 := wfu8 c3'
    have w3 := wfu8 e3
    have w4 := wf64 g3
    exact ⟨⟨a, b, c, e, g⟩, ⟨w0.1, w0.2, w1.1, w1.2, w2.1, w2.2, w3.1, w3.2, w4.1, w4.2⟩, rfl⟩

/-- A list of operations, out of its cell. -/
theorem open_list {H : Type} {enc : TypeId × Value → H} {W : World} {fuel : Nat} {held : Bool} {cs : List Value} {y : DataW H × List MemPlace} (h : DataW.trod enc Tryz.prog W 0 (fun _ => true) held fuel 40 cs = some y) (hw : ∀ n, n ∈ y.1.weights Tryz.prog 40 → n ≤ reachBytes) :
    ∃ (ao : Option Addr) (cap : Nat) (xs : List O), cs = [.slice ao xs.length cap] ∧ OpsAt W ao xs := by
  have k49 : Tryz.prog.cellsOf 46 = 5 := by kernel_rfl
  have b49 : Tryz.prog.bytesOf 46 = 16 := by kernel_rfl
  rcases Deep.open_slice Tryz.underlying40 h with ⟨rfl, rfl⟩ | ⟨a, len, cap, m, n, D, Pl, rfl, _, hlc, _, hm, rfl, hx⟩
  · exact ⟨none, 0, [], rfl, opsAt_nil _ _⟩
  · have hmc : m = cap := by simpa using hm
    subst hmc
    have hcap : m * 16 ≤ reachBytes := by
      refine hw _ ?_
      unfold DataW.weights
      simp only [Tryz.underlying40, b49]
      refine List.mem_cons.2 (.inl ?_)
      simp; omega
    rw [reach_eq] at hcap
    rw [k49] at hx
    obtain ⟨X, hX⟩ := Deep.choose_lt (α := O) (n := len) (p := fun i o => o.Ok ∧ W.cells? 0 (a.add (i * 5)) 5 = some [.int .i8 o.op, .int .u8 o.d, .int .u8 o.a, .int .u8 o.b, .int .i64 o.im]) (fun i hi => by
      obtain ⟨cs', h1, h2⟩ := hx i (by omega)
      obtain ⟨o, ho, rfl⟩ := open_o h2
      exact ⟨o, ho, h1⟩)
    refine ⟨some a, m, (List.range len).map X, by simp, ⟨fun o ho => ?_, by simp; omega, fun h0 => ?_⟩⟩
    · obtain ⟨i, hi, rfl⟩ := List.mem_map.1 ho
      exact (hX i (List.mem_range.1 hi)).1
    · have h0' : 0 < len := by simpa using h0
      have ha : a = ⟨a.block, a.off, none⟩ := by
        have := (hX 0 h0').2
        rw [show a.add (0 * 5) = a by unfold Addr.add; simp] at this
        exact spot_none this (by omega)
      refine ⟨a.block, a.off, by rw [← ha], ?_, fun i hi => ?_⟩
      · have := (hX 0 h0').2
        rw [ha, addr_add] at this
        exact (cells_at this (by omega)).1
      · have hi' : i < len := by simpa using hi
        have := (hX i hi').2
        rw [ha, addr_add] at this
        have hc := (cells_at this (by omega)).2
        simp only [List.getElem_map, List.getElem_range]
        exact ⟨hc 0 _ rfl, hc 1 _ rfl, hc 2 _ rfl, hc 3 _ rfl, hc 4 _ rfl⟩

theorem trod_struct6 {H : Type} {enc : TypeId × Value → H} {P : Program} {w : World} {base : Nat} {spare : Nat → Bool} {held : Bool} {t : TypeId} {f0 f1 f2 f3 f4 f5 : Field} {fuel : Nat} {cs : List Value} {x : DataW H × List MemPlace} (ht : P.underlying t = some (.struct #[f0, f1, f2, f3, f4, f5])) (h : DataW.trod enc P w base spare held fuel t cs = some x) :
    ∃ y0 y1 y2 y3 y4 y5 n, x.1 = .agg [y0.1, y1.1, y2.1, y3.1, y4.1, y5.1] ∧ cs.length = P.cellsOf t ∧ DataW.trod enc P w base spare held n f0.type ((cs.drop f0.offset).take (P.cellsOf f0.type)) = some y0 ∧
      DataW.trod enc P w base spare held n f1.type ((cs.drop f1.offset).take (P.cellsOf f1.type)) = some y1 ∧ DataW.trod enc P w base spare held n f2.type ((cs.drop f2.offset).take (P.cellsOf f2.type)) = some y2 ∧
      DataW.trod enc P w base spare held n f3.type ((cs.drop f3.offset).take (P.cellsOf f3.type)) = some y3 ∧ DataW.trod enc P w base spare held n f4.type ((cs.drop f4.offset).take (P.cellsOf f4.type)) = some y4 ∧ DataW.trod enc P w base spare held n f5.type ((cs.drop f5.offset).take (P.cellsOf f5.type)) = some y5 := by
  obtain ⟨xs, n, _, rfl, hl, hlen, hf⟩ := DataW.trod_struct ht h
  match xs, hlen with
  | [y0, y1, y2, y3, y4, y5], _ => exact ⟨y0, y1, y2, y3, y4, y5, n, by simp, hl, by simpa using hf 0 f0 rfl, by simpa using hf 1 f1 rfl, by simpa using hf 2 f2 rfl, by simpa using hf 3 f3 rfl, by simpa using hf 4 f4 rfl, by simpa using hf 5 f5 rfl⟩

/-- One block, out of its cells. -/
theorem open_b {H : Type} {enc : TypeId × Value → H} {W : World} {fuel : Nat} {held : Bool} {cs : List Value} {y : DataW H × List MemPlace} (h : DataW.trod enc Tryz.prog W 0 (fun _ => true) held fuel 43 cs = some y) (hw : ∀ n, n ∈ y.1.weights Tryz.prog 43 → n ≤ reachBytes) :
    ∃ (x : Bk) (p : Pl), BIn W x p ∧ cs = (x.cells p).toList := by
  have k40 : Tryz.prog.cellsOf 43 = 6 := by kernel_rfl
  have k37 : Tryz.prog.cellsOf 40 = 1 := by kernel_rfl
  have k38 : Tryz.prog.cellsOf 41 = 1 := by kernel_rfl
  have k5 : Tryz.prog.cellsOf 5 = 1 := by kernel_rfl
  have k3 : Tryz.prog.cellsOf 3 = 1 := by kernel_rfl
  obtain ⟨y0, y1, y2, y3, y4, y5, n, hx, hl, h0, h1, h2, h3, h4, h5⟩ := trod_struct6 Tryz.underlying43 h
  rw [k40] at hl
  have hw' : ∀ n, n ∈ DataW.weightsEach Tryz.prog [40, 41, 5, 40, 3, 3] [y0.1, y1.1, y2.1, y3.1, y4.1, y5.1] → n ≤ reachBytes := fun n hn => by
    refine hw n ?_
    rw [hx]
    unfold DataW.weights
    simp only [Tryz.underlying43]
    exact hn
  match cs, hl with
  | [c0, c1, c2, c3, c4, c5], _ =>
    rw [k37] at h0 h3
    rw [k38] at h1
    rw [k5] at h2
    rw [k3] at h4 h5
    obtain ⟨oa, oc, os, e0, i0⟩ := open_list h0 fun n hn => hw' n (DataW.weights_mem_each (j := 0) rfl rfl n hn)
    obtain ⟨ba, bc, bs, e3, i3⟩ := open_list h3 fun n hn => hw' n (DataW.weights_mem_each (j := 3) rfl rfl n hn)
    obtain ⟨f, f1, _, f3⟩ := DataW.trod_int Tryz.underlying41 h1
    obtain ⟨a, a1, _, a3⟩ := DataW.trod_int Tryz.underlying5 h2
    obtain ⟨u, u1, _, u3⟩ := DataW.trod_int Tryz.underlying3 h4
    obtain ⟨v, v1, _, v3⟩ := DataW.trod_int Tryz.underlying3 h5
    have e0' : [c0] = [Value.slice oa os.length oc] := e0
    have e3' : [c3] = [Value.slice ba bs.length bc] := e3
    have f1' : [c1] = [Value.int .i8 f] := f1
    have a1' : [c2] = [Value.int .u8 a] := a1
    have u1' : [c4] = [Value.int .i64 u] := u1
    have v1' : [c5] = [Value.int .i64 v] := v1
    obtain rfl : c0 = .slice oa os.length oc := by simpa using e0'
    obtain rfl : c3 = .slice ba bs.length bc := by simpa using e3'
    obtain rfl : c1 = .int .i8 f := by simpa using f1'
    obtain rfl : c2 = .int .u8 a := by simpa using a1'
    obtain rfl : c4 = .int .i64 u := by simpa using u1'
    obtain rfl : c5 = .int .i64 v := by simpa using v1'
    have w1 := wf8 f3
    have w2 := wfu8 a3
    have w4 := wf64 u3
    have w5 := wf64 v3
    exact ⟨⟨os, f, a, bs, u, v⟩, ⟨oa, oc, ba, bc⟩, ⟨⟨w1.1, w1.2, w2.1, w2.2, w4.1, w4.2, w5.1, w5.2⟩, i0, i3⟩, rfl⟩

/-- The blocks, out of their cell. -/
theorem open_blocks {H : Type} {enc : TypeId × Value → H} {W : World} {fuel : Nat} {held : Bool} {cs : List Value} {y : DataW H × List MemPlace} (h : DataW.trod enc Tryz.prog W 0 (fun _ => true) held fuel 22 cs = some y) (hw : ∀ n, n ∈ y.1.weights Tryz.prog 22 → n ≤ reachBytes) :
    ∃ (ao : Option Addr) (cap : Nat) (ps : List Bk), cs = [.slice ao ps.length cap] ∧ PAt W ao ps ∧ ps.length ≤ cap ∧ cap ≤ maxLen := by
  have k40 : Tryz.prog.cellsOf 43 = 6 := by kernel_rfl
  have b40 : Tryz.prog.bytesOf 43 = 72 := by kernel_rfl
  rcases Deep.open_slice Tryz.underlying22 h with ⟨rfl, rfl⟩ | ⟨a, len, cap, m, n, D, Pl, rfl, _, hlc, hmx, hm, rfl, hx⟩
  · exact ⟨none, 0, [], rfl, pAt_nil _ _, Nat.le_refl _, Nat.zero_le _⟩
  · have hmc : m = cap := by simpa using hm
    subst hmc
    have hall : ∀ n, n ∈ (m * 72) :: (DataW.weightsAll Tryz.prog 43 ((List.range len).map D) ++ DataW.weightsAll Tryz.prog 43 ((List.range (m - len)).map fun j => D (len + j))) → n ≤ reachBytes := fun n hn => by
      refine hw n ?_
      unfold DataW.weights
      simp only [Tryz.underlying22, b40]
      rw [show ((List.range len).map D).length + ((List.range (m - len)).map fun j => D (len + j)).length = m by simp; omega]
      exact hn
    have hcap : m * 72 ≤ reachBytes := hall _ (List.mem_cons_self ..)
    rw [reach_eq] at hcap
    rw [k40] at hx
    obtain ⟨X, hX⟩ := Deep.choose_lt (α := Bk) (n := len) (p := fun i x => ∃ p, BIn W x p ∧ W.cells? 0 (a.add (i * 6)) 6 = some (x.cells p).toList) (fun i hi => by
      obtain ⟨cs', h1, h2⟩ := hx i (by omega)
      obtain ⟨x, p, hb, rfl⟩ := open_b h2 fun n hn => hall n (List.mem_cons_of_mem _ (List.mem_append_left _ (weightsAll_mem (List.mem_map.2 ⟨i, List.mem_range.2 hi, rfl⟩) hn)))
      exact ⟨x, p, hb, h1⟩)
    refine ⟨some a, m, (List.range len).map X, by simp, ⟨by simp; omega, fun h0 => ?_⟩, by simpa using hlc, hmx⟩
    have h0' : 0 < len := by simpa using h0
    have ha : a = ⟨a.block, a.off, none⟩ := by
      obtain ⟨_, _, this⟩ := hX 0 h0'
      rw [show a.add (0 * 6) = a by unfold Addr.add; simp] at this
      exact spot_none this (by omega)
    refine ⟨a.block, a.off, by rw [← ha], ?_, fun i hi => ?_⟩
    · obtain ⟨_, _, this⟩ := hX 0 h0'
      rw [ha, addr_add] at this
      exact (cells_at this (by omega)).1
    · have hi' : i < len := by simpa using hi
      obtain ⟨p, hb, this⟩ := hX i hi'
      rw [ha, addr_add] at this
      have hc := (cells_at this (by omega)).2
      simp only [List.getElem_map, List.getElem_range]
      exact ⟨p, ⟨hc 0 _ rfl, hc 1 _ rfl, hc 2 _ rfl, hc 3 _ rfl, hc 4 _ rfl, hc 5 _ rfl⟩, hb⟩

/-- A program that comes in. -/
theorem open_prog {H : Type} {enc : TypeId × Value → H} {W : World} {r : Reach} {b0 : Nat} {held : Bool} {v : Value} {d : DataW H} {p : List MemPlace} (hv : Value.okWide Tryz.prog W r b0 24 v) (h : DataW.Trod enc Tryz.prog W 0 (fun _ => true) held 24 v d p) (hw : ∀ n, n ∈ d.weights Tryz.prog 24 → n ≤ reachBytes) :
    ∃ (ao : Option Addr) (cap : Nat) (ps : List Bk), v = .agg #[.slice ao ps.length cap] ∧ PAt W ao ps ∧ ps.length ≤ cap ∧ cap ≤ maxLen := by
  obtain ⟨cs, rfl, hsz⟩ := okWide_struct Tryz.underlying24 hv
  have k24 : Tryz.prog.cellsOf 24 = 1 := by kernel_rfl
  have k22 : Tryz.prog.cellsOf 22 = 1 := by kernel_rfl
  rw [k24] at hsz
  obtain ⟨l⟩ := cs
  clear hv
  match l, hsz with
  | [c0], _ =>
    obtain ⟨fuel, hf⟩ := h
    obtain ⟨xs, n, _, hx, _, hlen, hff⟩ := DataW.trod_struct Tryz.underlying24 hf
    match xs, hlen with
    | [y0], _ =>
      have h0 : DataW.trod enc Tryz.prog W 0 (fun _ => true) held n 22 ((([c0] : List Value).drop 0).take (Tryz.prog.cellsOf 22)) = some y0 := hff 0 _ rfl
      rw [k22] at h0
      have hd : d = .agg [y0.1] := by simpa using congrArg Prod.fst hx
      obtain ⟨ao, cap, ps, e, hp, h1, h2⟩ := open_blocks (y := y0) h0 fun n hn => hw n (by
        rw [hd]
        unfold DataW.weights
        simp only [Tryz.underlying24]
        exact DataW.weights_mem_each (ts := [22]) (ds := [y0.1]) (j := 0) rfl rfl n hn)
      have e' : [c0] = [Value.slice ao ps.length cap] := e
      obtain rfl : c0 = .slice ao ps.length cap := by simpa using e'
      exact ⟨ao, cap, ps, rfl, hp, h1, h2⟩
end Go.Proofs.YthjpddjfckdefaaGreatDoor.Pr

namespace Go.Proofs.YthjpddjfckdefaaGreatDoor.Pr
open Go.ChangeShapes Go.WideShapes Go.ChangeAt Go.RowKit

set_option maxRecDepth 100000 in
theorem again_c_wit (os : Os) (H : Type) (enc : TypeId × Value → H) : ∃ (w : World) (tape : Tape) (i : Input), w.os = os ∧ (w.forCall tape i).Shaped Tryz.prog ∧ i.vars = [] ∧ Input.okWide Tryz.prog (w.forCall tape i) .any w.heap.size 4 i ∧
      ((Rows.showAgainSpec.pre enc Tryz.prog Tryz.f4 [] false (w.forCall tape i).memory i.args ∧ laidMetH Tryz.prog laid6 (w.forCall tape i).memory) ∧ sizedMet enc Tryz.prog Tryz.f4 (OpenSpec.ofChange Rows.showAgainSpec) false (w.forCall tape i).memory i.args) ∧ Assume.holds {} Tryz.prog (lone (Frame.enter Tryz.prog 4 i.args .normal) [] (w.forCall tape i)) :=
  ChangeSpec.witness_shaped (enc := enc) (C := Tryz.checked) (os := os) (X := fun w _ => laidMetH Tryz.prog laid6 w) false ((World.holding Tryz.prog os ⟨#[], #[], []⟩).layVars Tryz.prog laid6) #[.string ⟨#[]⟩] 8 (wit_os os)
    (World.shaped_of_ZipB (by kernel_rfl) (by kernel_rfl)) (by kernel_rfl) (by kernel_rfl) (by kernel_rfl) (wit_met os _)

set_option maxRecDepth 100000 in
theorem again_c_lifted (os : Os) (started : os.Started) (H : Type) (enc : TypeId × Value → H) :
    ReturnsInHanded {} Tryz.checked os 4 .any (fun w args => (Rows.showAgainSpec.pre enc Tryz.prog Tryz.f4 [] false w args ∧ laidMetH Tryz.prog laid6 w) ∧ sizedMet enc Tryz.prog Tryz.f4 (OpenSpec.ofChange Rows.showAgainSpec) false w args)
      (Rows.showAgainSpec.post enc Tryz.prog Tryz.f4 false true false false) := by
  refine wrap started (by kernel_rfl) Tryz.func4 (again_c_wit os H enc) ?_
  intro W base args ds gs before hval0 hW _ hL hsh
  have hval : ∀ (j : Nat) t v, Tryz.f4.params[j]? = some t → args[j]? = some v → Value.okWide Tryz.prog W .any base t v := hval0
  have hW' := hW
  obtain ⟨p, q, hA0, hV, rfl, _, _⟩ := hW
  have hA : DataW.TrodAll enc Tryz.prog W 0 (fun _ => true) true Tryz.f4.params.toList args.toList ds p := hA0
  rw [Tryz.params4] at hA hval
  obtain ⟨v0, d0, rfl, rfl, h0⟩ := trodAll_one hA
  obtain ⟨rfl, rfl⟩ := trodVars_none hV
  obtain ⟨s, rfl, rfl, rfl, hs⟩ := Go.ChangeMaps.open_string Tryz.underlying9 (hval 0 9 v0 rfl rfl) h0
  simp only [List.append_nil] at hW'
  refine (law_again s W hs (vars_of hL hsh)).mono fun e W' ⟨he, hb⟩ => ?_
  subst he
  refine ⟨_, rfl, _, _, _, [], [], [], hW', trodAll_mk1 (shut_bool Tryz.underlying4 _), ?_, rfl, hb.frame _, fun h => by cases h⟩
  rw [Tryz.params4]
  exact trodAll_mk1 (Below.trod laidOut (by kernel_rfl) (by rw [tySize]; decide) h0 hb (fun x hx => by cases hx))

theorem again_c_row : Rows.ShowAgainSaid :=
  OpenClaim.holds_of_wide 4 Tryz.f4 rfl rfl rfl rfl rfl rfl rfl ⟨rfl, rfl, rfl, rfl, rfl⟩ rfl rfl rfl rfl rfl (by kernel_rfl) Tryz.func4 (by kernel_rfl)
    (of_decide_eq_true (by kernel_rfl)) (by unfold Func.isWrapper; first | (rw [if_pos (by decide +kernel)]; kernel_rfl) | (rw [if_neg (by decide +kernel)]; exact ⟨rfl, rfl⟩))
    (fun os started H enc _ => again_c_lifted os started H enc)

theorem again : Rows.ShowAgainCardSaid :=
  Claim7.holds_tied_plain_at .later [] [.data, .data, .data, .sentinel, .sentinel, .data] true (true, "3717f8e54a592282d2240aeece9e7253ae17da8a4838cdc30dcfacef19e9bb97") true again_c_row (fun _ h => by cases h) (by kernel_rfl) (fun _ h => by cases h) showAgain_row_tie rfl ⟨rfl, rfl⟩ (by kernel_rfl) rfl
    (fun f fn hf hfn => by
      obtain rfl : f = 4 := Option.some.inj ((show Tryz.prog.funcNamed "hayloft/hayloftlaw06.ShowAgain" = some 4 by kernel_rfl).symm.trans hf) |>.symm
      obtain rfl : fn = Tryz.f4 := (Option.some.inj (Tryz.func4.symm.trans hfn)).symm
      exact ⟨by kernel_rfl, fun j t ht => by
        rw [Tryz.params4] at ht
        have hm : t ∈ [9] := by simpa using Array.mem_of_getElem? ht
        have hall : ([9].all fun u => !Tryz.prog.wantsStandIn u) = true := by kernel_rfl
        exact (show Tryz.prog.wantsStandIn t = false by simpa using List.all_eq_true.1 hall t hm)⟩)
    (by kernel_rfl)

end Go.Proofs.YthjpddjfckdefaaGreatDoor.Pr
