/- The statement's own wake-up: what the document says of two blocks: read off the program by the walk. Conditions: the variables lie in memory as the program lays them. -/
import Derived.Test.YthjpddjfckdefaaDoorSy
import Derived.Test.YthjpddjfckdefaaDoorCm
namespace Go.Proofs.YthjpddjfckdefaaDoor.Op
open Go.ChangeShapes Go.WideShapes Go.ChangeAt Go.RowKit
set_option maxRecDepth 20000

def wk1 : Bk := ⟨[⟨1, 1, 0, 0, 5⟩], 3, 1, [⟨17, 0, 1, 0, 0⟩], 1, 0⟩
def wk2 : Bk := ⟨[], 2, 1, [], 0, 0⟩
def wkL : List UInt8 := [98, 108, 111, 99, 107, 32, 48, 58, 10, 32, 32, 99, 111, 110, 115, 116, 32, 114, 49, 32, 53, 10, 32, 32, 108, 111, 111, 112, 32, 114, 49, 32, 123, 10, 32, 32, 32, 32, 112, 114, 105, 110, 116, 32, 114, 49, 10, 32, 32, 125, 10, 32, 32, 106, 117, 109, 112, 32, 49, 10, 98, 108, 111, 99, 107, 32, 49, 58, 10, 32, 32, 104, 97, 108, 116, 32, 114, 49, 10]
theorem itoa_0 : Lib.itoa 0 = [48] := by simp [Lib.itoa, Lib.decDigits]
theorem itoa_1 : Lib.itoa 1 = [49] := by simp [Lib.itoa, Lib.decDigits]
theorem itoa_5 : Lib.itoa 5 = [53] := by simp [Lib.itoa, Lib.decDigits]
theorem wk_op1 : opL ⟨1, 1, 0, 0, 5⟩ = [99, 111, 110, 115, 116, 32, 114, 49, 32, 53] := by
  rw [show opL ⟨1, 1, 0, 0, 5⟩ = [99, 111, 110, 115, 116] ++ (32 :: 114 :: Lib.itoa 1) ++ [] ++ [] ++ (32 :: Lib.itoa 5) from rfl, itoa_1, itoa_5]
  rfl
theorem wk_op2 : opL ⟨17, 0, 1, 0, 0⟩ = [112, 114, 105, 110, 116, 32, 114, 49] := by
  rw [show opL ⟨17, 0, 1, 0, 0⟩ = [112, 114, 105, 110, 116] ++ [] ++ (32 :: 114 :: Lib.itoa 1) ++ [] ++ [] from rfl, itoa_1]
  rfl
theorem wk_ck : ckP [wk1, wk2] = 0 := by decide
theorem wk_text : progL [wk1, wk2] = wkL := by
  show ([] ++ blockL 0 wk1) ++ blockL 1 wk2 = _
  unfold blockL
  rw [show endL wk1 = two [loopW, 114 :: Lib.itoa 1, [123]] ++ linesL sp4 [⟨17, 0, 1, 0, 0⟩] ++ two [[125]] ++ two [jumpW, Lib.itoa 1] from rfl, show endL wk2 = two [haltW, 114 :: Lib.itoa 1] from rfl]
  simp only [wk1, wk2, linesL, List.flatMap_cons, List.flatMap_nil, wk_op1, wk_op2, two, join_cons, join_one]
  rw [show Lib.itoa ((0 : Nat) : Int) = [48] from itoa_0, show Lib.itoa ((1 : Nat) : Int) = [49] from itoa_1, itoa_1]
  rfl
theorem wk_show : showT [wk1, wk2] = (wkL, 0) := by
  unfold showT
  rw [if_pos wk_ck, wk_text]
  rfl
theorem wk_none : showT [] = ([], 50) := by
  unfold showT
  rw [if_neg (by decide)]
  rfl
theorem wk_ok1 : wk1.Ok := by constructor <;> decide
theorem wk_ok2 : wk2.Ok := by constructor <;> decide
theorem wk_pat (w : World) : PAt ((((w.alloc (.cells #[.int .i8 1, .int .u8 1, .int .u8 0, .int .u8 0, .int .i64 5] 40)).alloc (.cells #[.int .i8 17, .int .u8 0, .int .u8 1, .int .u8 0, .int .i64 0] 40)).alloc (.cells #[.slice (some ⟨w.heap.size, 0, none⟩) 1 1, .int .i8 3, .int .u8 1, .slice (some ⟨w.heap.size + 1, 0, none⟩) 1 1, .int .i64 1, .int .i64 0, .slice none 0 0, .int .i8 2, .int .u8 1, .slice none 0 0, .int .i64 0, .int .i64 0] 35)).alloc (.cells #[.slice (some ⟨w.heap.size + 1 + 1, 0, none⟩) 2 2] 24)) (some ⟨w.heap.size + 1 + 1, 0, none⟩) [wk1, wk2] := by
  have a0 := (((At.new w #[.int .i8 1, .int .u8 1, .int .u8 0, .int .u8 0, .int .i64 5] 40).alloc (.cells #[.int .i8 17, .int .u8 0, .int .u8 1, .int .u8 0, .int .i64 0] 40)).alloc (.cells #[.slice (some ⟨w.heap.size, 0, none⟩) 1 1, .int .i8 3, .int .u8 1, .slice (some ⟨w.heap.size + 1, 0, none⟩) 1 1, .int .i64 1, .int .i64 0, .slice none 0 0, .int .i8 2, .int .u8 1, .slice none 0 0, .int .i64 0, .int .i64 0] 35)).alloc (.cells #[.slice (some ⟨w.heap.size + 1 + 1, 0, none⟩) 2 2] 24)
  have a1 := ((At.new' (w.alloc (.cells #[.int .i8 1, .int .u8 1, .int .u8 0, .int .u8 0, .int .i64 5] 40)) #[.int .i8 17, .int .u8 0, .int .u8 1, .int .u8 0, .int .i64 0] 40 (w.heap.size + 1) (by simp)).alloc (.cells #[.slice (some ⟨w.heap.size, 0, none⟩) 1 1, .int .i8 3, .int .u8 1, .slice (some ⟨w.heap.size + 1, 0, none⟩) 1 1, .int .i64 1, .int .i64 0, .slice none 0 0, .int .i8 2, .int .u8 1, .slice none 0 0, .int .i64 0, .int .i64 0] 35)).alloc (.cells #[.slice (some ⟨w.heap.size + 1 + 1, 0, none⟩) 2 2] 24)
  have a2 := (At.new' ((w.alloc (.cells #[.int .i8 1, .int .u8 1, .int .u8 0, .int .u8 0, .int .i64 5] 40)).alloc (.cells #[.int .i8 17, .int .u8 0, .int .u8 1, .int .u8 0, .int .i64 0] 40)) #[.slice (some ⟨w.heap.size, 0, none⟩) 1 1, .int .i8 3, .int .u8 1, .slice (some ⟨w.heap.size + 1, 0, none⟩) 1 1, .int .i64 1, .int .i64 0, .slice none 0 0, .int .i8 2, .int .u8 1, .slice none 0 0, .int .i64 0, .int .i64 0] 35 (w.heap.size + 1 + 1) (by simp)).alloc (.cells #[.slice (some ⟨w.heap.size + 1 + 1, 0, none⟩) 2 2] 24)
  have o1 : O.Ok ⟨1, 1, 0, 0, 5⟩ := by constructor <;> decide
  have o2 : O.Ok ⟨17, 0, 1, 0, 0⟩ := by constructor <;> decide
  have none0 : ∀ V : World, OpsAt V none [] := fun V => ⟨by simp, by simp, fun h => by simp at h⟩
  refine ⟨by decide, fun _ => ⟨w.heap.size + 1 + 1, 0, rfl, a2.lt, fun i hi => ?_⟩⟩
  have hi2 : i = 0 ∨ i = 1 := by simp at hi; omega
  rcases hi2 with rfl | rfl
  · refine ⟨⟨some ⟨w.heap.size, 0, none⟩, 1, some ⟨w.heap.size + 1, 0, none⟩, 1⟩, ⟨a2.c 0 _ rfl, a2.c 1 _ rfl, a2.c 2 _ rfl, a2.c 3 _ rfl, a2.c 4 _ rfl, a2.c 5 _ rfl⟩, ⟨wk_ok1, opsAt_one a0 o1, opsAt_one a1 o2⟩⟩
  · exact ⟨⟨none, 0, none, 0⟩, ⟨a2.c 6 _ rfl, a2.c 7 _ rfl, a2.c 8 _ rfl, a2.c 9 _ rfl, a2.c 10 _ rfl, a2.c 11 _ rfl⟩, ⟨wk_ok2, none0 _, none0 _⟩⟩
theorem wkL_arr : (⟨wkL.toArray⟩ : ByteArray) = ⟨([98, 108, 111, 99, 107, 32, 48, 58, 10, 32, 32, 99, 111, 110, 115, 116, 32, 114, 49, 32, 53, 10, 32, 32, 108, 111, 111, 112, 32, 114, 49, 32, 123, 10, 32, 32, 32, 32, 112].append [114, 105, 110, 116, 32, 114, 49, 10, 32, 32, 125, 10, 32, 32, 106, 117, 109, 112, 32, 49, 10, 98, 108, 111, 99, 107, 32, 49, 58, 10, 32, 32, 104, 97, 108, 116, 32, 114, 49, 10]).toArray⟩ := rfl
set_option maxHeartbeats 1000000 in
theorem wakes_any (w : World) (hE : Env w) (hP : Pow w) : Calls Tryd.prog 6 #[] w fun e w' => e = .returned (.bool true) ∧ Below w.heap.size w w' := by
  have hb0 : Below w.heap.size w ((((w.alloc (.cells #[.int .i8 1, .int .u8 1, .int .u8 0, .int .u8 0, .int .i64 5] 40)).alloc (.cells #[.int .i8 17, .int .u8 0, .int .u8 1, .int .u8 0, .int .i64 0] 40)).alloc (.cells #[.slice (some ⟨w.heap.size, 0, none⟩) 1 1, .int .i8 3, .int .u8 1, .slice (some ⟨w.heap.size + 1, 0, none⟩) 1 1, .int .i64 1, .int .i64 0, .slice none 0 0, .int .i8 2, .int .u8 1, .slice none 0 0, .int .i64 0, .int .i64 0] 35)).alloc (.cells #[.slice (some ⟨w.heap.size + 1 + 1, 0, none⟩) 2 2] 24)) := by go_grown
  have H1 : Hid (Calls Tryd.prog 5 #[.agg #[.slice (some ⟨w.heap.size + 1 + 1, 0, none⟩) 2 2]] ((((w.alloc (.cells #[.int .i8 1, .int .u8 1, .int .u8 0, .int .u8 0, .int .i64 5] 40)).alloc (.cells #[.int .i8 17, .int .u8 0, .int .u8 1, .int .u8 0, .int .i64 0] 40)).alloc (.cells #[.slice (some ⟨w.heap.size, 0, none⟩) 1 1, .int .i8 3, .int .u8 1, .slice (some ⟨w.heap.size + 1, 0, none⟩) 1 1, .int .i64 1, .int .i64 0, .slice none 0 0, .int .i8 2, .int .u8 1, .slice none 0 0, .int .i64 0, .int .i64 0] 35)).alloc (.cells #[.slice (some ⟨w.heap.size + 1 + 1, 0, none⟩) 2 2] 24)) fun e w' => e = .returned (.tuple #[.string ⟨wkL.toArray⟩, .int .i64 0]) ∧ Below w.heap.size w w') := by
    have h := text_any (some ⟨w.heap.size + 1 + 1, 0, none⟩) 2 [wk1, wk2] _ (wk_pat w) (hE.up hb0) (hP.bl hb0)
    rw [wk_show] at h
    exact h.mono fun e w' hh => ⟨hh.1, hb0.trans (hh.2.mono hb0.size)⟩
  have H2 : Hid (∀ W, Below w.heap.size w W → Calls Tryd.prog 5 #[.agg #[.slice none 0 0]] W fun e w' => e = .returned (.tuple #[.string ⟨#[]⟩, .int .i64 50]) ∧ Below W.heap.size W w') := fun W hb => by
    have h := text_any none 0 [] W (pAt_nil _ _) (hE.up hb) (hP.bl hb)
    rw [wk_none] at h
    exact h
  clear hE hP hb0
  rw [wkL_arr] at H1
  go_enter Tryd.func6, Tryd.ntmps6
  go_wp2_with (first
    | (go_at_call_of 5 (Value.agg #[.slice none 0 0]); refine Calls.mono (H2.out _ HB.out) ?_; rintro e w2 ⟨rfl, hb⟩; have HC : Hid _ := HB.out.trans (hb.mono HB.out.size); clear hb)
    | (go_at_call 5; refine Calls.mono H1.out ?_; rintro e w1 ⟨rfl, hb⟩; have HB : Hid _ := hb; clear hb H1))
  go_ret
  exact ⟨rfl, HC.out⟩
end Go.Proofs.YthjpddjfckdefaaDoor.Op
