/- The statements' own wakes answers true: two texts are read as the document's examples say. Conditions: the variables lie in memory as the program lays them. -/
import Derived.Test.YtgabnjiapkkjaaaGreatDoorFa
namespace Go.Proofs.YtgabnjiapkkjaaaGreatDoor.Tb
open Go.ChangeShapes Go.WideShapes Go.ChangeAt Go.RowKit

def text1 : List UInt8 := [97, 108, 117, 32, 50, 32, 108, 97, 116, 32, 49, 32, 98, 117, 115, 121, 32, 49, 10, 109, 117, 108, 32, 49, 32, 108, 97, 116, 32, 51, 32, 98, 117, 115, 121, 32, 50, 10, 109, 101, 109, 32, 49, 32, 108, 97, 116, 32, 50, 32, 98, 117, 115, 121, 32, 49, 10, 99, 116, 108, 32, 49, 32, 108, 97, 116, 32, 49, 32, 98, 117, 115, 121, 32, 49, 10, 100, 101, 108, 97, 121, 32, 49]
def text2 : List UInt8 := [97, 108, 117, 32, 57]
def smallV : Value := .agg #[.int .i64 2, .int .i64 1, .int .i64 1, .int .i64 1, .int .i64 1, .int .i64 3, .int .i64 2, .int .i64 1, .int .i64 1, .int .i64 2, .int .i64 1, .int .i64 1, .int .i64 1]
def smallT : Tab := ⟨fun k => if k = 0 then 2 else 1, fun k => if k = 1 then 3 else if k = 2 then 2 else 1, fun k => if k = 1 then 2 else 1, 1⟩
theorem small_val : smallT.val = smallV := by kernel_rfl
theorem text1_ok : (parseF text1).1 = none := by kernel_rfl
theorem text1_val : (parseF text1).2.val = smallV := by kernel_rfl
theorem text2_no : (parseF text2).1 = some (20, 4, [57]) := by kernel_rfl

theorem parse_any (s : ByteArray) (w : World) (hs : s.size ≤ maxLen) (hE : Env w) : Calls Tryz.prog 14 #[.string s] w (PsPost (parseF s.data.toList) w) := by
  by_cases h : 65536 < s.size
  · exact parse_long s w h hs
  · exact parse_short s w (by omega) hE

theorem parse1 (s : ByteArray) (w : World) (h : s.data.toList = text1) (hE : Env w) : Calls Tryz.prog 14 #[.string s] w fun e w' => e = .returned (.tuple #[smallV, .nilIface]) ∧ Below w.heap.size w w' := by
  refine (parse_any s w (by show s.data.toList.length ≤ _; rw [h]; decide) hE).mono ?_
  rw [h]
  rintro e w' (⟨_, h2, h3⟩ | ⟨f, q, h2, _⟩)
  · rw [text1_val] at h2; exact ⟨h2, h3⟩
  · rw [text1_ok] at h2; cases h2
theorem parse2 (s : ByteArray) (w : World) (h : s.data.toList = text2) (hE : Env w) : Calls Tryz.prog 14 #[.string s] w fun e w' => ∃ q, e = .returned (.tuple #[tab0.val, .iface 58 (.pointer (some ⟨q, 0, none⟩))]) ∧ FaultAt w' q 20 4 ⟨#[57]⟩ ∧ Below w.heap.size w w' := by
  refine (parse_any s w (by show s.data.toList.length ≤ _; rw [h]; decide) hE).mono ?_
  rw [h]
  rintro e w' (⟨h1, h2, h3⟩ | ⟨f, q, h1, h2, h3, h4, h5⟩)
  · rw [text2_no] at h1; cases h1
  · rw [text2_no] at h1; cases h1; exact ⟨q, h2, h3, h5⟩

theorem small_any (w : World) : Calls Tryz.prog 23 #[] w fun e w' => e = .returned smallV ∧ Below w.heap.size w w' := by
  go_enter Tryz.func23, Tryz.ntmps23
  go_wp2
  go_returns
  exact ⟨rfl, (Below.refl _ _).alloc (Nat.le_refl _) _⟩

end Go.Proofs.YtgabnjiapkkjaaaGreatDoor.Tb
