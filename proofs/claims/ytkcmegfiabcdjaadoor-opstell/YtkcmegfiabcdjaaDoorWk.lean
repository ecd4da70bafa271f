/- What the document says of a few operations (wakes) holds, and two of the laws out of it (OpsReckon, OpsSum), read off the program by the walk. Conditions: the table of powers lies in memory; numbers of 64 bits. -/
import Derived.Test.YtkcmegfiabcdjaaDoorTe
import Derived.Test.YtkcmegfiabcdjaaDoorRk
namespace Go.Proofs.YtkcmegfiabcdjaaDoor.Op
open Go.ChangeShapes Go.WideShapes Go.ChangeAt Go.RowKit
set_option maxRecDepth 20000

def oLoad : O := ⟨15, 1, 2, 0, -8⟩
def oAdd : O := ⟨2, 0, 0, 0, 1⟩
def kLoad : K := ⟨[108, 111, 97, 100], 2, true, true, false, false, true⟩
theorem load_text : textL kLoad oLoad = [108, 111, 97, 100, 32, 114, 49, 32, 114, 50, 32, 45, 56] := by
  have h1 : Lib.itoa 1 = [49] := by simp [Lib.itoa, Lib.decDigits]
  have h2 : Lib.itoa 2 = [50] := by simp [Lib.itoa, Lib.decDigits]
  have h8 : Lib.itoa (-8) = [45, 56] := by simp [Lib.itoa, Lib.decDigits]
  simp [textL, pD, pA, pB, pI, kLoad, oLoad, h1, h2, h8]
theorem wakes_any (w : World) (hE : Env w) : Calls Tryd.prog 18 #[] w fun e w' => e = .returned (.bool true) ∧ Below w.heap.size w w' := by
  have HT : Hid (Calls Tryd.prog 7 #[.agg #[.int .i8 15, .int .u8 1, .int .u8 2, .int .u8 0, .int .i64 (-8)]] w fun e w' => e = .returned (.tuple #[.string ⟨#[108, 111, 97, 100, 32, 114, 49, 32, 114, 50, 32, 45, 56]⟩, .int .i64 0]) ∧ Below w.heap.size w w') := by
    have h := text_yes oLoad kLoad w hE ⟨by decide, by decide, by decide, by decide, by decide, by decide, by decide, by decide, by decide, by decide⟩ rfl rfl
    rw [load_text] at h
    exact h
  have HR : Hid (∀ w, Calls Tryd.prog 19 #[.int .i8 8, .int .i64 (-8), .int .i64 65] w fun e w' => e = .returned (.tuple #[.int .i64 (-4), .int .i64 0]) ∧ w' = w) := fun w => rk8 (-8) 65 w
  have HC : Hid (∀ w, Calls Tryd.prog 13 #[.agg #[.int .i8 2, .int .u8 0, .int .u8 0, .int .u8 0, .int .i64 1]] w fun e w' => e = .returned (.int .i64 30) ∧ Below w.heap.size w w') := fun w =>
    check_any oAdd w ⟨by decide, by decide, by decide, by decide, by decide, by decide, by decide, by decide, by decide, by decide⟩
  clear hE
  go_enter Tryd.func18, Tryd.ntmps18
  go_wp2_with (first | (go_at_call 7; refine Calls.mono HT.out ?_; rintro e w1 ⟨rfl, hb⟩; have HB : Hid (Below w.heap.size w w1) := hb; clear hb) | (go_at_call 19; refine Calls.mono (HR.out _) ?_; rintro e w1 ⟨rfl, rfl⟩) | (go_at_call 13; refine Calls.mono (HC.out _) ?_; rintro e w2 ⟨rfl, hb2⟩))
  go_ret
  exact ⟨rfl, HB.out.trans (hb2.mono HB.out.size)⟩

theorem law_reckon (d a b : Int) (w : World) (h1 : -9223372036854775808 ≤ a) (h2 : a ≤ 9223372036854775807) (hE : Env w) :
    Calls Tryd.prog 4 #[.int .i8 d, .int .i64 a, .int .i64 b] w fun e w' => e = .returned (.bool true) ∧ Below w.heap.size w w' := by
  have HA : Hid _ := rk_any d a b w h1 h2
  have HB : Hid _ := rf_any d a b w h1 h2
  have HW : Hid _ := wakes_any w hE
  clear h1 h2 hE
  generalize rkV d a b = v at *
  generalize rkE d b = u at *
  go_enter Tryd.func4, Tryd.ntmps4
  go_wp2_with (first | (go_at_call 19; refine Calls.mono HA.out ?_; rintro e w1 ⟨rfl, rfl⟩) | (go_at_call 20; refine Calls.mono HB.out ?_; rintro e w1 ⟨rfl, rfl⟩) | (go_at_call 18; refine Calls.mono HW.out ?_; rintro e w2 ⟨rfl, hb⟩))
  go_ret
  exact ⟨rfl, hb⟩
end Go.Proofs.YtkcmegfiabcdjaaDoor.Op
