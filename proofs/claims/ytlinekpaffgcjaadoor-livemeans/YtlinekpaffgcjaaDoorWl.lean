/- Two blocks, the first a loop: what is into them, ahead of their ends and operations. Plain mathematics over the program's own answers. Conditions: none. -/
import Derived.Test.YtlinekpaffgcjaaDoorVg
namespace Go.Proofs.YtlinekpaffgcjaaDoor.Li
open Go.ChangeShapes Go.WideShapes Go.ChangeAt Go.RowKit Go.Maps
open _root_.Go.Proofs.YtlinekpaffgcjaaDoor.So _root_.Go.Proofs.YtlinekpaffgcjaaDoor.Op _root_.Go.Proofs.YtlinekpaffgcjaaDoor.Fl _root_.Go.Proofs.YtlinekpaffgcjaaDoor.Lv
set_option maxRecDepth 20000

def wko : O := ⟨2, 1, 1, 2, 0⟩
def wk2 : List Bk := [⟨[], 3, 4, [wko], 1, 0⟩, ⟨[], 2, 1, [], 0, 0⟩]
theorem wk2_len : wk2.length = 2 := rfl
theorem wk2_ck : ckP wk2 = 0 := by decide
theorem wko_w : wOf wko = ⟨[1, 2], some 1⟩ := by
  have h1 : rdL wko = [1, 2] := by decide
  have h2 : wrB wko = true := by decide
  unfold wOf
  rw [h1, h2]; rfl
theorem wk2_pb : PB wk2 = [⟨[], [⟨[1, 2], some 1⟩], .loop 4 1⟩, ⟨[], [], .halt 1⟩] := by
  show [bOf ⟨[], 3, 4, [wko], 1, 0⟩, bOf ⟨[], 2, 1, [], 0, 0⟩] = _
  simp only [bOf, List.map_cons, List.map_nil, wko_w]
  rfl
theorem wko_ok : wko.Ok := by unfold wko; constructor <;> decide
theorem wk2_ok : PsOk wk2 := fun x hx => by
  simp only [wk2, List.mem_cons, List.not_mem_nil, or_false] at hx
  rcases hx with rfl | rfl
  · exact ⟨by constructor <;> decide, fun o ho => by simp at ho, fun o ho => by simp at ho; subst ho; exact wko_ok⟩
  · exact ⟨by constructor <;> decide, fun o ho => by simp at ho, fun o ho => by simp at ho⟩
theorem bits22 : ∀ r, (22 : Nat).testBit r = true → r = 1 ∨ r = 2 ∨ r = 4 := fun r h => by
  by_cases hr : r < 5
  · revert h
    have : r = 0 ∨ r = 1 ∨ r = 2 ∨ r = 3 ∨ r = 4 := by omega
    rcases this with rfl | rfl | rfl | rfl | rfl <;> decide
  · rw [Nat.testBit_lt_two_pow (Nat.lt_of_lt_of_le (by decide : 22 < 2 ^ 5) (Nat.pow_le_pow_right (by decide) (by omega)))] at h
    cases h
theorem bits2 : ∀ r, (2 : Nat).testBit r = true → r = 1 := fun r h => by
  by_cases hr : r < 2
  · revert h
    have : r = 0 ∨ r = 1 := by omega
    rcases this with rfl | rfl <;> decide
  · rw [Nat.testBit_lt_two_pow (Nat.lt_of_lt_of_le (by decide : 2 < 2 ^ 2) (Nat.pow_le_pow_right (by decide) (by omega)))] at h
    cases h
theorem wk2_is : IsIn wk2 [22, 2] := by
  refine ⟨fun _ => ⟨⟨by rw [wk2_pb]; rfl, fun t => ?_, fun t r h => ?_⟩, fun i k hk => ?_⟩, fun hn => absurd wk2_ck hn⟩
  · match t with
    | 0 => decide
    | 1 => decide
    | t + 2 => simp [inN]
  · rw [wk2_pb]
    match t with
    | 0 =>
      rcases bits22 r h with rfl | rfl | rfl
      · exact .here rfl (.inr ⟨rfl, by decide⟩)
      · exact .here rfl (.inr ⟨rfl, by decide⟩)
      · exact .here rfl (.inr ⟨rfl, by decide⟩)
    | 1 =>
      obtain rfl := bits2 r h
      exact .here rfl (.inr ⟨rfl, by decide⟩)
    | t + 2 => simp [bitN, inN] at h
  · rw [wk2_pb] at hk
    match i with
    | 0 => cases hk; unfold Lv.Shut; decide
    | 1 => cases hk; unfold Lv.Shut; decide
    | i + 2 => simp at hk
theorem wk2_in : inL wk2 = [22, 2] := (inL_eq wk2_ok wk2_is).symm
theorem wk2_out : outL wk2 [22, 2] = [22, 2] := by
  unfold outL
  rw [if_pos wk2_ck]
  have h := wk2_pb
  simp only [wk2, List.map_cons, List.map_nil, List.cons.injEq, and_true] at h ⊢
  rw [h.1, h.2]
  decide
theorem wk2_at1 : atN wk2 [22, 2] 1 0 = 2 := by
  unfold atN
  rw [if_pos ⟨wk2_ck, by decide, by decide⟩]
  have h := wk2_pb
  simp only [wk2, List.map_cons, List.map_nil, List.cons.injEq, and_true] at h
  show (if 0 ≤ (0 : Int) ∧ (0 : Int) ≤ ((([] : List O).length : Nat) : Int) then aheadNL ((([] : List O).drop (0 : Int).toNat).map wOf) (endN (bOf ⟨[], 2, 1, [], 0, 0⟩) [22, 2]) else 0) = 2
  rw [if_pos (by decide), h.2]
  decide
theorem wk2_at2 : atN wk2 [22, 2] 2 0 = 0 := by
  unfold atN
  rw [if_neg (fun h => absurd h.2.2 (by decide))]
theorem ops_nil (w : World) (a : Option Addr) : OpsAt w a [] := ⟨fun o h => by simp at h, by simp, fun h => by simp at h⟩
theorem wk2_pat (w : World) : PAt (((w.alloc (.cells #[.int .i8 2, .int .u8 1, .int .u8 1, .int .u8 2, .int .i64 0] 51)).alloc (.cells #[.slice none 0 0, .int .i8 3, .int .u8 4, .slice (some ⟨w.heap.size, 0, none⟩) 1 1, .int .i64 1, .int .i64 0, .slice none 0 0, .int .i8 2, .int .u8 1, .slice none 0 0, .int .i64 0, .int .i64 0] 47)).alloc (.cells #[.slice (some ⟨w.heap.size + 1, 0, none⟩) 2 2] 24)) (some ⟨w.heap.size + 1, 0, none⟩) wk2 := by
  have a0 := ((Op.At.new w #[.int .i8 2, .int .u8 1, .int .u8 1, .int .u8 2, .int .i64 0] 51).alloc (.cells #[.slice none 0 0, .int .i8 3, .int .u8 4, .slice (some ⟨w.heap.size, 0, none⟩) 1 1, .int .i64 1, .int .i64 0, .slice none 0 0, .int .i8 2, .int .u8 1, .slice none 0 0, .int .i64 0, .int .i64 0] 47)).alloc (.cells #[.slice (some ⟨w.heap.size + 1, 0, none⟩) 2 2] 24)
  have a1 := (At.new' (w.alloc (.cells #[.int .i8 2, .int .u8 1, .int .u8 1, .int .u8 2, .int .i64 0] 51)) #[.slice none 0 0, .int .i8 3, .int .u8 4, .slice (some ⟨w.heap.size, 0, none⟩) 1 1, .int .i64 1, .int .i64 0, .slice none 0 0, .int .i8 2, .int .u8 1, .slice none 0 0, .int .i64 0, .int .i64 0] 47 (w.heap.size + 1) (by simp)).alloc (.cells #[.slice (some ⟨w.heap.size + 1, 0, none⟩) 2 2] 24)
  generalize ((w.alloc (.cells #[.int .i8 2, .int .u8 1, .int .u8 1, .int .u8 2, .int .i64 0] 51)).alloc (.cells #[.slice none 0 0, .int .i8 3, .int .u8 4, .slice (some ⟨w.heap.size, 0, none⟩) 1 1, .int .i64 1, .int .i64 0, .slice none 0 0, .int .i8 2, .int .u8 1, .slice none 0 0, .int .i64 0, .int .i64 0] 47)).alloc (.cells #[.slice (some ⟨w.heap.size + 1, 0, none⟩) 2 2] 24) = V at *
  refine ⟨by decide, fun _ => ⟨w.heap.size + 1, 0, rfl, a1.lt, fun i hi => ?_⟩⟩
  have : i = 0 ∨ i = 1 := by rw [wk2_len] at hi; omega
  rcases this with rfl | rfl
  · refine ⟨⟨none, 0, some ⟨w.heap.size, 0, none⟩, 1⟩, ⟨a1.c 0 _ rfl, a1.c 1 _ rfl, a1.c 2 _ rfl, a1.c 3 _ rfl, a1.c 4 _ rfl, a1.c 5 _ rfl⟩, (wk2_ok _ (List.getElem_mem hi)).1, ops_nil _ _, opsAt_one a0 wko_ok, Nat.le_refl 0⟩
  · refine ⟨⟨none, 0, none, 0⟩, ⟨a1.c 6 _ rfl, a1.c 7 _ rfl, a1.c 8 _ rfl, a1.c 9 _ rfl, a1.c 10 _ rfl, a1.c 11 _ rfl⟩, (wk2_ok _ (List.getElem_mem hi)).1, ops_nil _ _, ops_nil _ _, Nat.le_refl 0⟩
end Go.Proofs.YtlinekpaffgcjaaDoor.Li
