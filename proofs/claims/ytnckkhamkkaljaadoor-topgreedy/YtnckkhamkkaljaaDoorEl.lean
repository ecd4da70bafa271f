/- Loop, and what the statements wake by (wakes), read off the program by the walk. Conditions: the list lies in memory, the variables as the program lays them. -/
import Derived.Test.YtnckkhamkkaljaaDoorEk
namespace Go.Proofs.YtnckkhamkkaljaaDoor.Dp
open Go.ChangeShapes Go.WideShapes Go.ChangeAt Go.RowKit
open _root_.Go.Proofs.YtnckkhamkkaljaaDoor.Op _root_.Go.Proofs.YtnckkhamkkaljaaDoor.So
open _root_.Go.Proofs.YtnckkhamkkaljaaDoor.Tb (Tab TabAt Bnds)
set_option maxRecDepth 20000

theorem eOwn_at {B c : Nat} {w : World} {a : Option Addr} {es : List Ed} (h : EOwn B w a c es) {k : Nat} (hk : k < es.length) :
    ∃ b, a = some ⟨b, 0, none⟩ ∧ b < w.heap.size ∧ B ≤ b ∧ w.cell? ⟨b, k * 5, none⟩ = some (.int .i64 es[k].f) ∧ w.cell? ⟨b, k * 5 + 1, none⟩ = some (.int .i64 es[k].t) ∧ w.cell? ⟨b, k * 5 + 2, none⟩ = some (.int .i64 es[k].l) ∧ w.cell? ⟨b, k * 5 + 3, none⟩ = some (.int .i64 es[k].d) ∧ w.cell? ⟨b, k * 5 + 4, none⟩ = some (.int .i8 es[k].y) := by
  have h0 : w.ownsRow B 42 5 (.slice a es.length c) es.length (ecells es) := h
  rcases h0.2 with ⟨-, e⟩ | ⟨b, cap, cur, e, g1, -⟩
  · omega
  · injection e with e1 e2 e3
    subst e1
    have hb := (h0.lt b rfl).2
    have k5 : ∀ j, j < 5 → w.cell? ⟨b, k * 5 + j, none⟩ = es[k].cells[j]? := fun j hj => by
      rw [h0.cellAt _ (by have : k * 5 + j < (k + 1) * 5 := by omega
                          exact Nat.lt_of_lt_of_le this (Nat.mul_le_mul_right 5 hk)), ecells_at es k hk j hj]
    exact ⟨b, rfl, hb, g1, k5 0 (by omega), k5 1 (by omega), k5 2 (by omega), k5 3 (by omega), k5 4 (by omega)⟩
theorem EOwn.up {B c : Nat} {w w' : World} {a : Option Addr} {es : List Ed} (h : EOwn B w a c es) (hb : Below w.heap.size w w') : EOwn B w' a c es := row_up h hb
/-- The list and the table that the statements wake by. -/
def wl : List O := [⟨1, 1, 0, 0, 0⟩, ⟨12, 2, 1, 1, 0⟩, ⟨2, 1, 2, 1, 0⟩, ⟨17, 0, 1, 0, 0⟩]
def wt4 : Tab := ⟨fun _ => 1, fun k => if k = 1 then 3 else if k = 2 then 2 else 1, fun _ => 1, 0⟩
theorem wl_ok : ∀ o ∈ wl, o.Ok := fun o h => by
  simp only [wl, List.mem_cons, List.not_mem_nil, or_false] at h
  rcases h with rfl | rfl | rfl | rfl <;> constructor <;> decide
theorem wl_lis : lisE wt4 wl = 0 := by decide
theorem wl_len : (ofE wt4 wl).length = 6 := by kernel_rfl
theorem wl_0 : (ofE wt4 wl)[0]? = some ⟨0, 1, 1, 0, 0⟩ := by kernel_rfl
theorem wl_3 : (ofE wt4 wl)[3]? = some ⟨1, 2, 3, 0, 0⟩ := by kernel_rfl
abbrev wlC : Array Value := #[.int .i8 1, .int .u8 1, .int .u8 0, .int .u8 0, .int .i64 0, .int .i8 12, .int .u8 2, .int .u8 1, .int .u8 1, .int .i64 0, .int .i8 2, .int .u8 1, .int .u8 2, .int .u8 1, .int .i64 0, .int .i8 17, .int .u8 0, .int .u8 1, .int .u8 0, .int .i64 0]
theorem wl_at (w : World) (t : TypeId) : OpsAt (w.alloc (.cells wlC t)) (some ⟨w.heap.size, 0, none⟩) wl := by
  have h := At.new w wlC t
  refine ⟨wl_ok, by decide, fun _ => ⟨w.heap.size, 0, rfl, h.lt, fun i hi => ?_⟩⟩
  have hi : i < 4 := hi
  match i, hi with
  | 0, _ => exact ⟨h.c 0 _ rfl, h.c 1 _ rfl, h.c 2 _ rfl, h.c 3 _ rfl, h.c 4 _ rfl⟩
  | 1, _ => exact ⟨h.c 5 _ rfl, h.c 6 _ rfl, h.c 7 _ rfl, h.c 8 _ rfl, h.c 9 _ rfl⟩
  | 2, _ => exact ⟨h.c 10 _ rfl, h.c 11 _ rfl, h.c 12 _ rfl, h.c 13 _ rfl, h.c 14 _ rfl⟩
  | 3, _ => exact ⟨h.c 15 _ rfl, h.c 16 _ rfl, h.c 17 _ rfl, h.c 18 _ rfl, h.c 19 _ rfl⟩
end Go.Proofs.YtnckkhamkkaljaaDoor.Dp
