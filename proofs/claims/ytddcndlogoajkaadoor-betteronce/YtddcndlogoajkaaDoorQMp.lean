/- A set of pairs of blocks, as a map whose keys are arrays: whether a pair is there; a pair more. Conditions: the numbers are small. -/
import Derived.Test.YtddcndlogoajkaaDoorQTb
import Derived.Maps.RangeWalk
import Derived.Maps.OwnSet
import Derived.Maps.OwnOps
import Derived.WideKeyPair
namespace Go.Proofs.YtddcndlogoajkaaDoor.L8.Fl
open Go.ChangeShapes Go.WideShapes Go.ChangeAt Go.RowKit Go.Maps
open _root_.Go.Proofs.YtddcndlogoajkaaDoor.L8.So _root_.Go.Proofs.YtddcndlogoajkaaDoor.L8.Ss _root_.Go.Proofs.YtddcndlogoajkaaDoor.L8.Op
set_option maxRecDepth 20000

theorem arr52 : WideMaps.ArrKey Tryd.prog 105 3 2 := ⟨by kernel_rfl, by kernel_rfl, by kernel_rfl, by kernel_rfl⟩
theorem law52 : Keyed Tryd.prog 105 := Keyed.of_law arr52.law
theorem types_pos : ∃ m, Tryd.prog.types.size = m + 1 := ⟨Tryd.prog.types.size - 1, by
  have : 0 < Tryd.prog.types.size := Nat.lt_of_lt_of_le (by decide : 0 < 1) (Nat.le_of_ble_eq_true (by kernel_rfl))
  omega⟩
/-- What a pair reads as. -/
def kl (p : Nat × Nat) : Lit := .string (keyBytes [.int .i64 (p.1 : Int), .int .i64 (p.2 : Int)])
theorem wfS {n : Nat} (h : n < 1000) : (Lit.int .i64 (n : Int)).wf = true := by
  simp [Lit.wf, IntKind.min, IntKind.max, IntKind.signed, IntKind.bits]; omega
theorem key_pair {x y : Nat} (hx : x < 1000) (hy : y < 1000) : keyOf Tryd.prog 105 (.agg #[.int .i64 (x : Int), .int .i64 (y : Int)]) = some (kl (x, y)) :=
  WideMaps.keyOf_pair arr52 Tryd.underlying3 types_pos (wfS hx) (wfS hy)
theorem kl_inj {p q : Nat × Nat} (hp : p.1 < 1000 ∧ p.2 < 1000) (hq : q.1 < 1000 ∧ q.2 < 1000) (h : kl p = kl q) : p = q := by
  unfold kl at h
  injection h with h
  have := keyBytes_inj (l := [.int .i64 (p.1 : Int), .int .i64 (p.2 : Int)]) (l' := [.int .i64 (q.1 : Int), .int .i64 (q.2 : Int)]) ⟨rfl, rfl, trivial⟩
    (fun a ha => by simp at ha; rcases ha with rfl | rfl <;> exact wfS (by omega)) (fun a ha => by simp at ha; rcases ha with rfl | rfl <;> exact wfS (by omega)) h
  simp at this
  obtain ⟨a, b⟩ := p
  obtain ⟨c, d⟩ := q
  simp at this ⊢
  omega
theorem kl_key (p : Nat × Nat) : WideAt.IsKeyLit (kl p) := by
  unfold kl
  first | exact .string _ | exact trivial | simp [WideAt.IsKeyLit]
/-- All pairs are small. -/
def Sm (L : List (Nat × Nat)) : Prop := ∀ p ∈ L, p.1 < 1000 ∧ p.2 < 1000
/-- The set as a datum. -/
def setD (L : List (Nat × Nat)) : DataW Unit := setOf (.agg []) (L.map kl)
theorem setD_has {L : List (Nat × Nat)} (hL : Sm L) {p : Nat × Nat} (hp : p.1 < 1000 ∧ p.2 < 1000) : Maps.has (setD L) (kl p) = decide (p ∈ L) := by
  unfold setD
  rw [has_setOf _ _ _ (fun x hx => by obtain ⟨q, _, rfl⟩ := List.mem_map.1 hx; exact kl_key q)]
  rw [Bool.eq_iff_iff]
  simp only [List.any_eq_true, List.mem_map, decide_eq_true_eq]
  constructor
  · rintro ⟨x, ⟨q, hq, rfl⟩, hx⟩
    have := kl_inj (hL q hq) hp (WideAt.sameKey_eq hx)
    rw [← this]; exact hq
  · intro h
    exact ⟨kl p, ⟨p, h, rfl⟩, WideAt.sameKey_self (kl_key p)⟩
theorem setD_snoc (L : List (Nat × Nat)) (p : Nat × Nat) : setD (L ++ [p]) = (setD L).put (kl p) (.agg []) := by
  unfold setD
  rw [List.map_append, List.map_singleton, setOf_snoc]
/-- The map in memory holds just these pairs. -/
structure Mp (w : World) (mb : Nat) (L : List (Nat × Nat)) : Prop where
  own : w.ownsMap Tryd.prog 105 (unitElem (H := Unit)) mb L.length (setD L)
  sm : Sm L
theorem Mp.kept {w w' : World} {mb : Nat} {L : List (Nat × Nat)} (h : Mp w mb L) (hb : Below w.heap.size w w') : Mp w' mb L :=
  ⟨h.own.kept (row := none) ⟨hb.os, hb.tape, hb.output, hb.size, fun k hk _ => hb.block k hk⟩ (by simp), h.sm⟩
theorem Mp.fr {X : Nat → Prop} {w w' : World} {mb : Nat} {L : List (Nat × Nat)} (h : Mp w mb L) (hF : Fr X w w') (hX : ¬ X mb) : Mp w' mb L := by
  have hlt := h.own.lt
  obtain ⟨es, clock, h1, h2, h3⟩ := h.own
  exact ⟨⟨es, clock, by rw [hF.block mb hlt hX]; exact h1, h2, h3⟩, h.sm⟩
theorem zero57 (w : World) : (zeroValue 87).run Tryd.prog w = .ok (.agg #[]) w := by kernel_rfl

theorem has_any (mb : Nat) (x y : Nat) (L : List (Nat × Nat)) (w : World) (h : Mp w mb L) (hx : x < 1000) (hy : y < 1000) :
    Calls Tryd.prog 64 #[.map (some mb), .int .i64 (x : Int), .int .i64 (y : Int)] w fun e w' => e = .returned (.bool (decide ((x, y) ∈ L))) ∧ Below w.heap.size w w' := by
  have hR : Hid (decide ((x, y) ∈ L) = Maps.has (setD L) (kl (x, y))) := (setD_has h.sm ⟨hx, hy⟩).symm
  have HK : Hid _ := key_pair hx hy
  have HM : Hid _ := h.own
  clear h hx hy
  go_enter Tryd.func64, Tryd.ntmps64
  go_wp2_with (first | (at_lookup; refine wpList_lookup_own_unit _ rfl _ _ 102 rfl 105 87 law52 Tryd.underlying102 (zero57 _) mb _ _ rfl HM.out _ _ rfl HK.out ?_) | go_in)
  go_ret
  exact ⟨ret_bool hR.out.symm, by go_grown⟩
end Go.Proofs.YtddcndlogoajkaaDoor.L8.Fl
