/- The ring of a block, read off the map by the walk. Conditions: the map lies in memory. -/
import Derived.Test.YtfdmahilgemlaaaDoorGr
namespace Go.Proofs.YtfdmahilgemlaaaDoor.Fl
open Go.ChangeShapes Go.WideShapes Go.ChangeAt Go.RowKit Go.Maps
open _root_.Go.Proofs.YtfdmahilgemlaaaDoor.So _root_.Go.Proofs.YtfdmahilgemlaaaDoor.Ss _root_.Go.Proofs.YtfdmahilgemlaaaDoor.Op _root_.Go.Proofs.YtfdmahilgemlaaaDoor.Fw
set_option maxRecDepth 20000

/-- The blocks below k that stand with i both ways. -/
def ringTo (L : List (Nat × Nat)) (i k : Nat) : List Int := ((List.range k).filter fun j => decide ((i, j) ∈ L) && decide ((j, i) ∈ L)).map fun (j : Nat) => (j : Int)
theorem ringTo_yes {L : List (Nat × Nat)} {i k : Nat} (h1 : (i, k) ∈ L) (h2 : (k, i) ∈ L) : ringTo L i (k + 1) = ringTo L i k ++ [(k : Int)] := by
  unfold ringTo
  rw [List.range_succ, List.filter_append, List.map_append]
  simp [h1, h2]
theorem ringTo_no {L : List (Nat × Nat)} {i k : Nat} (h : ¬ (i, k) ∈ L ∨ ¬ (k, i) ∈ L) : ringTo L i (k + 1) = ringTo L i k := by
  unfold ringTo
  rw [List.range_succ, List.filter_append, List.map_append]
  rcases h with h | h <;> simp [h]
theorem ringTo_len (L : List (Nat × Nat)) (i k : Nat) : (ringTo L i k).length ≤ k := by
  unfold ringTo
  rw [List.length_map]
  have := List.length_filter_le (fun j => decide ((i, j) ∈ L) && decide ((j, i) ∈ L)) (List.range k)
  simpa using this
/-- A row of numbers under way, and the map. -/
structure Rn (w wr : World) (mb : Nat) (L : List (Nat × Nat)) (v : Value) (acc : List Int) : Prop where
  row : wr.ownsRow w.heap.size 3 1 v acc.length (acc.map fun y => Value.int .i64 y)
  b : Below w.heap.size w wr
  m : Mp wr mb L
theorem Rn.go {w wr w' : World} {mb : Nat} {L : List (Nat × Nat)} {v : Value} {acc : List Int} (h : Rn w wr mb L v acc) (hb : Below wr.heap.size wr w') : Rn w w' mb L v acc :=
  ⟨row_below' h.row hb, h.b.trans (hb.mono h.b.size), h.m.kept hb⟩
theorem Rn.put {w wr w1 : World} {mb : Nat} {L : List (Nat × Nat)} {v v1 : Value} {acc : List Int} {x : Int} {o : Obj} (h : Rn w wr mb L v acc) (hm : mb < w.heap.size) (ho : w1.ownsRow w.heap.size 3 1 v1 (acc.length + 1) (acc.map (fun y => Value.int .i64 y) ++ [.int .i64 x])) (hg : (wr.alloc o).grownBy w1 v.ownBlock) : Rn w w1 mb L v1 (acc ++ [x]) := by
  refine ⟨by rw [intL_snoc, List.length_append]; exact ho, (h.b.alloc h.b.size _).grown hg (by have := h.b.size; simp; omega) (fun b hb => (h.row.lt b hb).1), ?_⟩
  have hk := (h.m.own.alloc o).kept hg (by
    intro e
    have := (h.row.lt mb e.symm).1
    omega)
  exact ⟨hk, h.m.sm⟩

set_option maxHeartbeats 4000000 in
theorem ringOf_any (mb i n : Nat) (L : List (Nat × Nat)) (w : World) (h : Mp w mb L) (hi : i < 1000) (hn : n < 1000) :
    Calls Tryd.prog 19 #[.map (some mb), .int .i64 (i : Int), .int .i64 (n : Int)] w fun e w' => ∃ v, e = .returned v ∧ Got w w' v (ringTo L i n) := by
  have hmb := h.own.lt
  have HM : Hid (Mp w mb L) := h
  have HH : Hid (∀ (x y : Nat) w', Mp w' mb L → x < 1000 → y < 1000 → Calls Tryd.prog 18 #[.map (some mb), .int .i64 (x : Int), .int .i64 (y : Int)] w' fun e w2 => e = .returned (.bool (decide ((x, y) ∈ L))) ∧ Below w'.heap.size w' w2) := fun x y w' h' hx hy => has_any mb x y L w' h' hx hy
  obtain ⟨i0, hi0, hi2⟩ := Option.map_eq_some_iff.1 info3
  simp only [Prod.mk.injEq] at hi2
  obtain ⟨hz0, hz1, hz2⟩ := hi2
  have HI : Hid (Tryd.prog.info? 3 = some i0 ∧ i0.zero = some (.int .i64 0) ∧ i0.size = 1 ∧ i0.bytes = 8) := ⟨hi0, hz0, hz1, hz2⟩
  clear h hi0 hz0 hz1 hz2
  go_enter Tryd.func19, Tryd.ntmps19
  go_wp2
  go_loopw [7, 10] (fun v vi wr => ∃ (k : Nat), k ≤ n ∧ vi = .int .i64 k ∧ Hid (Rn w wr mb L v (ringTo L i k))) (fun _ vi _ => n - (intOf vi).toNat)
  case atStart => exact ⟨0, by omega, rfl, World.ownsRow_nil _ _ _ _, Below.refl _ _, HM.out⟩
  case round =>
    rename_i wr
    obtain ⟨k, hk, rfl, hS⟩ := hrel
    by_cases hlk : k < n
    · have hlen := ringTo_len L i k
      have H1 : Hid _ := HH.out i k wr hS.out.m hi (by omega)
      by_cases h1 : (i, k) ∈ L
      · rw [decide_eq_true h1] at H1
        have H2 : Hid (∀ w', Mp w' mb L → Calls Tryd.prog 18 #[.map (some mb), .int .i64 (k : Int), .int .i64 (i : Int)] w' fun e w2 => e = .returned (.bool (decide ((k, i) ∈ L))) ∧ Below w'.heap.size w' w2) := fun w' h' => HH.out k i w' h' (by omega) hi
        clear HH
        by_cases h2 : (k, i) ∈ L
        · have hA : Hid (ringTo L i (k + 1) = ringTo L i k ++ [(k : Int)]) := ringTo_yes h1 h2
          simp only [decide_eq_true h2] at H2
          clear h1 h2
          go_wp2_with (first
            | (go_at_call 18; refine Calls.mono H1.out ?_; rintro e w2 ⟨rfl, hb2⟩; have HS2 : Hid (Rn w w2 mb L u7 (ringTo L i k)) := hS.out.go hb2; clear hb2 hS H1)
            | (go_at_call 18; refine Calls.mono (H2.out _ HS2.out.m) ?_; rintro e w3 ⟨rfl, hb3⟩; have HS3 : Hid (Rn w w3 mb L u7 (ringTo L i k)) := HS2.out.go hb3; clear hb3 HS2 H2)
            | (at_builtin; refine wpList_append_lies _ rfl _ _ 28 rfl w.heap.size 3 i0 (.int .i64 0) 1 8 Tryd.underlying28 HI.out.1 HI.out.2.1 HI.out.2.2.1 HI.out.2.2.2 rfl (by decide) _ _ _ rfl (HS3.out.row.alloc _) ⟨w3.heap.size, 0, none⟩ 1 1 [.int .i64 (k : Int)] rfl rfl (World.news_of_block (heap_alloc_new w3 _)) (by simp [Value.oneCell']) (by decide) (by unfold maxLen; omega) (by omega) (by have := HS3.out.b.size; simp; omega) (w3.heap.size + 1) (by simp) ?_; intro g cap' w4 hown1 hgrow hat hlt3))
          go_roundw
          case rel => exact ⟨k + 1, by omega, by go_num, by rw [hA.out]; exact HS3.out.put hmb hown1 hgrow⟩
          case measure => simp [intOf]; omega
        · have hA : Hid (ringTo L i (k + 1) = ringTo L i k) := ringTo_no (Or.inr h2)
          simp only [decide_eq_false h2] at H2
          clear h1 h2
          go_wp2_with (first
            | (go_at_call 18; refine Calls.mono H1.out ?_; rintro e w2 ⟨rfl, hb2⟩; have HS2 : Hid (Rn w w2 mb L u7 (ringTo L i k)) := hS.out.go hb2; clear hb2 hS H1)
            | (go_at_call 18; refine Calls.mono (H2.out _ HS2.out.m) ?_; rintro e w3 ⟨rfl, hb3⟩; have HS3 : Hid (Rn w w3 mb L u7 (ringTo L i k)) := HS2.out.go hb3; clear hb3 HS2 H2))
          go_roundw
          case rel => exact ⟨k + 1, by omega, by go_num, by rw [hA.out]; exact HS3.out⟩
          case measure => simp [intOf]; omega
      · rw [decide_eq_false h1] at H1
        have hA : Hid (ringTo L i (k + 1) = ringTo L i k) := ringTo_no (Or.inl h1)
        clear HH h1
        go_wp2_with (first
          | (go_at_call 18; refine Calls.mono H1.out ?_; rintro e w2 ⟨rfl, hb2⟩; have HS2 : Hid (Rn w w2 mb L u7 (ringTo L i k)) := hS.out.go hb2; clear hb2 hS H1))
        go_roundw
        case rel => exact ⟨k + 1, by omega, by go_num, by rw [hA.out]; exact HS2.out⟩
        case measure => simp [intOf]; omega
    · obtain rfl : k = n := by omega
      go_wp2
      go_ret
      obtain ⟨a, c, e⟩ := row_slice hS.out.row
      exact ⟨_, rfl, a, c, e, il_row (e ▸ hS.out.row), hS.out.b⟩
end Go.Proofs.YtfdmahilgemlaaaDoor.Fl
