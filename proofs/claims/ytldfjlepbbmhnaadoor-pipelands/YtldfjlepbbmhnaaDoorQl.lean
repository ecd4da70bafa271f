/- What a run tells (Run), and rows of numbers laid anew (Clone), read off the program by the walk. Conditions: the machine lies in memory. -/
import Derived.Test.YtldfjlepbbmhnaaDoorQk
namespace Go.Proofs.YtldfjlepbbmhnaaDoor.Pp
open Go.ChangeShapes Go.WideShapes Go.ChangeAt Go.RowKit
open _root_.Go.Proofs.YtldfjlepbbmhnaaDoor.Op _root_.Go.Proofs.YtldfjlepbbmhnaaDoor.So _root_.Go.Proofs.YtldfjlepbbmhnaaDoor.Bu
open _root_.Go.Proofs.YtldfjlepbbmhnaaDoor.Tb (Tab TabAt Bnds)
set_option maxRecDepth 20000

theorem add_at' (b f j : Nat) : (⟨b, f, none⟩ : Addr).add j = ⟨b, f + j, none⟩ := by simp [Addr.add]
theorem eq_nil26 (a : Addr) (n cap : Nat) (w : World) : (binOp .eql 26 (.slice (some a) n cap) (.slice none 0 0)).run Tryd.prog w = .ok (.bool false) w := by kernel_rfl
theorem eq_none26 (w : World) : (binOp .eql 26 (.slice none 0 0) (.slice none 0 0)).run Tryd.prog w = .ok (.bool true) w := by kernel_rfl
/-- A row that is laid anew. -/
structure Cf (w w' : World) (v : Value) (n : Nat) (cs : List Value) : Prop where
  r : w'.ownsRow w.heap.size 2 1 v n cs
  b : Below w.heap.size w w'
set_option maxHeartbeats 2000000 in
theorem clone_some (a : Addr) (n cap : Nat) (cs : List Value) (w : World) (hl : n ≤ 1000000000000) (hc : cs.length = n * 1) (h1 : ∀ u, u ∈ cs → u.oneCell' = true) (hn : ∀ j u, cs[j]? = some u → w.cell? (a.add j) = some u) :
    Calls Tryd.prog 29 #[.slice (some a) n cap] w fun e w' => ∃ v, e = .returned v ∧ Cf w w' v n cs := by
  obtain ⟨i0, hi, hi2⟩ := Option.map_eq_some_iff.1 info2b
  simp only [Prod.mk.injEq] at hi2
  have HI : Hid (Tryd.prog.info? 2 = some i0 ∧ i0.zero = some (.int .i64 0) ∧ i0.size = 1 ∧ i0.bytes = 8) := ⟨hi, hi2.1, hi2.2.1, hi2.2.2⟩
  clear hi hi2
  have HN : Hid _ := hn
  have H1 : Hid _ := h1
  clear hn h1
  have hnil := eq_nil26 a n cap
  go_enter Tryd.func29, Tryd.ntmps29
  go_wp2_with (first
    | (at_builtin; refine wpList_append_own _ rfl (.tmp 5) (.tmp 6) 26 rfl w.heap.size 2 i0 (.int .i64 0) 1 8 Tryd.underlying26 HI.out.1 HI.out.2.1 HI.out.2.2.1 HI.out.2.2.2 rfl (by decide) _ 0 [] rfl ?ho a n cap cs rfl hc ?hn H1.out (by unfold maxLen; omega) (by omega) (by simp) ?_; (case ho => exact World.ownsRow_made w #[] 0 (Nat.le_refl _) (by decide) rfl); (case hn => exact fun j u hj => (World.cell?_alloc_some _ _ _ (by rw [HN.out j u hj]; rfl)).trans (HN.out j u hj)); intro v' w2 hown2 hgrow2 hnil2; have HF : Hid (Cf w w2 v' n cs) := ⟨(by have := hown2; simp only [Nat.zero_add, List.nil_append] at this; exact this), ((Below.refl _ _).alloc (Nat.le_refl _) _).grown hgrow2 (by simp) (fun b hb => by cases hb; exact Nat.le_refl _)⟩; clear hown2 hgrow2 hnil2))
  go_ret
  exact ⟨_, rfl, HF.out⟩
theorem clone_none (w : World) : Calls Tryd.prog 29 #[.slice none 0 0] w fun e w' => e = .returned (.slice none 0 0) ∧ w' = w := by
  have hnil := eq_none26
  go_enter Tryd.func29, Tryd.ntmps29
  go_wp2_with fail
  go_ret
  exact ⟨rfl, rfl⟩
theorem clone_row (v : Value) (l : List Int) (w : World) (hl : l.length ≤ 1000000000000) (h : w.ownsRow 0 2 1 v l.length (l.map fun x => .int .i64 x)) :
    Calls Tryd.prog 29 #[v] w fun e w' => ∃ v', e = .returned v' ∧ Cf w w' v' l.length (l.map fun x => .int .i64 x) := by
  rcases h.2 with ⟨h1, h2⟩ | ⟨g, cap, cur, h1, h2, h3⟩
  · obtain rfl : l = [] := List.eq_nil_of_length_eq_zero h2
    rw [h1]
    refine (clone_none w).mono ?_
    rintro e w' ⟨rfl, rfl⟩
    exact ⟨_, rfl, World.ownsRow_nil _ _ _ _, Below.refl _ _⟩
  · subst h1
    have hc := h.cells (g := g) rfl
    exact clone_some ⟨g, 0, none⟩ l.length cap _ w hl (by simp) (fun u hu => by obtain ⟨x, -, rfl⟩ := List.mem_map.1 hu; rfl) hc
section
variable {w : World} {t : Tab} {bs : List Bn} {H : Hx} {S : PM}
/-- The cells, laid anew. -/
theorem clone_mem (h : MC w t bs.length H S) : Calls Tryd.prog 29 #[.slice (some ⟨H.mb, 46, none⟩) 256 256] w fun e w' => ∃ v', e = .returned v' ∧ Cf w w' v' 256 ((List.range 256).map fun k => .int .i64 (S.m k)) :=
  clone_some ⟨H.mb, 46, none⟩ 256 256 _ w (by decide) (by simp) (fun u hu => by obtain ⟨x, -, rfl⟩ := List.mem_map.1 hu; rfl) fun j u hj => by
    have hj' : j < 256 := by have := (List.getElem?_eq_some_iff.1 hj).1; simpa using this
    rw [List.getElem?_map, List.getElem?_range hj'] at hj
    injection hj with hj
    rw [← hj, add_at']
    exact h.m j hj'
theorem clone_regs (h : MC w t bs.length H S) : Calls Tryd.prog 29 #[.slice (some ⟨H.mb, 14, none⟩) 32 32] w fun e w' => ∃ v', e = .returned v' ∧ Cf w w' v' 32 ((List.range 32).map fun k => .int .i64 (S.r k)) :=
  clone_some ⟨H.mb, 14, none⟩ 32 32 _ w (by decide) (by simp) (fun u hu => by obtain ⟨x, -, rfl⟩ := List.mem_map.1 hu; rfl) fun j u hj => by
    have hj' : j < 32 := by have := (List.getElem?_eq_some_iff.1 hj).1; simpa using this
    rw [List.getElem?_map, List.getElem?_range hj'] at hj
    injection hj with hj
    rw [← hj, add_at']
    exact h.r j hj'
/-- A nil machine. -/
theorem run_nil (n : Int) (w : World) : Calls Tryd.prog 10 #[.pointer none, .int .i64 n] w fun e w' => e = .returned (.agg #[.int .i64 1, .int .i64 0, .slice none 0 0, .slice none 0 0, .int .i64 0]) ∧ Below w.heap.size w w' := by
  go_enter Tryd.func10, Tryd.ntmps10
  go_wp2_with fail
  exact bodyPost_ret (v := .agg #[.int .i64 1, .int .i64 0, .slice none 0 0, .slice none 0 0, .int .i64 0]) (by simp [results, Tryd.results10, go_sem]) rfl ⟨rfl, by go_grown⟩
theorem state_nil (w : World) : Calls Tryd.prog 13 #[.pointer none] w fun e w' => e = .returned (.agg #[.slice none 0 0, .slice none 0 0]) ∧ Below w.heap.size w w' := by
  go_enter Tryd.func13, Tryd.ntmps13
  go_wp2_with fail
  exact bodyPost_ret (v := .agg #[.slice none 0 0, .slice none 0 0]) (by simp [results, Tryd.results13, go_sem]) rfl ⟨rfl, by go_grown⟩
theorem flying_nil (w : World) : Calls Tryd.prog 17 #[.pointer none] w fun e w' => e = .returned (.slice none 0 0) ∧ w' = w := by
  go_enter Tryd.func17, Tryd.ntmps17
  go_wp2_with fail
  go_ret
  exact ⟨rfl, rfl⟩
end
end Go.Proofs.YtldfjlepbbmhnaaDoor.Pp
