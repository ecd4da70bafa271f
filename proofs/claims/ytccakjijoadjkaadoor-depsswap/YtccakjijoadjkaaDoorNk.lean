/- What Run and State answer of the machine: read off the program by the walk. Conditions: the machine and its program lie in memory. -/
import Derived.Test.YtccakjijoadjkaaDoorNj
namespace Go.Proofs.YtccakjijoadjkaaDoor.Sm
open Go.ChangeShapes Go.WideShapes Go.ChangeAt Go.RowKit
open _root_.Go.Proofs.YtccakjijoadjkaaDoor.Op _root_.Go.Proofs.YtccakjijoadjkaaDoor.So
set_option maxRecDepth 20000

/-- A list of numbers in memory. -/
structure NL (w : World) (ao : Option Addr) (l : List Int) : Prop where
  is : 0 < l.length → ∃ b f, ao = some ⟨b, f, none⟩ ∧ b < w.heap.size ∧ ∀ (i : Nat) (h : i < l.length), w.cell? ⟨b, f + i, none⟩ = some (.int .i64 l[i])
theorem NL.up {w w' : World} {ao : Option Addr} {l : List Int} (h : NL w ao l) (hb : Below w.heap.size w w') : NL w' ao l := by
  refine ⟨fun h0 => ?_⟩
  obtain ⟨b, f, e, z, hc⟩ := h.is h0
  exact ⟨b, f, e, Nat.lt_of_lt_of_le z hb.size, fun i hi => by rw [(bcell hb).1 _ _ z]; exact hc i hi⟩
theorem NL.fr {X : Nat → Prop} {w w' : World} {ao : Option Addr} {l : List Int} (h : NL w ao l) (g : Fr X w w') (hf : 0 < l.length → ∀ a, ao = some a → ¬ X a.block) : NL w' ao l := by
  refine ⟨fun h0 => ?_⟩
  obtain ⟨b, f, e, z, hc⟩ := h.is h0
  exact ⟨b, f, e, Nat.lt_of_lt_of_le z g.size, fun i hi => (g.cell z (hf h0 _ e) _).trans (hc i hi)⟩
theorem add_at' (b f j : Nat) : (⟨b, f, none⟩ : Addr).add j = ⟨b, f + j, none⟩ := by simp [Addr.add]
theorem nums_get (l : List Int) (i : Nat) (h : i < l.length) : (nums l)[i]? = some (.int .i64 l[i]) := by simp [nums, h]
theorem nums_len (l : List Int) : (nums l).length = l.length * 1 := by simp [nums]
theorem nums_one (l : List Int) : ∀ u, u ∈ nums l → u.oneCell' = true := fun u hu => by
  obtain ⟨x, _, rfl⟩ := List.mem_map.1 hu
  rfl
theorem nl_row {w : World} {B c : Nat} {a : Option Addr} {l : List Int} (h : w.ownsRow B 2 1 (.slice a l.length c) l.length (nums l)) : NL w a l := by
  refine ⟨fun h0 => ?_⟩
  rcases h.2 with ⟨_, h1⟩ | ⟨g, cap, cur, h1, h2, h3, h4⟩
  · omega
  · injection h1 with e1 e2 e3
    subst e1
    have hc := h.cells (g := g) rfl
    refine ⟨g, 0, rfl, (h.lt g rfl).2, fun i hi => ?_⟩
    have := hc i _ (nums_get l i hi)
    rw [add_at'] at this
    exact this
theorem nl_cells {w : World} {b f : Nat} {l : List Int} (hc : ∀ (i : Nat) (h : i < l.length), w.cell? ⟨b, f + i, none⟩ = some (.int .i64 l[i])) : ∀ j u, (nums l)[j]? = some u → w.cell? ((⟨b, f, none⟩ : Addr).add j) = some u := fun j u hu => by
  have hj : j < l.length := by
    rcases Nat.lt_or_ge j l.length with h | h
    · exact h
    · rw [List.getElem?_eq_none (by simp [nums]; omega)] at hu; cases hu
  rw [nums_get l j hj] at hu
  cases hu
  rw [add_at']
  exact hc j hj
/-- A row that is laid anew. -/
structure Cf (w w' : World) (E : TypeId) (z : Nat) (v : Value) (n : Nat) (cs : List Value) : Prop where
  r : w'.ownsRow w.heap.size E z v n cs
  b : Below w.heap.size w w'
theorem eq_nil25' (a : Addr) (n cap : Nat) (w : World) : (binOp .eql 33 (.slice (some a) n cap) (.slice none 0 0)).run Tryd.prog w = .ok (.bool false) w := by kernel_rfl
theorem eq_none25' (w : World) : (binOp .eql 33 (.slice none 0 0) (.slice none 0 0)).run Tryd.prog w = .ok (.bool true) w := by kernel_rfl
set_option maxHeartbeats 2000000 in
theorem cloneN_some (a : Addr) (n cap : Nat) (cs : List Value) (w : World) (hl : n ≤ 1000000000000) (hc : cs.length = n * 1) (h1 : ∀ u, u ∈ cs → u.oneCell' = true) (hn : ∀ j u, cs[j]? = some u → w.cell? (a.add j) = some u) :
    Calls Tryd.prog 44 #[.slice (some a) n cap] w fun e w' => ∃ r c, e = .returned (.slice r n c) ∧ w'.ownsRow w.heap.size 2 1 (.slice r n c) n cs ∧ Below w.heap.size w w' := by
  obtain ⟨i0, hi, hi2⟩ := Option.map_eq_some_iff.1 info2
  simp only [Prod.mk.injEq] at hi2
  obtain ⟨hz0, hz1, hz2⟩ := hi2
  have HI : Hid (Tryd.prog.info? 2 = some i0 ∧ i0.zero = some (.int .i64 0) ∧ i0.size = 1 ∧ i0.bytes = 8) := ⟨hi, hz0, hz1, hz2⟩
  clear hi hz0 hz1 hz2
  have HN : Hid _ := hn
  have H1 : Hid _ := h1
  clear hn h1
  have hnil := eq_nil25' a n cap
  go_enter Tryd.func44, Tryd.ntmps44
  go_wp2_with (first
    | (at_builtin; refine wpList_append_own _ rfl (.tmp 5) (.tmp 6) 33 rfl w.heap.size 2 i0 (.int .i64 0) 1 8 Tryd.underlying33 HI.out.1 HI.out.2.1 HI.out.2.2.1 HI.out.2.2.2 rfl (by decide) _ 0 [] rfl ?ho a n cap cs rfl hc ?hn H1.out (by unfold maxLen; omega) (by omega) (by simp) ?_; (case ho => exact World.ownsRow_made w #[] 0 (Nat.le_refl _) (by decide) rfl); (case hn => exact fun j u hj => (World.cell?_alloc_some _ _ _ (by rw [HN.out j u hj]; rfl)).trans (HN.out j u hj)); intro v' w2 hown2 hgrow2 hnil2; have HF : Hid (Cf w w2 2 1 v' n cs) := ⟨(by have := hown2; simp only [Nat.zero_add, List.nil_append] at this; exact this), ((Below.refl _ _).alloc (Nat.le_refl _) _).grown hgrow2 (by simp) (fun b hb => by cases hb; exact Nat.le_refl _)⟩; clear hown2 hgrow2 hnil2))
  go_ret
  obtain ⟨h1, hb⟩ := HF.out
  rcases h1.2 with ⟨rfl, h0⟩ | ⟨g, c, cur, rfl, _⟩
  · exact ⟨none, 0, by rw [h0]; rfl, by rw [h0] at h1 ⊢; exact h1, hb⟩
  · exact ⟨_, _, rfl, h1, hb⟩
theorem cloneN_none (w : World) : Calls Tryd.prog 44 #[.slice none 0 0] w fun e w' => e = .returned (.slice none 0 0) ∧ w' = w := by
  have hnil := eq_none25'
  go_enter Tryd.func44, Tryd.ntmps44
  go_wp2_with fail
  go_ret
  exact ⟨rfl, rfl⟩
theorem eq_nil54' (a : Addr) (n cap : Nat) (w : World) : (binOp .eql 22 (.slice (some a) n cap) (.slice none 0 0)).run Tryd.prog w = .ok (.bool false) w := by kernel_rfl
theorem eq_none54' (w : World) : (binOp .eql 22 (.slice none 0 0) (.slice none 0 0)).run Tryd.prog w = .ok (.bool true) w := by kernel_rfl
theorem info40 : (Tryd.prog.info? 40).map (fun i => (i.zero, i.size, i.bytes)) = some (some (.agg #[.int .i8 0, .int .u8 0, .int .u8 0, .int .u8 0, .int .i64 0]), 5, 16) := by kernel_rfl
set_option maxHeartbeats 2000000 in
theorem cloneO_some (a : Addr) (n cap : Nat) (cs : List Value) (w : World) (hl : n ≤ 1000000000000) (hc : cs.length = n * 5) (h1 : ∀ u, u ∈ cs → u.oneCell' = true) (hn : ∀ j u, cs[j]? = some u → w.cell? (a.add j) = some u) :
    Calls Tryd.prog 70 #[.slice (some a) n cap] w fun e w' => ∃ r c, e = .returned (.slice r n c) ∧ w'.ownsRow w.heap.size 40 5 (.slice r n c) n cs ∧ Below w.heap.size w w' := by
  obtain ⟨i0, hi, hi2⟩ := Option.map_eq_some_iff.1 info40
  simp only [Prod.mk.injEq] at hi2
  obtain ⟨hz0, hz1, hz2⟩ := hi2
  have HI : Hid (Tryd.prog.info? 40 = some i0 ∧ i0.zero = some (.agg #[.int .i8 0, .int .u8 0, .int .u8 0, .int .u8 0, .int .i64 0]) ∧ i0.size = 5 ∧ i0.bytes = 16) := ⟨hi, hz0, hz1, hz2⟩
  clear hi hz0 hz1 hz2
  have HN : Hid _ := hn
  have H1 : Hid _ := h1
  clear hn h1
  have hnil := eq_nil54' a n cap
  go_enter Tryd.func70, Tryd.ntmps70
  go_wp2_with (first
    | (at_builtin; refine wpList_append_own _ rfl (.tmp 5) (.tmp 6) 22 rfl w.heap.size 40 i0 (.agg #[.int .i8 0, .int .u8 0, .int .u8 0, .int .u8 0, .int .i64 0]) 5 16 Tryd.underlying22 HI.out.1 HI.out.2.1 HI.out.2.2.1 HI.out.2.2.2 rfl (by decide) _ 0 [] rfl ?ho a n cap cs rfl hc ?hn H1.out (by unfold maxLen; omega) (by omega) (by simp) ?_; (case ho => exact World.ownsRow_made w #[] 0 (Nat.le_refl _) (by decide) rfl); (case hn => exact fun j u hj => (World.cell?_alloc_some _ _ _ (by rw [HN.out j u hj]; rfl)).trans (HN.out j u hj)); intro v' w2 hown2 hgrow2 hnil2; have HF : Hid (Cf w w2 40 5 v' n cs) := ⟨(by have := hown2; simp only [Nat.zero_add, List.nil_append] at this; exact this), ((Below.refl _ _).alloc (Nat.le_refl _) _).grown hgrow2 (by simp) (fun b hb => by cases hb; exact Nat.le_refl _)⟩; clear hown2 hgrow2 hnil2))
  go_ret
  obtain ⟨h1, hb⟩ := HF.out
  rcases h1.2 with ⟨rfl, h0⟩ | ⟨g, c, cur, rfl, _⟩
  · exact ⟨none, 0, by rw [h0]; rfl, by rw [h0] at h1 ⊢; exact h1, hb⟩
  · exact ⟨_, _, rfl, h1, hb⟩
theorem cloneO_none (w : World) : Calls Tryd.prog 70 #[.slice none 0 0] w fun e w' => e = .returned (.slice none 0 0) ∧ w' = w := by
  have hnil := eq_none54'
  go_enter Tryd.func70, Tryd.ntmps70
  go_wp2_with fail
  go_ret
  exact ⟨rfl, rfl⟩
theorem eq_nil22' (a : Addr) (n cap : Nat) (w : World) : (binOp .eql 46 (.slice (some a) n cap) (.slice none 0 0)).run Tryd.prog w = .ok (.bool false) w := by kernel_rfl
theorem eq_none22' (w : World) : (binOp .eql 46 (.slice none 0 0) (.slice none 0 0)).run Tryd.prog w = .ok (.bool true) w := by kernel_rfl
theorem info45 : (Tryd.prog.info? 45).map (fun i => (i.zero, i.size, i.bytes)) = some (some (.agg #[.slice none 0 0, .int .i8 0, .int .u8 0, .slice none 0 0, .int .i64 0, .int .i64 0]), 6, 72) := by kernel_rfl
set_option maxHeartbeats 2000000 in
theorem cloneB_some (a : Addr) (n cap : Nat) (cs : List Value) (w : World) (hl : n ≤ 1000000000000) (hc : cs.length = n * 6) (h1 : ∀ u, u ∈ cs → u.oneCell' = true) (hn : ∀ j u, cs[j]? = some u → w.cell? (a.add j) = some u) :
    Calls Tryd.prog 69 #[.slice (some a) n cap] w fun e w' => ∃ r c, e = .returned (.slice r n c) ∧ w'.ownsRow w.heap.size 45 6 (.slice r n c) n cs ∧ Below w.heap.size w w' := by
  obtain ⟨i0, hi, hi2⟩ := Option.map_eq_some_iff.1 info45
  simp only [Prod.mk.injEq] at hi2
  obtain ⟨hz0, hz1, hz2⟩ := hi2
  have HI : Hid (Tryd.prog.info? 45 = some i0 ∧ i0.zero = some (.agg #[.slice none 0 0, .int .i8 0, .int .u8 0, .slice none 0 0, .int .i64 0, .int .i64 0]) ∧ i0.size = 6 ∧ i0.bytes = 72) := ⟨hi, hz0, hz1, hz2⟩
  clear hi hz0 hz1 hz2
  have HN : Hid _ := hn
  have H1 : Hid _ := h1
  clear hn h1
  have hnil := eq_nil22' a n cap
  go_enter Tryd.func69, Tryd.ntmps69
  go_wp2_with (first
    | (at_builtin; refine wpList_append_own _ rfl (.tmp 5) (.tmp 6) 46 rfl w.heap.size 45 i0 (.agg #[.slice none 0 0, .int .i8 0, .int .u8 0, .slice none 0 0, .int .i64 0, .int .i64 0]) 6 72 Tryd.underlying46 HI.out.1 HI.out.2.1 HI.out.2.2.1 HI.out.2.2.2 rfl (by decide) _ 0 [] rfl ?ho a n cap cs rfl hc ?hn H1.out (by unfold maxLen; omega) (by omega) (by simp) ?_; (case ho => exact World.ownsRow_made w #[] 0 (Nat.le_refl _) (by decide) rfl); (case hn => exact fun j u hj => (World.cell?_alloc_some _ _ _ (by rw [HN.out j u hj]; rfl)).trans (HN.out j u hj)); intro v' w2 hown2 hgrow2 hnil2; have HF : Hid (Cf w w2 45 6 v' n cs) := ⟨(by have := hown2; simp only [Nat.zero_add, List.nil_append] at this; exact this), ((Below.refl _ _).alloc (Nat.le_refl _) _).grown hgrow2 (by simp) (fun b hb => by cases hb; exact Nat.le_refl _)⟩; clear hown2 hgrow2 hnil2))
  go_ret
  obtain ⟨h1, hb⟩ := HF.out
  rcases h1.2 with ⟨rfl, h0⟩ | ⟨g, c, cur, rfl, _⟩
  · exact ⟨none, 0, by rw [h0]; rfl, by rw [h0] at h1 ⊢; exact h1, hb⟩
  · exact ⟨_, _, rfl, h1, hb⟩
theorem cloneB_none (w : World) : Calls Tryd.prog 69 #[.slice none 0 0] w fun e w' => e = .returned (.slice none 0 0) ∧ w' = w := by
  have hnil := eq_none22'
  go_enter Tryd.func69, Tryd.ntmps69
  go_wp2_with fail
  go_ret
  exact ⟨rfl, rfl⟩
/-- A fresh list of numbers. -/
structure Fresh (w w' : World) (a : Option Addr) (l : List Int) : Prop where
  nl : NL w' a l
  up : Below w.heap.size w w'
  new : 0 < l.length → ∀ x, a = some x → w.heap.size ≤ x.block
theorem fresh_of {w w' : World} {r : Option Addr} {c : Nat} {l : List Int} (h : w'.ownsRow w.heap.size 2 1 (.slice r l.length c) l.length (nums l)) (hb : Below w.heap.size w w') : Fresh w w' r l :=
  ⟨nl_row h, hb, fun _ x e => by subst e; exact (h.lt x.block rfl).1⟩
theorem cloneN_at (b f cap : Nat) (l : List Int) (w : World) (hl : l.length ≤ 1000000000000) (hc : ∀ (i : Nat) (h : i < l.length), w.cell? ⟨b, f + i, none⟩ = some (.int .i64 l[i])) :
    Calls Tryd.prog 44 #[.slice (some ⟨b, f, none⟩) l.length cap] w fun e w' => ∃ r c, e = .returned (.slice r l.length c) ∧ Fresh w w' r l :=
  (cloneN_some ⟨b, f, none⟩ l.length cap (nums l) w hl (nums_len l) (nums_one l) (nl_cells hc)).mono fun _ _ ⟨r, c, h1, h2, h3⟩ => ⟨r, c, h1, fresh_of h2 h3⟩
theorem cloneN_row (po : Option Addr) (pc B : Nat) (l : List Int) (w : World) (hl : l.length ≤ 1000000000000) (h : w.ownsRow B 2 1 (.slice po l.length pc) l.length (nums l)) :
    Calls Tryd.prog 44 #[.slice po l.length pc] w fun e w' => ∃ r c, e = .returned (.slice r l.length c) ∧ Fresh w w' r l := by
  rcases h.2 with ⟨h1, h2⟩ | ⟨g, cap, cur, h1, h2, h3⟩
  · obtain rfl : l = [] := List.eq_nil_of_length_eq_zero h2
    injection h1 with e1 e2 e3
    subst e1 e3
    refine (cloneN_none w).mono ?_
    rintro e w' ⟨rfl, rfl⟩
    exact ⟨none, 0, rfl, ⟨fun h => by simp at h⟩, Below.refl _ _, fun h => by simp at h⟩
  · injection h1 with e1 e2 e3
    subst e1
    have hc := h.cells (g := g) rfl
    exact (cloneN_some ⟨g, 0, none⟩ l.length pc (nums l) w hl (nums_len l) (nums_one l) hc).mono fun _ _ ⟨r, c, k1, k2, k3⟩ => ⟨r, c, k1, fresh_of k2 k3⟩
theorem brought_any (s m : Int) (w : World) : Calls Tryd.prog 43 #[.int .i64 s, .int .i64 m] w fun e w' => e = .returned (.int .i64 (min (max s 0) m)) ∧ w' = w := by
  by_cases h1 : s < 0
  · by_cases h2 : m < 0
    · rw [show min (max s 0) m = m by omega]
      go_enter Tryd.func43, Tryd.ntmps43
      go_wp2_with fail
      go_ret
      exact ⟨rfl, rfl⟩
    · rw [show min (max s 0) m = 0 by omega]
      go_enter Tryd.func43, Tryd.ntmps43
      go_wp2_with fail
      go_ret
      exact ⟨rfl, rfl⟩
  · by_cases h2 : m < s
    · rw [show min (max s 0) m = m by omega]
      go_enter Tryd.func43, Tryd.ntmps43
      go_wp2_with fail
      go_ret
      exact ⟨rfl, rfl⟩
    · rw [show min (max s 0) m = s by omega]
      go_enter Tryd.func43, Tryd.ntmps43
      go_wp2_with fail
      go_ret
      exact ⟨rfl, rfl⟩
end Go.Proofs.YtccakjijoadjkaaDoor.Sm
