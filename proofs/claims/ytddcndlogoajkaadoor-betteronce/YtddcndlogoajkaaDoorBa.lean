/- Lists of operations and of blocks, laid anew (slices.Clone): read off the program by the walk. Conditions: said at each. -/
import Derived.Test.YtddcndlogoajkaaDoorQCy
import Derived.Test.YtddcndlogoajkaaDoorQSm
import Derived.Test.YtddcndlogoajkaaDoorQRk
namespace Go.Proofs.YtddcndlogoajkaaDoor.L8.Bt
open Go.ChangeShapes Go.WideShapes Go.ChangeAt Go.RowKit
open _root_.Go.Proofs.YtddcndlogoajkaaDoor.L8.Op _root_.Go.Proofs.YtddcndlogoajkaaDoor.L8.So
set_option maxRecDepth 20000

theorem add_at' (b f j : Nat) : (⟨b, f, none⟩ : Addr).add j = ⟨b, f + j, none⟩ := by simp [Addr.add]
theorem co {w : World} {q j k : Nat} {v : Value} (h : ¬ j = k) : (w.setCell ⟨q, j, none⟩ v).cell? ⟨q, k, none⟩ = w.cell? ⟨q, k, none⟩ := by
  rw [World.cell?_setCell_other]
  intro e; injection e with _ e; exact h e
theorem cs {w : World} {q j : Nat} {v u : Value} (h : w.cell? ⟨q, j, none⟩ = some u) : (w.setCell ⟨q, j, none⟩ v).cell? ⟨q, j, none⟩ = some v := World.cell?_setCell_same _ _ _ h
theorem ob {w : World} {q b j k : Nat} {v : Value} (h : ¬ q = b) : (w.setCell ⟨q, j, none⟩ v).cell? ⟨b, k, none⟩ = w.cell? ⟨b, k, none⟩ := by
  rw [World.cell?_setCell_other]
  intro e; injection e with e _; exact h e
/-- A row that is laid anew. -/
structure Cf (w w' : World) (E : TypeId) (z : Nat) (v : Value) (n : Nat) (cs : List Value) : Prop where
  r : w'.ownsRow w.heap.size E z v n cs
  b : Below w.heap.size w w'
theorem eq_nil54' (a : Addr) (n cap : Nat) (w : World) : (binOp .eql 33 (.slice (some a) n cap) (.slice none 0 0)).run Tryd.prog w = .ok (.bool false) w := by kernel_rfl
set_option maxHeartbeats 2000000 in
theorem cloneO_some (a : Addr) (n cap : Nat) (cs : List Value) (w : World) (hl : n ≤ 1000000000000) (hc : cs.length = n * 5) (h1 : ∀ u, u ∈ cs → u.oneCell' = true) (hn : ∀ j u, cs[j]? = some u → w.cell? (a.add j) = some u) :
    Calls Tryd.prog 20 #[.slice (some a) n cap] w fun e w' => ∃ r c, e = .returned (.slice r n c) ∧ w'.ownsRow w.heap.size 39 5 (.slice r n c) n cs ∧ Below w.heap.size w w' := by
  obtain ⟨i0, hi, hi2⟩ := Option.map_eq_some_iff.1 info39
  simp only [Prod.mk.injEq] at hi2
  obtain ⟨hz0, hz1, hz2⟩ := hi2
  have HI : Hid (Tryd.prog.info? 39 = some i0 ∧ i0.zero = some (.agg #[.int .i8 0, .int .u8 0, .int .u8 0, .int .u8 0, .int .i64 0]) ∧ i0.size = 5 ∧ i0.bytes = 16) := ⟨hi, hz0, hz1, hz2⟩
  clear hi hz0 hz1 hz2
  have HN : Hid _ := hn
  have H1 : Hid _ := h1
  clear hn h1
  have hnil := eq_nil54' a n cap
  go_enter Tryd.func20, Tryd.ntmps20
  go_wp2_with (first
    | (at_builtin; refine wpList_append_own _ rfl (.tmp 5) (.tmp 6) 33 rfl w.heap.size 39 i0 (.agg #[.int .i8 0, .int .u8 0, .int .u8 0, .int .u8 0, .int .i64 0]) 5 16 Tryd.underlying33 HI.out.1 HI.out.2.1 HI.out.2.2.1 HI.out.2.2.2 rfl (by decide) _ 0 [] rfl ?ho a n cap cs rfl hc ?hn H1.out (by unfold maxLen; omega) (by omega) (by simp) ?_; (case ho => exact World.ownsRow_made w #[] 0 (Nat.le_refl _) (by decide) rfl); (case hn => exact fun j u hj => (World.cell?_alloc_some _ _ _ (by rw [HN.out j u hj]; rfl)).trans (HN.out j u hj)); intro v' w2 hown2 hgrow2 hnil2; have HF : Hid (Cf w w2 39 5 v' n cs) := ⟨(by have := hown2; simp only [Nat.zero_add, List.nil_append] at this; exact this), ((Below.refl _ _).alloc (Nat.le_refl _) _).grown hgrow2 (by simp) (fun b hb => by cases hb; exact Nat.le_refl _)⟩; clear hown2 hgrow2 hnil2))
  go_ret
  obtain ⟨h1, hb⟩ := HF.out
  rcases h1.2 with ⟨rfl, h0⟩ | ⟨g, c, cur, rfl, _⟩
  · exact ⟨none, 0, by rw [h0]; rfl, by rw [h0] at h1 ⊢; exact h1, hb⟩
  · exact ⟨_, _, rfl, h1, hb⟩
theorem eq_nil22' (a : Addr) (n cap : Nat) (w : World) : (binOp .eql 22 (.slice (some a) n cap) (.slice none 0 0)).run Tryd.prog w = .ok (.bool false) w := by kernel_rfl
set_option maxHeartbeats 2000000 in
theorem cloneB_some (a : Addr) (n cap : Nat) (cs : List Value) (w : World) (hl : n ≤ 1000000000000) (hc : cs.length = n * 6) (h1 : ∀ u, u ∈ cs → u.oneCell' = true) (hn : ∀ j u, cs[j]? = some u → w.cell? (a.add j) = some u) :
    Calls Tryd.prog 19 #[.slice (some a) n cap] w fun e w' => ∃ r c, e = .returned (.slice r n c) ∧ w'.ownsRow w.heap.size 36 6 (.slice r n c) n cs ∧ Below w.heap.size w w' := by
  obtain ⟨i0, hi, hi2⟩ := Option.map_eq_some_iff.1 info36
  simp only [Prod.mk.injEq] at hi2
  obtain ⟨hz0, hz1, hz2⟩ := hi2
  have HI : Hid (Tryd.prog.info? 36 = some i0 ∧ i0.zero = some (.agg #[.slice none 0 0, .int .i8 0, .int .u8 0, .slice none 0 0, .int .i64 0, .int .i64 0]) ∧ i0.size = 6 ∧ i0.bytes = 72) := ⟨hi, hz0, hz1, hz2⟩
  clear hi hz0 hz1 hz2
  have HN : Hid _ := hn
  have H1 : Hid _ := h1
  clear hn h1
  have hnil := eq_nil22' a n cap
  go_enter Tryd.func19, Tryd.ntmps19
  go_wp2_with (first
    | (at_builtin; refine wpList_append_own _ rfl (.tmp 5) (.tmp 6) 22 rfl w.heap.size 36 i0 (.agg #[.slice none 0 0, .int .i8 0, .int .u8 0, .slice none 0 0, .int .i64 0, .int .i64 0]) 6 72 Tryd.underlying22 HI.out.1 HI.out.2.1 HI.out.2.2.1 HI.out.2.2.2 rfl (by decide) _ 0 [] rfl ?ho a n cap cs rfl hc ?hn H1.out (by unfold maxLen; omega) (by omega) (by simp) ?_; (case ho => exact World.ownsRow_made w #[] 0 (Nat.le_refl _) (by decide) rfl); (case hn => exact fun j u hj => (World.cell?_alloc_some _ _ _ (by rw [HN.out j u hj]; rfl)).trans (HN.out j u hj)); intro v' w2 hown2 hgrow2 hnil2; have HF : Hid (Cf w w2 36 6 v' n cs) := ⟨(by have := hown2; simp only [Nat.zero_add, List.nil_append] at this; exact this), ((Below.refl _ _).alloc (Nat.le_refl _) _).grown hgrow2 (by simp) (fun b hb => by cases hb; exact Nat.le_refl _)⟩; clear hown2 hgrow2 hnil2))
  go_ret
  obtain ⟨h1, hb⟩ := HF.out
  rcases h1.2 with ⟨rfl, h0⟩ | ⟨g, c, cur, rfl, _⟩
  · exact ⟨none, 0, by rw [h0]; rfl, by rw [h0] at h1 ⊢; exact h1, hb⟩
  · exact ⟨_, _, rfl, h1, hb⟩
theorem nil54 (c : Nat) (w : World) : (binOp .eql 33 (.slice none 0 c) (.slice none 0 0)).run Tryd.prog w = .ok (.bool true) w := by kernel_rfl
theorem cloneO_nil (c : Nat) (w : World) : Calls Tryd.prog 20 #[.slice none 0 c] w fun e w' => e = .returned (.slice none 0 0) ∧ w' = w := by
  have hnil := nil54 c
  go_enter Tryd.func20, Tryd.ntmps20
  go_wp2_with fail
  go_ret
  exact ⟨rfl, rfl⟩
/-- A list of operations at the head of a block. -/
structure Ol (w : World) (b : Nat) (xs : List O) : Prop where
  lt : b < w.heap.size
  fz : ∀ j : Nat, w.frozen? ⟨b, j, none⟩ = false
  c : ∀ (i : Nat) (h : i < xs.length), OAt w b (i * 5) xs[i]
theorem Ol.below {w w' : World} {b : Nat} {xs : List O} (h : Ol w b xs) (hb : Below w.heap.size w w') : Ol w' b xs :=
  ⟨Nat.lt_of_lt_of_le h.lt hb.size, fun j => by rw [(bcell hb).2 _ _ h.lt]; exact h.fz j, fun i hi => (h.c i hi).below hb h.lt⟩
theorem Ol.fr {X : Nat → Prop} {w w' : World} {b : Nat} {xs : List O} (h : Ol w b xs) (g : Fr X w w') (hx : ¬ X b) : Ol w' b xs :=
  ⟨Nat.lt_of_lt_of_le h.lt g.size, fun j => by rw [g.frozen h.lt hx]; exact h.fz j, fun i hi => by
    obtain ⟨c0, c1, c2, c3, c4⟩ := h.c i hi
    exact ⟨(g.cell h.lt hx _).trans c0, (g.cell h.lt hx _).trans c1, (g.cell h.lt hx _).trans c2, (g.cell h.lt hx _).trans c3, (g.cell h.lt hx _).trans c4⟩⟩
theorem ol_row {w : World} {B g c : Nat} {xs : List O} (h : w.ownsRow B 39 5 (.slice (some ⟨g, 0, none⟩) xs.length c) xs.length (Op.ocells xs)) : Ol w g xs := by
  refine ⟨(h.lt g rfl).2, fun j => h.frozenAt j, fun i hi => ?_⟩
  obtain ⟨g0, g1, g2, g3, g4⟩ := Op.ocells_get xs i hi
  have k : ∀ j u, (Op.ocells xs)[j]? = some u → w.cell? ⟨g, j, none⟩ = some u := fun j u hj => by
    have := h.cells (g := g) rfl j u hj
    rw [add_at', Nat.zero_add] at this; exact this
  exact ⟨k _ _ g0, k _ _ g1, k _ _ g2, k _ _ g3, k _ _ g4⟩
/-- A list laid anew: at the head of a block that was not there. -/
structure Oc (w w' : World) (r : Option Addr) (c : Nat) (xs : List O) : Prop where
  is : 0 < xs.length → ∃ b, r = some ⟨b, 0, none⟩ ∧ w.heap.size ≤ b ∧ Ol w' b xs
  cap : xs.length ≤ c
  up : Below w.heap.size w w'
theorem oc_of {w w' : World} {r : Option Addr} {c : Nat} {xs : List O} (h1 : w'.ownsRow w.heap.size 39 5 (.slice r xs.length c) xs.length (Op.ocells xs)) (h2 : Below w.heap.size w w') : Oc w w' r c xs := by
  rcases h1.2 with ⟨h3, h4⟩ | ⟨g, cap', cur, h3, h5, _, h6, _⟩
  · exact ⟨fun h => by omega, by omega, h2⟩
  · injection h3 with e1 e2 e3
    subst e1
    exact ⟨fun _ => ⟨g, rfl, h5, ol_row h1⟩, by omega, h2⟩
theorem ocells_at {w : World} {b f : Nat} (xs : List O) (h : ∀ (i : Nat) (h : i < xs.length), OAt w b (f + i * 5) xs[i]) : ∀ j u, (Op.ocells xs)[j]? = some u → w.cell? ((⟨b, f, none⟩ : Addr).add j) = some u := by
  intro j u hu
  have hj : j < (Op.ocells xs).length := by
    rcases Nat.lt_or_ge j (Op.ocells xs).length with h' | h'
    · exact h'
    · rw [List.getElem?_eq_none h'] at hu; cases hu
  rw [Op.ocells_len] at hj
  have hi : j / 5 < xs.length := by omega
  obtain ⟨c0, c1, c2, c3, c4⟩ := h (j / 5) hi
  obtain ⟨g0, g1, g2, g3, g4⟩ := Op.ocells_get xs (j / 5) hi
  have hq : j = j / 5 * 5 + j % 5 := by omega
  have hm : j % 5 = 0 ∨ j % 5 = 1 ∨ j % 5 = 2 ∨ j % 5 = 3 ∨ j % 5 = 4 := by omega
  rw [add_at']
  generalize j / 5 = q at *
  rcases hm with hm | hm | hm | hm | hm
  · obtain rfl : j = q * 5 := by omega
    rw [g0] at hu; rw [← hu]; exact c0
  · obtain rfl : j = q * 5 + 1 := by omega
    rw [g1] at hu; rw [← hu, ← Nat.add_assoc]; exact c1
  · obtain rfl : j = q * 5 + 2 := by omega
    rw [g2] at hu; rw [← hu, ← Nat.add_assoc]; exact c2
  · obtain rfl : j = q * 5 + 3 := by omega
    rw [g3] at hu; rw [← hu, ← Nat.add_assoc]; exact c3
  · obtain rfl : j = q * 5 + 4 := by omega
    rw [g4] at hu; rw [← hu, ← Nat.add_assoc]; exact c4
theorem cloneO_any (ao : Option Addr) (cap : Nat) (xs : List O) (w : World) (h : OpsAt w ao xs) (hl : xs.length ≤ 8192) :
    Calls Tryd.prog 20 #[.slice ao xs.length cap] w fun e w' => ∃ r c, e = .returned (.slice r xs.length c) ∧ Oc w w' r c xs := by
  have key : ∀ a : Addr, ao = some a → (∀ j u, (Op.ocells xs)[j]? = some u → w.cell? (a.add j) = some u) → Calls Tryd.prog 20 #[.slice ao xs.length cap] w fun e w' => ∃ r c, e = .returned (.slice r xs.length c) ∧ Oc w w' r c xs := fun a e hc => by
    subst e
    refine (cloneO_some a xs.length cap (Op.ocells xs) w (by omega) (Op.ocells_len xs) (Op.ocells_one xs) hc).mono ?_
    rintro e w' ⟨r, c, rfl, h1, h2⟩
    exact ⟨r, c, rfl, oc_of h1 h2⟩
  rcases Nat.eq_zero_or_pos xs.length with h0 | h0
  · cases ao with
    | none =>
      obtain rfl : xs = [] := List.eq_nil_of_length_eq_zero h0
      refine (cloneO_nil cap w).mono ?_
      rintro e w' ⟨rfl, rfl⟩
      exact ⟨none, 0, rfl, ⟨fun h => by simp at h, Nat.le_refl _, Below.refl _ _⟩⟩
    | some a => exact key a rfl fun j u hu => by obtain rfl : xs = [] := List.eq_nil_of_length_eq_zero h0; simp [Op.ocells] at hu
  · obtain ⟨b, f, e, _, hx⟩ := h.is h0
    exact key _ e (ocells_at xs hx)
/-- The cells of blocks in a row. -/
def bcs : List Bk → List Pl → List Value
  | x :: r, p :: t => .slice p.oa x.ops.length p.oc :: .int .i8 x.fin :: .int .u8 x.a :: .slice p.ba x.body.length p.bc :: .int .i64 x.thn :: .int .i64 x.els :: bcs r t
  | _, _ => []
theorem bcs_len : ∀ (ps : List Bk) (pl : List Pl), pl.length = ps.length → (bcs ps pl).length = ps.length * 6
  | [], [], _ => rfl
  | x :: r, p :: t, h => by
    have := bcs_len r t (by simpa using h)
    simp [bcs, this]; omega
theorem bcs_one : ∀ (ps : List Bk) (pl : List Pl), ∀ u, u ∈ bcs ps pl → u.oneCell' = true
  | [], _, u, h => by simp [bcs] at h
  | x :: r, [], u, h => by simp [bcs] at h
  | x :: r, p :: t, u, h => by
    simp only [bcs, List.mem_cons] at h
    rcases h with rfl | rfl | rfl | rfl | rfl | rfl | h
    · rfl
    · rfl
    · rfl
    · rfl
    · rfl
    · rfl
    · exact bcs_one r t u h
theorem bcs_get : ∀ (ps : List Bk) (pl : List Pl) (i : Nat) (h : i < ps.length) (g : i < pl.length), (bcs ps pl)[i * 6]? = some (.slice pl[i].oa ps[i].ops.length pl[i].oc) ∧ (bcs ps pl)[i * 6 + 1]? = some (.int .i8 ps[i].fin) ∧ (bcs ps pl)[i * 6 + 2]? = some (.int .u8 ps[i].a) ∧ (bcs ps pl)[i * 6 + 3]? = some (.slice pl[i].ba ps[i].body.length pl[i].bc) ∧ (bcs ps pl)[i * 6 + 4]? = some (.int .i64 ps[i].thn) ∧ (bcs ps pl)[i * 6 + 5]? = some (.int .i64 ps[i].els)
  | [], _, i, h, _ => by simp at h
  | x :: r, [], i, _, g => by simp at g
  | x :: r, p :: t, 0, _, _ => ⟨rfl, rfl, rfl, rfl, rfl, rfl⟩
  | x :: r, p :: t, i + 1, h, g => by
    have := bcs_get r t i (by simpa using h) (by simpa using g)
    rw [show (i + 1) * 6 = i * 6 + 1 + 1 + 1 + 1 + 1 + 1 by omega]
    simpa [bcs] using this
theorem bcs_at {w : World} {b : Nat} : ∀ (ps : List Bk) (pl : List Pl) (f : Nat), pl.length = ps.length → (∀ (i : Nat) (h : i < ps.length) (g : i < pl.length), BAt w b (f + i * 6) ps[i] pl[i]) → ∀ j u, (bcs ps pl)[j]? = some u → w.cell? ((⟨b, f, none⟩ : Addr).add j) = some u
  | [], _, _, _, _, j, u, h => by simp [bcs] at h
  | x :: r, [], _, _, _, j, u, h => by simp [bcs] at h
  | x :: r, p :: t, f, hl, hx, j, u, h => by
    rw [add_at']
    obtain ⟨c0, c1, c2, c3, c4, c5⟩ := hx 0 (by simp) (by simp)
    simp only [Nat.zero_mul, Nat.add_zero, List.getElem_cons_zero] at c0 c1 c2 c3 c4 c5
    match j with
    | 0 => simp [bcs] at h; rw [← h]; exact c0
    | 1 => simp [bcs] at h; rw [← h]; exact c1
    | 2 => simp [bcs] at h; rw [← h]; exact c2
    | 3 => simp [bcs] at h; rw [← h]; exact c3
    | 4 => simp [bcs] at h; rw [← h]; exact c4
    | 5 => simp [bcs] at h; rw [← h]; exact c5
    | j + 6 =>
      have := bcs_at r t (f + 6) (by simpa using hl) (fun i h1 h2 => by
        have := hx (i + 1) (by simpa using h1) (by simpa using h2)
        rw [show f + (i + 1) * 6 = f + 6 + i * 6 by omega] at this
        simpa using this) j u (by simpa [bcs] using h)
      rw [add_at'] at this
      rw [show f + (j + 6) = f + 6 + j by omega]
      exact this
theorem pls_of {w : World} {b f : Nat} {ps : List Bk} (h : ∀ (i : Nat) (h : i < ps.length), ∃ p, BAt w b (f + i * 6) ps[i] p ∧ BIn w ps[i] p) : ∃ pl : List Pl, pl.length = ps.length ∧ ∀ (i : Nat) (h : i < ps.length) (g : i < pl.length), BAt w b (f + i * 6) ps[i] pl[i] ∧ BIn w ps[i] pl[i] := by
  refine ⟨(List.finRange ps.length).map fun i => (h i.1 i.2).choose, by simp, fun i hi g => ?_⟩
  have := (h i hi).choose_spec
  simpa using this
end Go.Proofs.YtddcndlogoajkaaDoor.L8.Bt
