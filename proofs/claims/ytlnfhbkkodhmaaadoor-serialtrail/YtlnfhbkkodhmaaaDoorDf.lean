/- What Cells and State answer of the document's machine: read off the program by the walk. Conditions: the machine lies in memory. -/
import Derived.Test.YtlnfhbkkodhmaaaDoorDb
namespace Go.Proofs.YtlnfhbkkodhmaaaDoor.Sm
open Go.ChangeShapes Go.WideShapes Go.ChangeAt Go.RowKit
open _root_.Go.Proofs.YtlnfhbkkodhmaaaDoor.Op _root_.Go.Proofs.YtlnfhbkkodhmaaaDoor.So
set_option maxRecDepth 20000

theorem nums_take {l : List Int} {k : Nat} (h : k < l.length) : nums (l.take k) ++ [.int .i64 l[k]] = nums (l.take (k + 1)) := by
  unfold nums
  rw [← List.take_append_getElem h, List.map_append]
  rfl
section
variable {w : World} {q : Nat} {ba : Option Addr} {bl bc : Nat} {po : Option Addr} {pc : Nat} {M : Ma} {L : Tg}
set_option maxHeartbeats 2000000 in
theorem rcells_any (h : DAt w q (dG ba bl bc po pc M L)) : Calls Tryd.prog 31 #[.pointer (some ⟨q, 33, none⟩)] w fun e w' => ∃ r c, e = .returned (.slice r 256 c) ∧ Own w w' r (memL M) ∧ Below w.heap.size w w' := by
  have HC : Hid (∀ W, Below w.heap.size w W → q < W.heap.size ∧ ∀ i : Nat, i < 256 → W.cell? ⟨q, 33 + i, none⟩ = some (.int .i64 (M.m i))) := fun W hb => ⟨(h.up hb).lt, fun i hi => (h.up hb).km hi⟩
  clear h
  obtain ⟨i0, hi, hi2⟩ := Option.map_eq_some_iff.1 info2
  simp only [Prod.mk.injEq] at hi2
  obtain ⟨hz0, hz1, hz2⟩ := hi2
  have HI : Hid (Tryd.prog.info? 2 = some i0 ∧ i0.zero = some (.int .i64 0) ∧ i0.size = 1 ∧ i0.bytes = 8) := ⟨hi, hz0, hz1, hz2⟩
  clear hi hz0 hz1 hz2
  have HNx : Hid (∀ k : Nat, k < 256 → nums ((memL M).take k) ++ [.int .i64 (M.m k)] = nums ((memL M).take (k + 1))) := fun k hk => by
    have := nums_take (l := memL M) (k := k) (by rw [memL_len]; exact hk)
    rw [memL_get] at this; exact this
  go_enter Tryd.func31, Tryd.ntmps31
  go_upto_region 1 with fail
  apply wp_region_lit
  refine wpList_make_own _ rfl _ _ 25 rfl w.heap.size 2 i0 (.int .i64 0) 1 Tryd.underlying25 HI.out.1 HI.out.2.1 HI.out.2.2.1 .i64 .i64 256 256 rfl rfl rfl (by rw [HI.out.2.2.2]; decide) (by decide) (Nat.le_refl _) ?_
  intro w1 hown hgr
  have HW : Hid (w1.ownsRow w.heap.size 2 1 (.slice (some ⟨w.heap.size, 0, none⟩) 0 256) 0 (nums ((memL M).take 0)) ∧ Below w.heap.size w w1) := ⟨hown, (Below.refl _ _).grown hgr (Nat.le_refl _) (by simp)⟩
  clear hown hgr
  go_wp2_with fail
  go_loopw [3, 4] (fun v i wz => ∃ (k : Nat) (a : Option Addr) (c : Nat), k ≤ 256 ∧ i = .int .i64 k ∧ v = .slice a k c ∧ wz.ownsRow w.heap.size 2 1 (.slice a k c) k (nums ((memL M).take k)) ∧ Below w.heap.size w wz) (fun _ i _ => 256 - (intOf i).toNat)
  case atStart => exact ⟨0, _, _, by omega, rfl, rfl, HW.out.1, HW.out.2⟩
  case round =>
    rename World => wz
    obtain ⟨k, a, c, hk, rfl, rfl, hown, hb⟩ := hrel
    have HO : Hid (wz.ownsRow w.heap.size 2 1 (.slice a k c) k (nums ((memL M).take k)) ∧ Below w.heap.size w wz) := ⟨hown, hb⟩
    clear hown hb
    by_cases hlt : k < 256
    · have hki : (k : Int) < 256 := by omega
      have c0 := (HC.out wz HO.out.2).2 k hlt
      have z0 := (HC.out wz HO.out.2).1
      go_wp2_with (first
        | (at_builtin; refine wpList_append_lies _ rfl _ _ 25 rfl w.heap.size 2 i0 (.int .i64 0) 1 8 Tryd.underlying25 HI.out.1 HI.out.2.1 HI.out.2.2.1 HI.out.2.2.2 rfl (by decide) _ _ _ rfl (HO.out.1.alloc _) ⟨wz.heap.size, 0, none⟩ 1 1 [.int .i64 (M.m k)] rfl rfl (World.news_of_block (heap_alloc_new wz (.cells #[.int .i64 (M.m k)] 2))) (by simp [Value.oneCell']) (by decide) (by unfold maxLen; omega) (by omega) (by have h5 := HO.out.2.size; simp; omega) _ rfl ?_; intro g cap w3 hown hgrow hg hlt3; have HO3 : Hid (w3.ownsRow w.heap.size 2 1 (.slice (some ⟨g, 0, none⟩) (k + 1) cap) (k + 1) (nums ((memL M).take (k + 1))) ∧ Below w.heap.size w w3) := ⟨(by rw [← HNx.out k hlt]; exact hown), (HO.out.2.alloc HO.out.2.size _).grown hgrow (by have h5 := HO.out.2.size; simp; omega) (fun b hb => (HO.out.1.lt b hb).1)⟩; clear hown hgrow hg hlt3))
      go_roundw
      case rel => exact ⟨k + 1, _, _, by omega, by go_num, rfl, HO3.out.1, HO3.out.2⟩
      case measure => simp [intOf]; omega
    · obtain rfl : k = 256 := by omega
      go_wp2_with fail
      go_ret
      have h9 := HO.out.1
      rw [List.take_of_length_le (by rw [memL_len]; omega)] at h9
      exact ⟨a, c, rfl, ⟨nl_row (by rw [memL_len]; exact h9), fun _ x e => by cases e; exact (h9.lt _ rfl).1⟩, HO.out.2⟩
/-- State on its way: the answer's box, its own box, the registers told so far. -/
structure Sw (w wz : World) (a : Option Addr) (c k : Nat) (l : List Int) : Prop where
  r0 : Op.At wz w.heap.size #[.slice none 0 0, .slice none 0 0]
  r1 : Op.At wz (w.heap.size + 1) #[.slice a k c, .slice none 0 0]
  row : wz.ownsRow (w.heap.size + 2) 2 1 (.slice a k c) k (nums (l.take k))
  up : Below w.heap.size w wz
theorem at_fr' {X : Nat → Prop} {w w' : World} {b : Nat} {cs : Array Value} (h : Op.At w b cs) (g : Fr X w w') (hx : ¬ X b) : Op.At w' b cs := ⟨fun j v e => (g.cell h.lt hx j).trans (h.c j v e), fun j => (g.frozen h.lt hx j).trans (h.f j), Nat.lt_of_lt_of_le h.lt g.size⟩
theorem sw_start (w : World) (l : List Int) : Sw w ((w.alloc (.cells #[.slice none 0 0, .slice none 0 0] 27)).alloc (.cells #[.slice none 0 0, .slice none 0 0] 27)) none 0 0 l := by
  have e2 : (w.alloc (.cells #[.slice none 0 0, .slice none 0 0] 27)).heap.size = w.heap.size + 1 := by simp
  have h1 := Op.At.new (w.alloc (.cells #[.slice none 0 0, .slice none 0 0] 27)) #[.slice none 0 0, .slice none 0 0] 27
  rw [e2] at h1
  refine ⟨(Op.At.new w _ 27).alloc _, h1, World.ownsRow_nil _ _ _ _, ((Below.refl _ _).alloc (Nat.le_refl _) _).alloc (by rw [e2]; omega) _⟩
theorem sw_next {w wz W w3 : World} {a : Option Addr} {c k g cap : Nat} {l : List Int} {v : Int} (h : Sw w wz a c k l) (hW : Below wz.heap.size wz W) (hgrow : W.grownBy w3 (Value.ownBlock (.slice a k c))) (hown : w3.ownsRow (w.heap.size + 2) 2 1 (.slice (some ⟨g, 0, none⟩) (k + 1) cap) (k + 1) (nums (l.take k) ++ [.int .i64 v])) (hl : nums (l.take k) ++ [.int .i64 v] = nums (l.take (k + 1))) :
    Op.At w3 (w.heap.size + 1) #[.slice a k c, .slice none 0 0] ∧ Sw w (w3.setCell ⟨w.heap.size + 1, 0, none⟩ (.slice (some ⟨g, 0, none⟩) (k + 1) cap)) (some ⟨g, 0, none⟩) cap (k + 1) l := by
  have hF : Fr (fun b => Value.ownBlock (.slice a k c) = some b) wz w3 := (Fr.of hW).trans (grown_fr hgrow) fun _ _ e => e
  have nb : ∀ b, b < w.heap.size + 2 → ¬ Value.ownBlock (.slice a k c) = some b := fun b hb e => by have := (h.row.lt b e).1; omega
  have h1 := at_fr' h.r1 hF (nb _ (by omega))
  have h0 := at_fr' h.r0 hF (nb _ (by omega))
  have hS : Fr (One (w.heap.size + 1)) w3 (w3.setCell ⟨w.heap.size + 1, 0, none⟩ (.slice (some ⟨g, 0, none⟩) (k + 1) cap)) := (Fr.refl (One (w.heap.size + 1)) w3).setCell (.inr rfl) _ _
  refine ⟨h1, at_fr' h0 hS (fun e => by have e : w.heap.size = w.heap.size + 1 := e; omega), at_set' h1 (j := 0) (by simp) _, ?_, ?_⟩
  · rw [← hl]
    exact row_set' hown (by omega) _
  · refine (((h.up.trans (hW.mono h.up.size)).grown hgrow ?_ fun b hb => ?_)).setCell (by show w.heap.size ≤ w.heap.size + 1; omega) _
    · exact Nat.le_trans h.up.size hW.size
    · have := (h.row.lt b hb).1; omega
set_option maxHeartbeats 4000000 in
theorem rstate_any (h : DAt w q (dG ba bl bc po pc M L)) : Calls Tryd.prog 16 #[ptr q] w fun e w' => ∃ a c b d, e = .returned (.agg #[.slice a 32 c, .slice b 256 d]) ∧ Own w w' a (regL M) ∧ Own w w' b (memL M) ∧ Below w.heap.size w w' := by
  have HC : Hid (∀ W, Below w.heap.size w W → q < W.heap.size ∧ ∀ i : Nat, i < 32 → W.cell? ⟨q, 1 + i, none⟩ = some (.int .i64 (M.r i))) := fun W hb => ⟨(h.up hb).lt, fun i hi => (h.up hb).kr hi⟩
  have HCe : Hid (∀ W, Below w.heap.size w W → Calls Tryd.prog 31 #[.pointer (some ⟨q, 33, none⟩)] W fun e w' => ∃ r c, e = .returned (.slice r 256 c) ∧ Own W w' r (memL M) ∧ Below W.heap.size W w') := fun W hb => rcells_any (h.up hb)
  have HQ : Hid (q < w.heap.size) := h.lt
  clear h
  obtain ⟨i0, hi, hi2⟩ := Option.map_eq_some_iff.1 info2
  simp only [Prod.mk.injEq] at hi2
  obtain ⟨hz0, hz1, hz2⟩ := hi2
  have HI : Hid (Tryd.prog.info? 2 = some i0 ∧ i0.zero = some (.int .i64 0) ∧ i0.size = 1 ∧ i0.bytes = 8) := ⟨hi, hz0, hz1, hz2⟩
  clear hi hz0 hz1 hz2
  have HNx : Hid (∀ k : Nat, k < 32 → nums ((regL M).take k) ++ [.int .i64 (M.r k)] = nums ((regL M).take (k + 1))) := fun k hk => by
    have := nums_take (l := regL M) (k := k) (by rw [regL_len]; exact hk)
    rw [regL_get] at this; exact this
  have HS0 : Hid (Sw w ((w.alloc (.cells #[.slice none 0 0, .slice none 0 0] 27)).alloc (.cells #[.slice none 0 0, .slice none 0 0] 27)) none 0 0 (regL M)) := sw_start w _
  go_enter Tryd.func16, Tryd.ntmps16
  go_wp2_with fail
  go_loopw [4] (fun i wz => ∃ (k : Nat) (a : Option Addr) (c : Nat), k ≤ 32 ∧ i = .int .i64 k ∧ Sw w wz a c k (regL M)) (fun i _ => 32 - (intOf i).toNat)
  case atStart => exact ⟨0, none, 0, by omega, rfl, HS0.out⟩
  case round =>
    rename World => wz
    obtain ⟨k, a, c, hk, rfl, hsw⟩ := hrel
    have HO : Hid (Sw w wz a c k (regL M)) := hsw
    clear hsw HS0
    have b0 := HO.out.r1.c 0 _ rfl
    have b1 := HO.out.r1.c 1 _ rfl
    have b2 := HO.out.r1.lt
    by_cases hlt : k < 32
    · have hki : (k : Int) < 32 := by omega
      have c0 := (HC.out wz HO.out.up).2 k hlt
      have z0 := (HC.out wz HO.out.up).1
      go_wp2_with fail
      have e1 : wz.drew.heap.size = wz.heap.size := rfl
      go_region_law
        ((refine step_append_lies _ (by rfl) _ _ 25 (by rfl) (w.heap.size + 2) 2 i0 (.int .i64 0) 1 8 Tryd.underlying25 HI.out.1 HI.out.2.1 HI.out.2.2.1 HI.out.2.2.2 rfl (by decide) _ _ _ (by rfl) (HO.out.row.drew.alloc _) ⟨wz.heap.size, 0, none⟩ 1 1 [.int .i64 (M.r k)] (by rfl) rfl (World.news_of_block (heap_alloc_new wz.drew (.cells #[.int .i64 (M.r k)] 2))) (by simp [Value.oneCell']) (by decide) (by unfold maxLen; omega) (by omega) (by have h5 := HO.out.r1.lt; simp; omega) _ rfl ?_; intro g cap w3 hown hgrow hg hlt3; have HO3 : Hid (Op.At w3 (w.heap.size + 1) #[.slice a k c, .slice none 0 0] ∧ Sw w (w3.setCell ⟨w.heap.size + 1, 0, none⟩ (.slice (some ⟨g, 0, none⟩) (k + 1) cap)) (some ⟨g, 0, none⟩) cap (k + 1) (regL M)) := sw_next HO.out (((drew_up wz).alloc (Nat.le_refl _) _)) hgrow hown (HNx.out k hlt); have d0 := HO3.out.1.c 0 _ rfl; have d1 := HO3.out.1.f 0; have d2 := HO3.out.1.lt; clear hown hgrow hg hlt3))
      all_goals
        go_wp2_with fail
        go_roundw
        case rel => exact ⟨k + 1, _, _, by omega, by go_num, HO3.out.2⟩
        case measure => simp [intOf]; omega
    · obtain rfl : k = 32 := by omega
      go_wp2_with (first | (go_at_call 31; refine Calls.mono (HCe.out _ HO.out.up) ?_; rintro e w5 ⟨r, cr, rfl, ho, hb⟩; have HF : Hid (Own wz w5 r (memL M) ∧ Below wz.heap.size wz w5) := ⟨ho, hb⟩; have m0 := (HO.out.r1.below hb HO.out.r1.lt).c 0 _ rfl; have m1 := (HO.out.r1.below hb HO.out.r1.lt).c 1 _ rfl; have m2 := (HO.out.r1.below hb HO.out.r1.lt).f 1; have m3 := (HO.out.r1.below hb HO.out.r1.lt).lt; have n0 := (HO.out.r0.below hb HO.out.r0.lt).c 0 _ rfl; have n1 := (HO.out.r0.below hb HO.out.r0.lt).c 1 _ rfl; have n2 := (HO.out.r0.below hb HO.out.r0.lt).f 0; have n3 := (HO.out.r0.below hb HO.out.r0.lt).f 1; have n4 := (HO.out.r0.below hb HO.out.r0.lt).lt; clear ho hb b0 b1 b2 HCe))
      have hne : ¬ w.heap.size + 1 = w.heap.size := by omega
      have q0 : (w5.setCell ⟨w.heap.size + 1, 1, none⟩ (.slice r 256 cr)).cell? ⟨w.heap.size, 0, none⟩ = some (.slice none 0 0) := (World.cell?_setCell_far _ _ _ _ hne).trans n0
      have q1 : (w5.setCell ⟨w.heap.size + 1, 1, none⟩ (.slice r 256 cr)).cell? ⟨w.heap.size, 1, none⟩ = some (.slice none 0 0) := (World.cell?_setCell_far _ _ _ _ hne).trans n1
      have g0 : (((w5.setCell ⟨w.heap.size + 1, 1, none⟩ (.slice r 256 cr)).setCell ⟨w.heap.size, 0, none⟩ (.slice a 32 c)).setCell ⟨w.heap.size, 1, none⟩ (.slice r 256 cr)).cell? ⟨w.heap.size, 0, none⟩ = some (.slice a 32 c) := (co (by decide)).trans (cs q0)
      have g1 : (((w5.setCell ⟨w.heap.size + 1, 1, none⟩ (.slice r 256 cr)).setCell ⟨w.heap.size, 0, none⟩ (.slice a 32 c)).setCell ⟨w.heap.size, 1, none⟩ (.slice r 256 cr)).cell? ⟨w.heap.size, 1, none⟩ = some (.slice r 256 cr) := cs ((co (by decide)).trans q1)
      have hF : Fr (fun b => b = w.heap.size ∨ b = w.heap.size + 1) w5 (((w5.setCell ⟨w.heap.size + 1, 1, none⟩ (.slice r 256 cr)).setCell ⟨w.heap.size, 0, none⟩ (.slice a 32 c)).setCell ⟨w.heap.size, 1, none⟩ (.slice r 256 cr)) := (((Fr.refl (fun b => b = w.heap.size ∨ b = w.heap.size + 1) w5).setCell (.inr (.inr rfl)) _ _).setCell (.inr (.inl rfl)) _ _).setCell (.inr (.inl rfl)) _ _
      have h2 := HF.out
      have h9 := HO.out.row
      rw [List.take_of_length_le (by rw [regL_len]; omega)] at h9
      have hz : w.heap.size + 1 < wz.heap.size := HO.out.r1.lt
      have hnl : NL wz a (regL M) := nl_row (by rw [regL_len]; exact h9)
      have hna : ∀ x, a = some x → w.heap.size + 2 ≤ x.block := fun x e => by subst e; exact (h9.lt _ rfl).1
      refine bodyPost_ret (v := .agg #[.slice a 32 c, .slice r 256 cr]) (by simp [results, Tryd.results16, go_sem, g0, g1]) rfl ⟨a, c, r, cr, rfl, ⟨(hnl.up h2.2).fr hF fun h0 x e hk => ?_, fun h0 x e => ?_⟩, ⟨h2.1.nl.fr hF fun h0 x e hk => ?_, fun h0 x e => ?_⟩, (((HO.out.up.trans (h2.2.mono HO.out.up.size)).setCell (by show w.heap.size ≤ w.heap.size + 1; omega) _).setCell (by show w.heap.size ≤ w.heap.size; omega) _).setCell (by show w.heap.size ≤ w.heap.size; omega) _⟩
      · have := hna x e
        have hk : x.block = w.heap.size ∨ x.block = w.heap.size + 1 := hk
        omega
      · have := hna x e
        omega
      · have := h2.1.new h0 x e
        have hk : x.block = w.heap.size ∨ x.block = w.heap.size + 1 := hk
        omega
      · have := h2.1.new h0 x e
        omega
end
end Go.Proofs.YtlnfhbkkodhmaaaDoor.Sm
