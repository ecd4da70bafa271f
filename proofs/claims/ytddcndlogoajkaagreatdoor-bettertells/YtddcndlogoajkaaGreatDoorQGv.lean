/- The blocks that are reached, read off the program by the walk: a map is gone through in whatever order. Conditions: the program lies in memory. -/
import Derived.Test.YtddcndlogoajkaaGreatDoorQGu
namespace Go.Proofs.YtddcndlogoajkaaGreatDoor.L8.Fl
open Go.ChangeShapes Go.WideShapes Go.ChangeAt Go.RowKit Go.Maps
open _root_.Go.Proofs.YtddcndlogoajkaaGreatDoor.L8.So _root_.Go.Proofs.YtddcndlogoajkaaGreatDoor.L8.Ss _root_.Go.Proofs.YtddcndlogoajkaaGreatDoor.L8.Op _root_.Go.Proofs.YtddcndlogoajkaaGreatDoor.L8.Fw
set_option maxRecDepth 20000

/-- The map is gone through; what came is in the row. -/
structure Ra (w wr : World) (mb r : Nat) (L : List (Nat × Nat)) (v : Value) (ys : List Nat) (left : Lit → Bool) (cnt : Nat) : Prop where
  rg : wr.ranges Tryz.prog 164 (unitElem (H := Unit)) mb r L.length (setD L) left cnt
  row : wr.ownsRow w.heap.size 3 1 v ys.length (ys.map fun (y : Nat) => Value.int .i64 (y : Int))
  b : Below w.heap.size w wr
  lf : ∀ l, left l = true → ∃ p ∈ L, l = kl p
  mem : ∀ y, y ∈ ys ↔ y = 0 ∨ ((0, y) ∈ L ∧ left (kl (0, y)) = false)
  cn : ys.length + cnt ≤ 1 + L.length
  hm : w.heap.size ≤ mb
  hr : w.heap.size ≤ r
theorem setD_mem {L : List (Nat × Nat)} {l : Lit} (h : Maps.has (setD L) l = true) : ∃ p ∈ L, l = kl p := by
  unfold setD at h
  rw [has_setOf _ _ _ (fun x hx => by obtain ⟨q, _, rfl⟩ := List.mem_map.1 hx; exact kl_key q)] at h
  simp only [List.any_eq_true, List.mem_map] at h
  obtain ⟨x, ⟨q, hq, rfl⟩, hx⟩ := h
  exact ⟨q, hq, (WideAt.sameKey_eq hx).symm⟩
theorem row_iter {w : World} {B r : Nat} {e : TypeId} {z n : Nat} {v : Value} {xs : List Value} {mb m cnt : Nat} {D : DataW Unit} {left : Lit → Bool} (h : w.ownsRow B e z v n xs) (g : w.ranges Tryz.prog 164 (unitElem (H := Unit)) mb r m D left cnt) : v.ownBlock ≠ some r ∧ v.ownBlock ≠ some mb := by
  obtain ⟨es, clock, since, seen, c0, g1, g2, g3, g4, g5, _⟩ := g
  rcases h.2 with ⟨rfl, _⟩ | ⟨b, cap, cur, rfl, _, h3, _⟩
  · simp [Value.ownBlock]
  · simp only [Value.ownBlock, ne_eq, Option.some.injEq]
    constructor
    · rintro rfl; rw [h3] at g5; simp at g5
    · rintro rfl; rw [h3] at g1; simp at g1
/-- A pair comes, and its block goes into the row. -/
theorem Ra.step {w wr w1 w2 : World} {mb r : Nat} {L : List (Nat × Nat)} {v v2 : Value} {ys : List Nat} {left : Lit → Bool} {cnt cnt1 : Nat} {y : Nat} {o o2 : Obj} (h : Ra w wr mb r L v ys left cnt) (hy : (0, y) ∈ L) (hS : Sm L)
    (hrg : w1.ranges Tryz.prog 164 (unitElem (H := Unit)) mb r L.length (setD L) (fun z => left z && !z.sameKey (kl (0, y))) cnt1) (hlt : cnt1 < cnt) (hg1 : wr.grownBy w1 (some r))
    (ho : w2.ownsRow w.heap.size 3 1 v2 (ys.length + 1) (ys.map (fun (y : Nat) => Value.int .i64 (y : Int)) ++ [.int .i64 (y : Int)])) (hg2 : ((w1.alloc o).alloc o2).grownBy w2 v.ownBlock) :
    Ra w w2 mb r L v2 (ys ++ [y]) (fun z => left z && !z.sameKey (kl (0, y))) cnt1 := by
  have hv := row_iter h.row h.rg
  have hb1 : Below w.heap.size w w1 := h.b.grown hg1 h.b.size (fun j hj => by cases hj; exact h.hr)
  refine ⟨((hrg.alloc o).alloc o2).kept hg2 (fun e => hv.2 e.symm) (fun e => hv.1 e.symm), ?_, ?_, fun l hl => ?_, fun z => ?_, ?_, h.hm, h.hr⟩
  · rw [List.map_append, List.length_append]; exact ho
  · have := ((hb1.alloc hb1.size o).alloc (by have := hb1.size; simp; omega) o2)
    exact this.grown hg2 (by have := hb1.size; simp; omega) (fun b hb => (h.row.lt b hb).1)
  · rw [Bool.and_eq_true] at hl
    exact h.lf l hl.1
  · have h0 := h.mem z
    rw [List.mem_append, List.mem_singleton, h0]
    constructor
    · rintro (h1 | rfl)
      · rcases h1 with h1 | ⟨h1, h2⟩
        · exact Or.inl h1
        · exact Or.inr ⟨h1, by rw [h2]; rfl⟩
      · exact Or.inr ⟨hy, by rw [WideAt.sameKey_self (kl_key _)]; simp⟩
    · rintro (h1 | ⟨h1, h2⟩)
      · exact Or.inl (Or.inl h1)
      · rw [Bool.and_eq_false_iff] at h2
        rcases h2 with h2 | h2
        · exact Or.inl (Or.inr ⟨h1, h2⟩)
        · right
          have e : kl (0, z) = kl (0, y) := WideAt.sameKey_eq (by simpa using h2)
          have := kl_inj (hS _ h1) (hS _ hy) e
          simpa using this
  · have := h.cn
    rw [List.length_append]; simp; omega
/-- The search is done over a new map. -/
structure Rs (w w4 : World) (mb : Nat) (L : List (Nat × Nat)) (ps : List Bk) : Prop where
  m : Mp w4 mb L
  s : Srch ps 0 [] L
  b : Below w.heap.size w w4
  hm : w.heap.size ≤ mb
theorem Rs.mk' {w w1 w4 : World} {L : List (Nat × Nat)} {ps : List Bk} {o1 o2 o3 : Obj} (hb : Below w.heap.size w w1) (hM : Mp w4 w1.heap.size L) (hS : Srch ps 0 [] L) (hF : Fr (One w1.heap.size) (((w1.alloc o1).alloc o2).alloc o3) w4) : Rs w w4 w1.heap.size L ps := by
  have h1 : Fr (One w1.heap.size) w1 w4 := ((((Fr.refl (One w1.heap.size) w1).alloc o1).alloc o2).alloc o3).same hF
  refine ⟨hM, hS, hb.trans (h1.below hb.size fun k hk e => ?_), hb.size⟩
  have : k = w1.heap.size := e
  have := hb.size
  omega
theorem Rs.start {w w4 w5 : World} {mb : Nat} {L : List (Nat × Nat)} {ps : List Bk} (h : Rs w w4 mb L ps) (hrg : w5.ranges Tryz.prog 164 (unitElem (H := Unit)) mb (w4.heap.size + 1) L.length (setD L) (Maps.has (setD L)) (Maps.size (setD L))) (hg : (w4.alloc (.cells #[.int .i64 0] 3)).grownBy w5 none) :
    Ra w w5 mb (w4.heap.size + 1) L (.slice (some ⟨w4.heap.size, 0, none⟩) 1 1) [0] (Maps.has (setD L)) (Maps.size (setD L)) := by
  have hb4 := h.b.size
  have hrow : (w4.alloc (.cells #[.int .i64 0] 3)).ownsRow w.heap.size 3 1 (.slice (some ⟨w4.heap.size, 0, none⟩) 1 1) 1 [.int .i64 0] :=
    ⟨rfl, .inr ⟨w4.heap.size, 1, #[.int .i64 0], rfl, hb4, heap_alloc_new w4 _, Nat.le_refl _, by unfold maxLen; omega, rfl, rfl⟩⟩
  refine ⟨hrg, hrow.kept hg (by right; simp [Value.ownBlock]), (h.b.alloc hb4 _).grown hg (by simp; omega) (fun j hj => by cases hj), fun l hl => setD_mem hl, fun y => ?_, ?_, h.hm, by omega⟩
  · constructor
    · intro hy; simp at hy; exact Or.inl hy
    · rintro (hy | ⟨h1, h2⟩)
      · simp [hy]
      · rw [setD_has h.m.sm (h.m.sm _ h1), decide_eq_true h1] at h2; cases h2
  · have := hrg.owns.size_le
    simp; omega
/-- What is reached, as a list. -/
noncomputable def reachI (ps : List Bk) : List Int := if knB ps 0 then (reachL (tB ps) ps.length).map fun (i : Nat) => (i : Int) else []
theorem reachI_rise (ps : List Bk) : ((reachL (tB ps) ps.length).map fun (i : Nat) => (i : Int)).Pairwise (· < ·) := by
  rw [List.pairwise_map]
  unfold reachL
  refine (List.pairwise_lt_range (n := ps.length)).filter _ |>.imp ?_
  intro a b h
  omega
theorem reachI_mem {ps : List Bk} (hp : 0 < ps.length) {L : List (Nat × Nat)} (hS : Srch ps 0 [] L) {ys : List Nat} (hm : ∀ y, y ∈ ys ↔ y = 0 ∨ (0, y) ∈ L) (z : Int) :
    z ∈ ((reachL (tB ps) ps.length).map fun (i : Nat) => (i : Int)) ↔ ∃ j, j < ys.length ∧ (fun k => ((ys.getD k 0 : Nat) : Int)) j = z := by
  rw [List.mem_map]
  constructor
  · rintro ⟨i, hi, rfl⟩
    simp only [reachL, List.mem_filter, List.mem_range, Bool.or_eq_true, beq_iff_eq] at hi
    have : i ∈ ys := (hm i).2 (by
      rcases hi.2 with h | h
      · exact Or.inr ((hS.is i).2 (wB_iff.1 h))
      · exact Or.inl h)
    obtain ⟨j, hj, e⟩ := List.getElem_of_mem this
    exact ⟨j, hj, by simp [List.getD_eq_getElem?_getD, List.getElem?_eq_getElem hj, e]⟩
  · rintro ⟨j, hj, rfl⟩
    refine ⟨ys[j], ?_, by simp [List.getD_eq_getElem?_getD, List.getElem?_eq_getElem hj]⟩
    simp only [reachL, List.mem_filter, List.mem_range, Bool.or_eq_true, beq_iff_eq]
    rcases (hm ys[j]).1 (List.getElem_mem hj) with h | h
    · exact ⟨by omega, Or.inr h⟩
    · have := (hS.is _).1 h
      exact ⟨this.lt, Or.inl (wB_iff.2 this)⟩

set_option maxHeartbeats 8000000 in
theorem reached_any (ao : Option Addr) (cap : Nat) (ps : List Bk) (w : World) (h : PAt w ao ps) (he : Env w) :
    Calls Tryz.prog 88 #[.agg #[.slice ao ps.length cap]] w fun e w' => ∃ v, e = .returned v ∧ Got w w' v (reachI ps) := by
  have hb1 : Below w.heap.size w (w.alloc (.cells #[.slice ao ps.length cap] 24)) := by go_grown
  have HK : Hid (Calls Tryz.prog 104 #[.agg #[.slice ao ps.length cap], .int .i64 0] (w.alloc (.cells #[.slice ao ps.length cap] 24)) fun e w' => e = .returned (.bool (knB ps 0)) ∧ Below (w.alloc (.cells #[.slice ao ps.length cap] 24)).heap.size (w.alloc (.cells #[.slice ao ps.length cap] 24)) w') := known_any ao cap ps 0 _ (h.below hb1) (he.up hb1)
  unfold reachI
  by_cases hk : knB ps 0 = true
  · rw [if_pos hk]
    rw [hk] at HK
    have hk' := hk
    unfold knB at hk'
    simp only [Bool.and_eq_true, decide_eq_true_eq] at hk'
    have hG := good_of hk'.2
    have hpos := hG.pos
    have hle := hG.le
    have HP : Hid (PAt w ao ps ∧ ∀ b f, ao = some ⟨b, f, none⟩ → b < w.heap.size) := ⟨h, fun b f e => by
      obtain ⟨b', f', e', hlt, _⟩ := h.is hpos
      rw [e] at e'; injection e' with e'; injection e' with e1; omega⟩
    have hmm := @run_makeMap Tryz.prog
    have HSr : Hid _ := searcher_any ao cap
    have HG : Hid (∀ (bp bm mb : Nat) w', Two w' bp bm mb ao cap ps → Mp w' mb [] → Calls Tryz.prog 115 #[.int .i64 0, .pointer (some ⟨bp, 0, none⟩), .pointer (some ⟨bm, 0, none⟩)] w' fun e w2 => e = .returned (.tuple #[]) ∧ ∃ L', Mp w2 mb L' ∧ Srch ps 0 [] L' ∧ Fr (One mb) w' w2) := fun bp bm mb w' h1 h2 => search_any bp bm mb ao cap 0 ps [] w' h1 h2 hG hpos (fun z hz => by simp at hz) (by simp)
    obtain ⟨i0, hi, hi2⟩ := Option.map_eq_some_iff.1 info3
    simp only [Prod.mk.injEq] at hi2
    obtain ⟨hz0, hz1, hz2⟩ := hi2
    have HI : Hid (Tryz.prog.info? 3 = some i0 ∧ i0.zero = some (.int .i64 0) ∧ i0.size = 1 ∧ i0.bytes = 8) := ⟨hi, hz0, hz1, hz2⟩
    clear h he hk hb1 hi hz0 hz1 hz2 hG hk'
    go_enter Tryz.func88, Tryz.ntmps88
    go_wp2_with (first
      | (go_at_call 104; refine Calls.mono HK.out ?_; rintro e w1 ⟨rfl, hb⟩; obtain ⟨a1, hb0, hz⟩ := one_new w _ _ hb; have HB1 : Hid (Below w.heap.size w w1) := hb0; have cb := a1.c 0 _ rfl; have HA1 : Hid (At w1 w.heap.size #[.slice ao ps.length cap]) := a1; have cc := ((a1.alloc (.map #[] 0))).c 0 _ rfl; clear hb hb0 a1 HK)
      | (go_at_call 105; refine Calls.mono (HSr.out _ _ _) ?_; rintro e w2 ⟨rfl, hw⟩; subst w2; clear HSr)
      | (go_at_call 115; refine Calls.mono (HG.out _ _ _ _ (two_made (HP.out.1.below HB1.out) fun b f e => Nat.lt_of_lt_of_le (HP.out.2 b f e) HB1.out.size).1 (two_made (HP.out.1.below HB1.out) fun b f e => Nat.lt_of_lt_of_le (HP.out.2 b f e) HB1.out.size).2) ?_; rintro e w4 ⟨rfl, L, hM, hSr, hF⟩; have HX : Hid (Rs w w4 w1.heap.size L ps) := Rs.mk' HB1.out hM hSr hF; clear hM hSr hF HG cb cc HA1)
      | (at_range; refine wpList_range_own _ rfl _ 162 rfl 164 148 law52 Tryz.underlying162 _ w1.heap.size _ _ rfl (HX.out.m.own.alloc _) ?_; intro w5 hrg5 hg5 hs5))
    go_frame
    have e1 : (w4.alloc (.cells #[.int .i64 0] 3)).heap.size = w4.heap.size + 1 := by simp
    rw [e1] at hrg5 hs5 ⊢
    have HR5 : Hid (Ra w w5 w1.heap.size (w4.heap.size + 1) L (.slice (some ⟨w4.heap.size, 0, none⟩) 1 1) [0] (Maps.has (setD L)) (Maps.size (setD L))) := HX.out.start hrg5 hg5
    have HSr' : Hid (Srch ps 0 [] L) := HX.out.s
    have HSm : Hid (Sm L) := HX.out.m.sm
    have hL1 : L.length ≤ 128 := by have := HX.out.s.len; simp at this; omega
    have hlow : Hid (w.heap.size ≤ w1.heap.size) := HB1.out.size
    clear hrg5 hg5 hs5 HX HB1 HP e1 hmm
    generalize w1.heap.size = mb at *
    generalize w4.heap.size = r0 at *
    go_loopg [4] 1000 (fun g1 v wr => ∃ (ys : List Nat) (left : Lit → Bool) (cnt : Nat), cnt < g1 ∧ Hid (Ra w wr mb (r0 + 1) L v ys left cnt))
    case atStart => exact ⟨[0], _, _, by have := HR5.out.cn; simp at this; omega, HR5.out⟩
    case round =>
      clear HR5
      obtain ⟨ys, left, cnt, hcg, HR⟩ := hrel
      have hyl := HR.out.cn
      go_wp2_with (first
        | (at_next; refine wpList_next_ranges _ rfl _ rfl 164 law52 (unitElem (H := Unit)) (fun p : Int × Int => .agg #[.int .i64 p.1, .int .i64 p.2]) (fun _ : Unit => .agg #[]) (fun key kl h => by obtain ⟨x, y, e, _⟩ := key_inv h; exact ⟨(x, y), e⟩) (fun v y h => ⟨(), (unitElem_inv h).1⟩) mb (r0 + 1) _ _ _ _ rfl HR.out.rg ?_ ?_))
      · intro hc0 hl0
        have hmem : Hid (∀ y, y ∈ ys ↔ y = 0 ∨ (0, y) ∈ L) := fun y => by rw [HR.out.mem y, hl0]; simp
        have HW : Hid (Ra w wr mb (r0 + 1) L u4 ys left cnt) := HR.out
        have hrow := HR.out.row
        have hne : 0 < ys.length := by
          have : (0 : Nat) ∈ ys := (hmem.out 0).2 (Or.inl rfl)
          exact List.length_pos_of_mem this
        obtain ⟨g, cp, cur, hv, hgb, hgh, hgn, hgc, hgs, hgt⟩ : ∃ g cp cur, u4 = .slice (some ⟨g, 0, none⟩) ys.length cp ∧ w.heap.size ≤ g ∧ wr.heap[g]? = some (.cells cur 3 (0, 0)) ∧ ys.length ≤ cp ∧ cp ≤ maxLen ∧ cur.size = cp * 1 ∧ cur.toList.take (ys.length * 1) = ys.map fun (y : Nat) => Value.int .i64 (y : Int) := by
          rcases hrow.2 with ⟨_, h1⟩ | h1
          · omega
          · exact h1
        have hglt : g < wr.heap.size := (hrow.lt g (by rw [hv]; rfl)).2
        have hcell := hrow.cells (g := g) (by rw [hv]; rfl)
        have HRi : Hid (Calls Tryz.prog 106 #[.slice (some ⟨g, 0, none⟩) ys.length cp, .func (.func 107) #[] #[]] wr fun e w' => ∃ k, e = .returned (.slice (some ⟨g, 0, none⟩) k cp) ∧ (k = ((reachL (tB ps) ps.length).map fun (i : Nat) => (i : Int)).length ∧ Il w' w.heap.size (some ⟨g, 0, none⟩) ((reachL (tB ps) ps.length).map fun (i : Nat) => (i : Int))) ∧ Below w.heap.size w w') := by
          refine (Si.rising_any g ys.length cp (fun k => ((ys.getD k 0 : Nat) : Int)) wr (fun k hk => ?_) (fun k => ?_) hglt hgn (by unfold maxLen at hgc; omega) (by omega)).mono ?_
          · have := hcell k (.int .i64 ((ys[k] : Nat) : Int)) (by rw [List.getElem?_map, List.getElem?_eq_getElem hk]; rfl)
            have e : (⟨g, 0, none⟩ : Addr).add k = ⟨g, k, none⟩ := by
              by_cases c : k = 0
              · subst c; simp [Addr.add]
              · simp [Addr.add, c]
            rw [e] at this
            rw [this, List.getD_eq_getElem?_getD, List.getElem?_eq_getElem hk]; rfl
          · simp [World.frozen?, hgh]
          · rintro e w' ⟨k, rfl, f, hf⟩
            exact ⟨k, rfl, rised_list hf hgb hglt (reachI_rise ps) (reachI_mem hpos HSr'.out hmem.out), HW.out.b.trans (hf.fr.below HW.out.b.size fun q hq e => by have : q = g := e; omega)⟩
        subst hv
        clear hrow hgh hgt hgs hcell hmem HSr' hl0 HR
        go_wp2_with (first | (go_at_call 106; refine Calls.mono HRi.out ?_; rintro e w7 ⟨k, rfl, ⟨hk, hI⟩, hb⟩; have HY : Hid (k = ((reachL (tB ps) ps.length).map fun (i : Nat) => (i : Int)).length ∧ Il w7 w.heap.size (some ⟨g, 0, none⟩) ((reachL (tB ps) ps.length).map fun (i : Nat) => (i : Int)) ∧ Below w.heap.size w w7) := ⟨hk, hI, hb⟩; clear hk hI hb HRi))
        go_ret
        exact ⟨_, rfl, _, _, by rw [← HY.out.1]; rfl, HY.out.2.1, HY.out.2.2⟩
      · intro px py kl' d' ps' w6 cnt1 hkey hlk hv hat hrg hlt hg hs hen
        obtain ⟨q, hq, rfl⟩ := HR.out.lf kl' hlk
        have hq0 : q.1 = 0 := by
          rcases Nat.eq_zero_or_pos q.1 with h | h
          · exact h
          · have := (HSr'.out.other q.1 q.2 (by omega)).1 hq
            simp at this
        obtain ⟨q1, y⟩ := q
        simp only at hq0
        subst hq0
        have hsm := HSm.out _ hq
        have hkk := key_kl hsm hkey
        simp at hkk
        obtain ⟨rfl, rfl⟩ := hkk
        have HW : Hid (Ra w wr mb (r0 + 1) L u4 ys left cnt ∧ w6.ranges Tryz.prog 164 (unitElem (H := Unit)) mb (r0 + 1) L.length (setD L) (fun z => left z && !z.sameKey (kl (0, y))) cnt1 ∧ wr.grownBy w6 (some (r0 + 1)) ∧ (0, y) ∈ L) := ⟨HR.out, hrg, hg, hq⟩
        have hrow : Hid (w6.ownsRow w.heap.size 3 1 u4 ys.length (ys.map fun (y : Nat) => Value.int .i64 (y : Int))) := HR.out.row.kept hg (Or.inr (row_iter HR.out.row HR.out.rg).1)
        have hsz6 : Hid (w.heap.size ≤ w6.heap.size) := by show _ ≤ _; rw [hs]; exact HR.out.b.size
        have hnews : Hid (∀ (j : Nat) (u : Value), [Value.int .i64 (y : Int)][j]? = some u → ((w6.alloc (.cells #[.int .i64 0, .int .i64 (y : Int)] 164)).alloc (.cells #[.int .i64 (y : Int)] 3)).cell? ((⟨w6.heap.size + 1, 0, none⟩ : Addr).add j) = some u) := by
          have h := World.news_of_block (heap_alloc_new (w6.alloc (.cells #[.int .i64 0, .int .i64 (y : Int)] 164)) (.cells #[.int .i64 (y : Int)] 3))
          have e : (w6.alloc (.cells #[.int .i64 0, .int .i64 (y : Int)] 164)).heap.size = w6.heap.size + 1 := by simp
          rw [e] at h
          exact h
        clear HR hkey hlk hv hat hrg hg hq hs hsm
        go_wp2_with (first
          | (at_builtin; refine wpList_append_lies _ rfl _ _ 143 rfl w.heap.size 3 i0 (.int .i64 0) 1 8 Tryz.underlying143 HI.out.1 HI.out.2.1 HI.out.2.2.1 HI.out.2.2.2 rfl (by decide) _ _ _ rfl ((hrow.out.alloc _).alloc _) ⟨w6.heap.size + 1, 0, none⟩ 1 1 [.int .i64 (y : Int)] rfl rfl hnews.out (by simp [Value.oneCell']) (by decide) (by unfold maxLen; omega) (by omega) (by have := hsz6.out; simp; omega) (w6.heap.size + 1 + 1) (by simp) ?_; intro g cap' w7 hown1 hgrow hat hlt3))
        go_roundg cnt
        case measure => omega
        case rel => exact ⟨ys ++ [y], _, cnt1, by omega, HW.out.1.step HW.out.2.2.2 HSm.out HW.out.2.1 hlt HW.out.2.2.1 hown1 hgrow⟩
  · rw [if_neg hk]
    have hk' : knB ps 0 = false := by simpa using hk
    rw [hk'] at HK
    clear h he hk hb1
    go_enter Tryz.func88, Tryz.ntmps88
    go_wp2_with (first | (go_at_call 104; refine Calls.mono HK.out ?_; rintro e w1 ⟨rfl, hb⟩; obtain ⟨a1, hb0, hz⟩ := one_new w _ _ hb; have HB1 : Hid _ := hb0; clear hb hb0 a1 HK))
    go_ret
    exact ⟨_, rfl, _, _, rfl, Il.nil _ _ _, HB1.out⟩
end Go.Proofs.YtddcndlogoajkaaGreatDoor.L8.Fl
