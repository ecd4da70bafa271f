/- What is into each block, read off the program by the walk: sets grow out of a list of work until it is empty. Conditions: the program lies in memory; the variable lies there as the program lays it. -/
import Derived.Test.YtddcndlogoajkaaGreatDoorQVd
import Derived.Deep.DeepCutAuto
namespace Go.Proofs.YtddcndlogoajkaaGreatDoor.L8.Li
open Go.ChangeShapes Go.WideShapes Go.ChangeAt Go.RowKit Go.Maps
open _root_.Go.Proofs.YtddcndlogoajkaaGreatDoor.L8.So _root_.Go.Proofs.YtddcndlogoajkaaGreatDoor.L8.Op _root_.Go.Proofs.YtddcndlogoajkaaGreatDoor.L8.Fl _root_.Go.Proofs.YtddcndlogoajkaaGreatDoor.L8.Lv
set_option maxRecDepth 20000

theorem info143 : (Tryz.prog.info? 143).map (fun i => (i.zero, i.size, i.bytes)) = some (some (.slice none 0 0), 1, 24) := by kernel_rfl
theorem info99 : (Tryz.prog.info? 99).map (fun i => (i.zero, i.size, i.bytes)) = some (some (.int .u32 0), 1, 4) := by kernel_rfl
/-- What is handed back: a list of sets. -/
def Gu (w w' : World) (v : Value) (xs : List Nat) : Prop := ∃ a c, v = .slice a xs.length c ∧ Ul w' a xs ∧ Below w.heap.size w w'
theorem in_no (ao : Option Addr) (cap : Nat) (ps : List Bk) (w : World) (h : PAt w ao ps) (he : Env w) (hc : ckP ps ≠ 0) :
    Calls Tryz.prog 70 #[.agg #[.slice ao ps.length cap]] w fun e w' => e = .returned (.slice none 0 0) ∧ Below w.heap.size w w' := by
  have hb1 : Below w.heap.size w (w.alloc (.cells #[.slice ao ps.length cap] 24)) := below_al _
  have HK : Hid (Calls Tryz.prog 88 #[.agg #[.slice ao ps.length cap]] (w.alloc (.cells #[.slice ao ps.length cap] 24)) fun e w' => ∃ a c, e = .returned (.slice a 0 c) ∧ Below (w.alloc (.cells #[.slice ao ps.length cap] 24)).heap.size (w.alloc (.cells #[.slice ao ps.length cap] 24)) w') :=
    (reached_any ao cap ps _ (h.below hb1) (he.up hb1)).mono fun e w' ⟨v, h1, a, c, h2, _, h3⟩ => ⟨a, c, by rw [h1, h2, reach_no hc]; rfl, h3⟩
  clear h he hc hb1
  go_enter Tryz.func70, Tryz.ntmps70
  go_wp2_with (first | (go_at_call 88; refine Calls.mono HK.out ?_; rintro e w1 ⟨a, c, rfl, hb⟩; obtain ⟨a1, hb0, hz⟩ := one_new w _ _ hb; have HB1 : Hid _ := hb0; clear hb hb0 a1 HK))
  go_ret
  exact ⟨rfl, HB1.out⟩

/-- Blocks in the list of work beside those there were: the first k of a list. -/
structure L3 (D1 D : DataW Unit) (l : List Int) (k : Nat) : Prop where
  has : ∀ j : Nat, Maps.has D (kn j) = true ↔ Maps.has D1 (kn j) = true ∨ (j : Int) ∈ l.take k
  sz : Maps.size D ≤ Maps.size D1 + k
theorem L3.start (D : DataW Unit) (l : List Int) : L3 D D l 0 := ⟨fun j => by simp, Nat.le_refl _⟩
theorem L3.step {D1 D : DataW Unit} {l : List Int} {k y : Nat} (h : L3 D1 D l k) (hD : Tidy D) (hk : k < l.length) (hy : l[k] = (y : Int)) : L3 D1 (D.put (kn y) (.agg [])) l (k + 1) :=
  ⟨fun j => by
    rw [has_put hD.isMap, h.has j, List.take_succ_eq_append_getElem hk, List.mem_append, List.mem_singleton, hy]
    constructor
    · rintro (h | h | h)
      · exact Or.inr (Or.inr (by omega))
      · exact Or.inl h
      · exact Or.inr (Or.inl h)
    · rintro (h | h | h)
      · exact Or.inr (Or.inl h)
      · exact Or.inr (Or.inr h)
      · exact Or.inl (by omega), by
    have := size_put_le hD y
    have := h.sz
    omega⟩
/-- One block is done: nothing grew. -/
theorem work_same {ps : List Bk} {xs : List Nat} {D : DataW Unit} {g : Nat} (hW : Work (PB ps) xs fun j => Maps.has D (kn j) = true) (hg : g < ps.length) (hx : xs.length = ps.length) (he : intoN (bOf ps[g]) xs = inN xs g) : Work (PB ps) xs fun j => Maps.has (D.del (kn g)) (kn j) = true := by
  have e1 : inN xs g ||| intoN (bOf ps[g]) xs = inN xs g := by rw [he, Nat.or_self]
  have h := hW.step (work' := fun j => Maps.has (D.del (kn g)) (kn j) = true) (pb_at hg) (by omega) (fun j hj hne => (has_del g j).2 ⟨hne, hj⟩) (fun hne => absurd e1 hne)
  rw [e1, inN_eq (by omega), List.set_getElem_self] at h
  exact h
theorem work_more {ps : List Bk} {xs : List Nat} {D D' : DataW Unit} {g : Nat} (hc : ckP ps = 0) (hW : Work (PB ps) xs fun j => Maps.has D (kn j) = true) (hg : g < ps.length) (hx : xs.length = ps.length) (hr : Rise (PB ps) xs) (h3 : L3 (D.del (kn g)) D' (Fl.aheadL ps (g : Int)) (Fl.aheadL ps (g : Int)).length) :
    Work (PB ps) (xs.set g (intoN (bOf ps[g]) xs)) fun j => Maps.has D' (kn j) = true := by
  have h := hW.step (work' := fun j => Maps.has D' (kn j) = true) (pb_at hg) (by omega) (fun j hj hne => (h3.has j).2 (Or.inl ((has_del g j).2 ⟨hne, hj⟩))) (fun _ j k' hk' hs => (h3.has j).2 (Or.inr (by rw [List.take_length]; exact ahead_of hc hg hk' hs)))
  rw [hr g _ (pb_at hg)] at h
  exact h
theorem left_less {ps : List Bk} {xs : List Nat} {g : Nat} (hs : ∀ (i : Nat) k, (PB ps)[i]? = some k → SmallB k) (hf : Fit xs) (hg : g < ps.length) (hx : xs.length = ps.length) (hr : Rise (PB ps) xs) (hne : intoN (bOf ps[g]) xs ≠ inN xs g) : left (xs.set g (intoN (bOf ps[g]) xs)) < left xs := by
  have e := hr g _ (pb_at hg)
  have h1 := grow (inN xs g) (intoN (bOf ps[g]) xs)
  rw [e] at h1
  refine left_set (by omega) ?_ (intoN_lt (hs g _ (pb_at hg)) hf)
  rw [← inN_eq (by omega : g < xs.length)]
  omega
theorem L2.up {w wA wr : World} {ps : List Bk} {mb bI : Nat} {xs : List Nat} {D : DataW Unit} (h : L2 wA wr ps mb bI xs D) (hb : Below w.heap.size w wA) (hm : w.heap.size ≤ mb) : Below w.heap.size w wr :=
  hb.trans (h.fr.below hb.size fun j hj e => by
    have e : j = mb := e
    omega)
set_option maxHeartbeats 8000000 in
theorem in_yes (ao : Option Addr) (cap : Nat) (ps : List Bk) (w : World) (h : PAt w ao ps) (he : Env w) (hc : ckP ps = 0) :
    Calls Tryz.prog 70 #[.agg #[.slice ao ps.length cap]] w fun e w' => ∃ v xs, e = .returned v ∧ Gu w w' v xs ∧ So (PB ps) xs ∧ ∀ (i : Nat) k, (PB ps)[i]? = some k → Lv.Shut k xs i := by
  have hb1 : Below w.heap.size w (w.alloc (.cells #[.slice ao ps.length cap] 24)) := below_al _
  have HK : Hid (Calls Tryz.prog 88 #[.agg #[.slice ao ps.length cap]] (w.alloc (.cells #[.slice ao ps.length cap] 24)) fun e w' => ∃ a n c, e = .returned (.slice a n c) ∧ 0 < n ∧ Below (w.alloc (.cells #[.slice ao ps.length cap] 24)).heap.size (w.alloc (.cells #[.slice ao ps.length cap] 24)) w') :=
    (reached_any ao cap ps _ (h.below hb1) (he.up hb1)).mono fun e w' ⟨v, h1, a, c, h2, _, h3⟩ => ⟨a, _, c, by rw [h1, h2], reach_pos hc, h3⟩
  have HA : Hid (∀ (i : Nat) W, Below w.heap.size w W → Calls Tryz.prog 89 #[.agg #[.slice ao ps.length cap], .int .i64 (i : Int)] W fun e w' => ∃ a c, e = .returned (.slice a (Fl.aheadL ps (i : Int)).length c) ∧ Il w' W.heap.size a (Fl.aheadL ps (i : Int)) ∧ Below W.heap.size W w') := fun i W hb =>
    (ahead_any ao cap ps i W (h.below hb) (he.up hb)).mono fun e w' ⟨v, h1, a, c, h2, h3, h4⟩ => ⟨a, c, by rw [h1, h2], h3, h4⟩
  have hG := good_of hc
  have hpos := hG.pos
  have hle := hG.le
  have hsm := pb_small hc (psOk_of h)
  have HSm : Hid (∀ (i : Nat) k, (PB ps)[i]? = some k → SmallB k) := hsm
  obtain ⟨bp, fp, rfl, hblt, hx⟩ := h.is hpos
  have HX : Hid (∀ (i : Nat) (h : i < ps.length), ∃ p, BAt w bp (fp + i * 6) ps[i] p ∧ BIn w ps[i] p) := hx
  have HE : Hid (∀ (i : Nat) (h : i < ps.length), endB ps[i] ps.length = true) := fun i hi => end_of (ck_blocks hc _ (List.getElem_mem hi))
  have HGr : Hid (∀ mb D W, Wm W mb D ps.length → 0 < Maps.size D → Calls Tryz.prog 90 #[.map (some mb)] W fun e w' => ∃ g : Nat, e = .returned (.int .i64 (g : Int)) ∧ g < ps.length ∧ Maps.has D (kn g) = true ∧ Below W.heap.size W w') := fun mb D W hW hD => greatest_any mb ps.length D W hW hD
  have HIn : Hid (∀ (i : Nat) (hi : i < ps.length) p bI c xs W, BIn W ps[i] p → Op.At W bI (uc xs) → Fit xs → xs.length = ps.length → Calls Tryz.prog 91 #[ps[i].val p, .slice (some ⟨bI, 0, none⟩) ps.length c] W fun e w' => e = .returned (.int .u32 ((intoN (bOf ps[i]) xs : Nat) : Int)) ∧ Below W.heap.size W w') := fun i hi p bI c xs W h1 h2 h3 h4 => by
    have := into_any ps[i] p (some ⟨bI, 0, none⟩) c xs W h1 (ul_of h2) h3 (by omega) (by rw [h4]; exact HE.out i hi)
    rw [h4] at this
    exact this
  have hmm := @run_makeMap Tryz.prog
  obtain ⟨i0, hi, hi2⟩ := Option.map_eq_some_iff.1 info143
  simp only [Prod.mk.injEq] at hi2
  obtain ⟨hz0, hz1, hz2⟩ := hi2
  have HI : Hid (Tryz.prog.info? 143 = some i0 ∧ i0.zero = some (.slice none 0 0) ∧ i0.size = 1 ∧ i0.bytes = 24) := ⟨hi, hz0, hz1, hz2⟩
  clear hi hz0 hz1 hz2
  obtain ⟨i1, hi, hi2⟩ := Option.map_eq_some_iff.1 info99
  simp only [Prod.mk.injEq] at hi2
  obtain ⟨hz0, hz1, hz2⟩ := hi2
  have HJ : Hid (Tryz.prog.info? 99 = some i1 ∧ i1.zero = some (.int .u32 0) ∧ i1.size = 1 ∧ i1.bytes = 4) := ⟨hi, hz0, hz1, hz2⟩
  clear hi hz0 hz1 hz2 h he hb1 hG hsm hx
  have HC : Hid (ckP ps = 0) := hc
  clear hc
  go_enter Tryz.func70, Tryz.ntmps70
  go_wp2_with (first
    | (go_at_call 88; refine Calls.mono HK.out ?_; rintro e w1 ⟨a, n0, c, rfl, hn0, hb⟩; obtain ⟨a1, hb0, hz⟩ := one_new w _ _ hb; have HB1 : Hid (Below w.heap.size w w1) := hb0; have cb := a1.c 0 _ rfl; have HA1 : Hid (Op.At w1 w.heap.size #[.slice (some ⟨bp, fp, none⟩) ps.length cap]) := a1; have hn1 : ¬ (n0 : Int) = 0 := (by omega); clear hb hb0 a1 HK)
    | (at_make; refine wpList_make_row _ rfl _ _ 145 rfl 143 i0 (.slice none 0 0) Tryz.underlying145 HI.out.1 HI.out.2.1 HI.out.2.2.1 rfl .i64 .i64 ps.length rfl rfl (by rw [HI.out.2.2.2]; omega) (by omega) ?_; have cc := ((HA1.out.alloc (.cells (madeCells #[.slice none 0 0] ps.length) 143)).alloc (.map #[] 0)).c 0 _ rfl))
  have HS : Hid (L1 w ((w1.alloc (.cells (madeCells #[.slice none 0 0] ps.length) 143)).alloc (.map #[] 0)) (some ⟨bp, fp, none⟩) cap ps w1.heap.size (w1.heap.size + 1) 0 (madeCells #[.slice none 0 0] ps.length) (.map [])) := L1.start HB1.out HA1.out 143
  clear cb cc HA1 hn0 hn1 hmm hz
  generalize hbA : w1.heap.size = bA at *
  go_loopw [23] (fun i wr => ∃ (k : Nat) (vs : Array Value) (D : DataW Unit), k ≤ ps.length ∧ i = .int .i64 k ∧ Hid (L1 w wr (some ⟨bp, fp, none⟩) cap ps bA (bA + 1) k vs D)) (fun i _ => ps.length - (intOf i).toNat)
  case atStart => exact ⟨0, _, _, by omega, rfl, HS.out⟩
  case round =>
    rename_i wr
    clear HS hbA HB1
    obtain ⟨k, vs, D, hk, rfl, HL⟩ := hrel
    have cb := HL.out.box.c 0 _ rfl
    by_cases hlk : k < ps.length
    · have hkz : (k : Int) < (ps.length : Int) := by omega
      have hvk := Array.getElem?_eq_getElem (xs := vs) (i := k) (by rw [HL.out.len]; exact hlk)
      have hsz := HL.out.sz
      clear HGr HIn HX HE HJ
      go_wp2_with (first
        | (go_at_call 89; refine Calls.mono (HA.out k _ HL.out.b) ?_; rintro e w2 ⟨a2, c2, rfl, hI2, hb2⟩; have HI2 : Hid (Il w2 wr.heap.size a2 (Fl.aheadL ps (k : Int)) ∧ Below wr.heap.size wr w2) := ⟨hI2, hb2⟩; have HM2 : Hid (w2.ownsMap Tryz.prog 3 (unitElem (H := Unit)) (bA + 1) (Maps.size D) D) := (HL.out.map.kept hb2).own; have cv := (HL.out.va.below hb2 HL.out.va.lt).c k _ hvk; have fv := (HL.out.va.below hb2 HL.out.va.lt).f k; clear hI2 hb2)
        | (at_mapUpdate; refine wpList_mapUpdate_own _ rfl _ _ _ 146 rfl 3 148 law3 Tryz.underlying146 _ (bA + 1) _ _ rfl (HM2.out.setCell (by simp) _) (by unfold maxLen; omega) _ _ _ rfl rfl (key3 (by omega)) (.agg []) [] unitElem_mk ?_; intro w4 hown4 hgr4))
      go_roundw
      case rel => exact ⟨k + 1, _, _, by omega, by go_num, HL.out.step hlk HI2.out.1 HI2.out.2 hown4 hgr4⟩
      case measure => simp [intOf]; omega
    · obtain rfl : k = ps.length := by omega
      clear HA
      go_wp2_with (first
        | (at_make; refine wpList_make_row _ rfl _ _ 97 rfl 99 i1 (.int .u32 0) Tryz.underlying97 HJ.out.1 HJ.out.2.1 HJ.out.2.2.1 rfl .i64 .i64 ps.length rfl rfl (by rw [HJ.out.2.2.2]; omega) (by omega) ?_))
      have H2 : Hid (L2 wr (wr.alloc (.cells (madeCells #[.int .u32 0] ps.length) 99)) ps (bA + 1) wr.heap.size (List.replicate ps.length 0) D ∧ Work (PB ps) (List.replicate ps.length 0) fun j => Maps.has D (kn j) = true) := ⟨L2.start HL.out.map 99, fun j k' hk' hn => absurd ((HL.out.has j).2 (by have := (List.getElem?_eq_some_iff.1 hk').1; simpa using this)) hn⟩
      have hsz := HL.out.sz
      have hl0 := left_init ps.length
      generalize hbI : wr.heap.size = bI at *
      go_loopg [7] (ps.length * 858993459200 + 1000) (fun g1 v7 wq => ∃ (xs : List Nat) (D' : DataW Unit), left xs * 200 + Maps.size D' < g1 ∧ left xs * 200 + Maps.size D' ≤ ps.length * 858993459200 + 200 ∧ Hid (L2 wr wq ps (bA + 1) bI xs D' ∧ Work (PB ps) xs fun j => Maps.has D' (kn j) = true))
      case atStart => exact ⟨_, D, by rw [hl0]; omega, by rw [hl0]; omega, H2.out⟩
      case round =>
        rename World => wq
        clear H2 hl0 hsz cb
        obtain ⟨xs, D', hcg, hcb, H2⟩ := hrel
        have hmw : Hid (Below w.heap.size w wr ∧ w.heap.size ≤ bA + 1) := ⟨HL.out.b, by have := HL.out.hA; omega⟩
        by_cases hD : Maps.size D' = 0
        · have hR : Hid (xs.length = ps.length ∧ Ul wq (some ⟨bI, 0, none⟩) xs ∧ Below w.heap.size w wq ∧ So (PB ps) xs ∧ ∀ (i : Nat) k, (PB ps)[i]? = some k → Lv.Shut k xs i) :=
            ⟨H2.out.1.xl, ul_of H2.out.1.u, H2.out.1.up hmw.out.1 hmw.out.2, H2.out.1.so, H2.out.2.done fun j _ => by rw [size_zero H2.out.1.map.isMap hD]; simp⟩
          go_wp2_with (first
            | (at_len; refine wpList_len_own _ rfl _ 146 rfl 3 148 Tryz.underlying146 _ (bA + 1) _ _ rfl H2.out.1.map.own ?_))
          go_ret
          exact ⟨_, xs, rfl, ⟨_, _, by rw [hR.out.1]; rfl, hR.out.2.1, hR.out.2.2.1⟩, hR.out.2.2.2⟩
        · have hD1 : (Maps.size D' : Int) > 0 := by omega
          go_upto_region 16 with (first
            | (at_len; refine wpList_len_own _ rfl _ 146 rfl 3 148 Tryz.underlying146 _ (bA + 1) _ _ rfl H2.out.1.map.own ?_)
            | (go_at_call 90; refine Calls.mono (HGr.out _ _ _ H2.out.1.map (by omega)) ?_; rintro e w3 ⟨g, rfl, hg, hgD, hb3⟩; have H3 : Hid (L2 wr w3 ps (bA + 1) bI xs D') := H2.out.1.go hb3; clear hb3)
            | (at_delete; refine wpList_delete_own _ rfl _ _ 146 3 rfl 148 law3 Tryz.underlying146 _ (bA + 1) _ _ rfl H3.out.map.own _ _ rfl (key3 (by omega)) ?_; intro w4 hown4 hturn4; have H4 : Hid (L2 wr w4 ps (bA + 1) bI xs (D'.del (kn g))) := H3.out.turn hturn4.grown (H3.out.map.del hown4); obtain ⟨p, hp, hin⟩ := HX.out g hg; obtain ⟨p0, p1, p2, p3, p4, p5⟩ := hp.below (H4.out.up hmw.out.1 hmw.out.2) hblt; have HB4 : Hid (BIn w4 ps[g] p) := hin.below (H4.out.up hmw.out.1 hmw.out.2); have cb := (at_fr HL.out.box H4.out.fr (fun e => by have e : w.heap.size = bA + 1 := e; have := HL.out.hA; omega)).c 0 _ rfl; have hgz : (g : Int) < (ps.length : Int) := (by omega); clear hown4 hturn4 H3 hp hin)
            | (go_at_call 91; refine Calls.mono (HIn.out g hg p bI _ xs _ HB4.out H4.out.u H4.out.so.fit H4.out.xl) ?_; rintro e w5 ⟨rfl, hb5⟩; have H5 : Hid (L2 wr w5 ps (bA + 1) bI xs (D'.del (kn g))) := H4.out.go hb5; have cu := H5.out.u.c g _ (uc_get (by rw [H5.out.xl]; exact hg)); have fu := H5.out.u.f g; clear hb5 HB4 H4 p0 p1 p2 p3 p4 p5 cb))
          have hsd : Maps.size (D'.del (kn g)) + 1 = Maps.size D' := size_del_lt H2.out.1.map.tidy hgD
          by_cases he : intoN (bOf ps[g]) xs = inN xs g
          · have HN : Hid (L2 wr w5 ps (bA + 1) bI xs (D'.del (kn g)) ∧ Work (PB ps) xs fun j => Maps.has (D'.del (kn g)) (kn j) = true) := ⟨H5.out, work_same H2.out.2 hg H2.out.1.xl he⟩
            rw [he]
            clear H5 H2 he
            go_wp2
            go_roundg (left xs * 200 + Maps.size D')
            case measure => omega
            case rel => exact ⟨xs, _, by omega, by omega, HN.out⟩
          · have hne : ¬ ((intoN (bOf ps[g]) xs : Nat) : Int) = ((inN xs g : Nat) : Int) := by omega
            have hll : left (xs.set g (intoN (bOf ps[g]) xs)) < left xs := left_less HSm.out H2.out.1.so.fit hg H2.out.1.xl H2.out.1.rise he
            have HW3 : Hid (∀ D3, L3 (D'.del (kn g)) D3 (Fl.aheadL ps (g : Int)) (Fl.aheadL ps (g : Int)).length → Work (PB ps) (xs.set g (intoN (bOf ps[g]) xs)) fun j => Maps.has D3 (kn j) = true) := fun D3 h3 => work_more HC.out H2.out.2 hg H2.out.1.xl H2.out.1.rise h3
            have H6 : Hid (L2 wr (w5.setCell ⟨bI, g, none⟩ (.int .u32 ((intoN (bOf ps[g]) xs : Nat) : Int))) ps (bA + 1) bI (xs.set g (intoN (bOf ps[g]) xs)) (D'.del (kn g))) := H5.out.set HSm.out hg
            obtain ⟨aa, ac, ha1, ha2⟩ := HL.out.done g hg
            have HI6 : Hid (Il wr (bA + 1 + 1) aa (Fl.aheadL ps (g : Int))) := ha2
            have ca := (at_fr HL.out.va H6.out.fr (fun e => by have e : bA = bA + 1 := e; omega)).c g _ ha1
            have hal : (Fl.aheadL ps (g : Int)).length ≤ 128 := Nat.le_trans (ahead_le ps g) hle
            have HAl : Hid (∀ z ∈ Fl.aheadL ps (g : Int), 0 ≤ z ∧ z < ps.length) := fun z hz => ahead_lt hz
            generalize hxs' : xs.set g (intoN (bOf ps[g]) xs) = xs' at *
            generalize hl : Fl.aheadL ps (g : Int) = l at *
            generalize hD1' : D'.del (kn g) = D1 at *
            have hbq : (((intoN (bOf ps[g]) xs : Nat) : Int) == ((inN xs g : Nat) : Int)) = false := by simpa using hne
            clear H5 H2 he ha1 ha2 hxs' hl hD1'
            go_wp2
            clear hbq
            generalize hW6 : w5.setCell ⟨bI, g, none⟩ (.int .u32 ((intoN (bOf ps[g]) xs : Nat) : Int)) = w6 at *
            clear hW6 ca cu fu hne
            go_loopw [69] (fun i wq3 => ∃ (k : Nat) (D3 : DataW Unit), k ≤ l.length ∧ i = .int .i64 k ∧ Hid (L2 wr wq3 ps (bA + 1) bI xs' D3 ∧ L3 D1 D3 l k)) (fun i _ => l.length - (intOf i).toNat)
            case atStart => exact ⟨0, D1, by omega, rfl, H6.out, L3.start _ _⟩
            case round =>
              rename World => wt
              clear H6
              obtain ⟨k, D3, hk3, rfl, H7⟩ := hrel
              by_cases hlk3 : k < l.length
              · have hkz : (k : Int) < (l.length : Int) := by omega
                obtain ⟨q, rfl, hq1, hq2, hqc⟩ := (HI6.out.fr H7.out.1.fr (fun b hb _ e => by have e : b = bA + 1 := e; omega)).is (by omega)
                have ck := hqc k hlk3
                obtain ⟨z0, z1⟩ := HAl.out l[k] (List.getElem_mem hlk3)
                obtain ⟨y, hy⟩ : ∃ y : Nat, l[k] = (y : Int) := ⟨l[k].toNat, by omega⟩
                have H8 : Hid (L3 D1 (D3.put (kn y) (.agg [])) l (k + 1)) := H7.out.2.step H7.out.1.map.tidy hlk3 hy
                have hyn : y < ps.length := by omega
                have hs3 := H7.out.2.sz
                rw [hy] at ck
                clear hqc hy z0 z1
                go_wp2_with (first
                  | (at_mapUpdate; refine wpList_mapUpdate_own _ rfl _ _ _ 146 rfl 3 148 law3 Tryz.underlying146 _ (bA + 1) _ _ rfl H7.out.1.map.own (by unfold maxLen; omega) _ _ _ rfl rfl (key3 (by omega)) (.agg []) [] unitElem_mk ?_; intro w8 hown8 hgr8))
                go_roundw
                case rel => exact ⟨k + 1, _, by omega, by go_num, H7.out.1.turn hgr8 (H7.out.1.map.put hyn hown8), H8.out⟩
                case measure => simp [intOf]; omega
              · obtain rfl : k = l.length := by omega
                have hs3 := H7.out.2.sz
                have HN : Hid (L2 wr wt ps (bA + 1) bI xs' D3 ∧ Work (PB ps) xs' fun j => Maps.has D3 (kn j) = true) := ⟨H7.out.1, HW3.out D3 H7.out.2⟩
                clear H7 HW3
                go_wp2
                go_roundg (left xs * 200 + Maps.size D')
                case measure => omega
                case rel => exact ⟨xs', _, by omega, by omega, HN.out⟩
/-- What is into each block. -/
theorem in_any (ao : Option Addr) (cap : Nat) (ps : List Bk) (w : World) (h : PAt w ao ps) (he : Env w) :
    Calls Tryz.prog 70 #[.agg #[.slice ao ps.length cap]] w fun e w' => ∃ v xs, e = .returned v ∧ Gu w w' v xs ∧ IsIn ps xs := by
  by_cases hc : ckP ps = 0
  · exact (in_yes ao cap ps w h he hc).mono fun e w' ⟨v, xs, h1, h2, h3⟩ => ⟨v, xs, h1, h2, ⟨fun _ => h3, fun hn => absurd hc hn⟩⟩
  · exact (in_no ao cap ps w h he hc).mono fun e w' ⟨h1, h2⟩ => ⟨_, [], h1, ⟨none, 0, rfl, Ul.nil _ _, h2⟩, ⟨fun hn => absurd hn hc, fun _ => rfl⟩⟩
end Go.Proofs.YtddcndlogoajkaaGreatDoor.L8.Li
