/- A program without an operation, as the document tells it (without): read off the program by the walk. Conditions: the program lies in memory. -/
import Derived.Test.YtddcndlogoajkaaGreatDoorKc
import Derived.Deep.DeepCutAuto
namespace Go.Proofs.YtddcndlogoajkaaGreatDoor.L8.Bt
open Go.ChangeShapes Go.WideShapes Go.ChangeAt Go.RowKit Go.Great
open _root_.Go.Proofs.YtddcndlogoajkaaGreatDoor.L8.Op _root_.Go.Proofs.YtddcndlogoajkaaGreatDoor.L8.So
open _root_.Go.Proofs.YtddcndlogoajkaaGreatDoor.L8.Lv (rdL wOf PsOk psOk_of)
set_option maxRecDepth 20000

theorem woP_len (ps : List Bk) (i j : Nat) : (woP ps i j).length = ps.length := by
  unfold woP
  split <;> simp
theorem woP_other {ps : List Bk} {i j k : Nat} (hk : k < ps.length) (h : k ≠ i) (hk' : k < (woP ps i j).length) : (woP ps i j)[k] = ps[k] := by
  unfold woP
  split
  · rw [List.getElem_set_ne (fun e => h e.symm)]
  · rfl
theorem woP_same {ps : List Bk} {j k : Nat} (hk : k < ps.length) (hk' : k < (woP ps k j).length) : (woP ps k j)[k] = { ps[k] with ops := ps[k].ops.eraseIdx j } := by
  unfold woP
  simp [hk]
/-- A list without its j-th, under way. -/
structure Wl (wi W : World) (p9 : Nat) (cs : Array Value) (v : Value) (ys : List O) : Prop where
  b : Below wi.heap.size wi W
  x : At W p9 cs
  l : W.ownsRow (wi.heap.size + 1) 51 5 v ys.length (ocells ys)
theorem Wl.up {wi W W' : World} {p9 : Nat} {cs : Array Value} {v : Value} {ys : List O} (h : Wl wi W p9 cs v ys) (hb : Below W.heap.size W W') : Wl wi W' p9 cs v ys :=
  ⟨h.b.trans (hb.mono h.b.size), h.x.below hb h.x.lt, row_below h.l hb⟩
theorem Wl.put {wi W W' : World} {cs : Array Value} {v v' : Value} {ys : List O} {o : O} (h : Wl wi W wi.heap.size cs v ys) (hg : W.grownBy W' v.ownBlock) (hown : W'.ownsRow (wi.heap.size + 1) 51 5 v' (ys.length + 1) (ocells ys ++ [.int .i8 o.op, .int .u8 o.d, .int .u8 o.a, .int .u8 o.b, .int .i64 o.im])) : Wl wi W' wi.heap.size cs v' (ys ++ [o]) := by
  have hr : ∀ b, v.ownBlock = some b → wi.heap.size + 1 ≤ b := fun b hb => (h.l.lt b hb).1
  have hl : wi.heap.size + 1 ≤ W.heap.size := h.x.lt
  have hb : Below (wi.heap.size + 1) W W' := (Below.refl _ _).grown hg hl hr
  refine ⟨h.b.trans (hb.mono (Nat.le_succ _)), h.x.below hb (Nat.lt_succ_self _), ?_⟩
  have e : ocells (ys ++ [o]) = ocells ys ++ [.int .i8 o.op, .int .u8 o.d, .int .u8 o.a, .int .u8 o.b, .int .i64 o.im] := by simp [ocells]
  rw [e, List.length_append]
  exact hown
theorem slice_row {W : World} {B n : Nat} {e : TypeId} {z : Nat} {v : Value} {xs : List Value} (h : W.ownsRow B e z v n xs) : ∃ a c, v = .slice a n c := by
  rcases h.2 with ⟨rfl, h0⟩ | ⟨g, c, cur, rfl, hh⟩
  · exact ⟨none, 0, by rw [h0]⟩
  · exact ⟨_, c, rfl⟩
set_option maxHeartbeats 8000000 in
theorem without_any (ao : Option Addr) (cap : Nat) (ps : List Bk) (i j z : Nat) (w : World) (hzw : z + 1 < w.heap.size) (h : PZ z w ao ps) (hs : Small ps) (hi : i < ps.length) (hj : j < ps[i].ops.length) :
    Calls Tryz.prog 27 #[.agg #[.slice ao ps.length cap], .int .i64 i, .int .i64 j] w fun e w' => ∃ a c, e = .returned (.agg #[.slice a ps.length c]) ∧ PZ z w' a (woP ps i j) ∧ Below w.heap.size w w' := by
  obtain ⟨i0, hi0, hi2⟩ := Option.map_eq_some_iff.1 info49
  simp only [Prod.mk.injEq] at hi2
  obtain ⟨hz0, hz1, hz2⟩ := hi2
  have HI : Hid (Tryz.prog.info? 49 = some i0 ∧ i0.zero = some (.agg #[.slice none 0 0, .int .i8 0, .int .u8 0, .slice none 0 0, .int .i64 0, .int .i64 0]) ∧ i0.size = 6 ∧ i0.bytes = 72) := ⟨hi0, hz0, hz1, hz2⟩
  clear hi0 hz0 hz1 hz2
  obtain ⟨i1, hi1, hi2⟩ := Option.map_eq_some_iff.1 info51
  simp only [Prod.mk.injEq] at hi2
  obtain ⟨hz0, hz1, hz2⟩ := hi2
  have HJ : Hid (Tryz.prog.info? 51 = some i1 ∧ i1.zero = some (.agg #[.int .i8 0, .int .u8 0, .int .u8 0, .int .u8 0, .int .i64 0]) ∧ i1.size = 5 ∧ i1.bytes = 16) := ⟨hi1, hz0, hz1, hz2⟩
  clear hi1 hz0 hz1 hz2
  have hq : (woP ps i j).length = ps.length := woP_len ps i j
  have HSm : Hid (Small (woP ps i j)) := by
    refine ⟨by rw [hq]; exact hs.n, fun x hx => ?_⟩
    unfold woP at hx
    rw [dif_pos hi] at hx
    rcases List.mem_or_eq_of_mem_set hx with hm | rfl
    · exact hs.l x hm
    · obtain ⟨h1, h2, h3, h4, h5⟩ := hs.l _ (List.getElem_mem hi)
      have hm : ∀ o ∈ ps[i].ops.eraseIdx j, o ∈ ps[i].ops := fun o ho => (List.eraseIdx_sublist _ _).mem ho
      exact ⟨⟨h1.f0, h1.f1, h1.a0, h1.a1, h1.t0, h1.t1, h1.e0, h1.e1⟩, fun o ho => h2 o (hm o ho), h3, Nat.le_trans (List.eraseIdx_sublist _ _).length_le h4, h5⟩
  have HP : Hid (PZ z w ao ps) := h
  have HFl : Hid ((woP ps i j).length = ps.length) := hq
  have HS : Hid (Small ps) := hs
  have hn := hs.n
  have hni : (ps.length : Int) ≤ 8192 := by omega
  have hn0 : (0 : Int) ≤ (ps.length : Int) := by omega
  have HPut : Hid (∀ (W W' : World) (q k : Nat) (v v' : Value) (ls : List Pl) (hk : k < ps.length) (y : Bk) (p : Pl), (∀ hk' : k < (woP ps i j).length, (woP ps i j)[k] = y) → Fz z w W q ao ps.length cap (woP ps i j) k v ls → Lor z w W (q + 1) p.oa p.oc y.ops → Lor z w W (q + 1) p.ba p.bc y.body → y.ops.length ≤ p.oc → W.grownBy W' v.ownBlock →
      W'.ownsRow (q + 1) 49 6 v' (k + 1) (bcells ((woP ps i j).take k) ls ++ [.slice p.oa y.ops.length p.oc, .int .i8 y.fin, .int .u8 y.a, .slice p.ba y.body.length p.bc, .int .i64 y.thn, .int .i64 y.els]) → Fz z w (W'.setCell ⟨q, 0, none⟩ v') q ao ps.length cap (woP ps i j) (k + 1) v' (ls ++ [p])) := fun W W' q k v v' ls hk y p hy h1 h2 h3 hc h4 h5 => by
    have hk' : k < (woP ps i j).length := by rw [hq]; exact hk
    have e := hy hk'
    subst e
    exact h1.put hk' h2 h3 hc h4 h5
  have HD : Hid (Fz z w (((w.alloc (.cells #[.slice ao ps.length cap] 24)).alloc (.cells #[.slice none 0 0] 24)).alloc (.cells #[.slice none 0 0] 24)) (w.heap.size + 1 + 1) ao ps.length cap (woP ps i j) 0 (.slice none 0 0) []) := by
    obtain ⟨a1, a2, hb0, hz, hz1⟩ := two_new w #[.slice ao ps.length cap] #[.slice none 0 0] 24 24 (Below.refl _ _)
    have := Fz.start z w ao ps.length cap (woP ps i j) ((w.alloc (.cells #[.slice ao ps.length cap] 24)).alloc (.cells #[.slice none 0 0] 24)) hb0 a1 a2 (by omega)
    have e : ((w.alloc (.cells #[.slice ao ps.length cap] 24)).alloc (.cells #[.slice none 0 0] 24)).heap.size = w.heap.size + 1 + 1 := by simp
    rw [e] at this
    exact this
  have HWs : Hid (∀ k (hk : k < ps.length), k ≠ i → ∀ hk' : k < (woP ps i j).length, (woP ps i j)[k] = ps[k]) := fun k hk hne hk' => woP_other hk hne hk'
  have HWe : Hid (∀ hk' : i < (woP ps i j).length, (woP ps i j)[i] = { ps[i] with ops := ps[i].ops.eraseIdx j }) := fun hk' => woP_same hi hk'
  have HEl : Hid ((ps[i].ops.eraseIdx j).length + 1 = ps[i].ops.length) := (show (ps[i].ops.eraseIdx j).length + 1 = ps[i].ops.length by rw [List.length_eraseIdx, if_pos hj]; omega)
  clear h hs hq
  generalize woP ps i j = qs at *
  go_enter Tryz.func27, Tryz.ntmps27
  go_wp2_with fail
  generalize ((w.alloc (.cells #[.slice ao ps.length cap] 24)).alloc (.cells #[.slice none 0 0] 24)).alloc (.cells #[.slice none 0 0] 24) = W0 at *
  go_loopw [8] (fun t wr => ∃ (k : Nat) (v : Value) (ls : List Pl), k ≤ ps.length ∧ t = .int .i64 k ∧ Fz z w wr (w.heap.size + 1 + 1) ao ps.length cap qs k v ls) (fun t _ => ps.length - (intOf t).toNat)
  case atStart => exact ⟨0, _, [], by omega, rfl, HD.out⟩
  case round =>
    rename World => wr
    obtain ⟨k, v, ls, hk, rfl, hd⟩ := hrel
    clear HD
    have HD : Hid _ := hd
    have cp := hd.p.c 0 _ rfl
    have cl := hd.p.lt
    have hqz := hd.z
    clear hd
    by_cases hlt : k < ps.length
    · have hki : (k : Int) < (ps.length : Int) := by omega
      have hk0 : (0 : Int) ≤ (k : Int) := by omega
      obtain ⟨b, f, rfl, pl, hx⟩ := HP.out.2 (by omega)
      obtain ⟨hz, hx0⟩ := hx w (Fr.refl _ _)
      obtain ⟨hp, h5⟩ := hx0 k hlt
      have hxo : ∀ W, Fr (Two z) w W → OpsAt W (pl k).oa ps[k].ops := fun W hF => ((hx W hF).2 k hlt).2.o
      have hxb : ∀ W, Fr (Two z) w W → OpsAt W (pl k).ba ps[k].body := fun W hF => ((hx W hF).2 k hlt).2.b
      generalize pl k = pp at *
      obtain ⟨oa, oc, ba, bc⟩ := pp
      obtain ⟨b0, b1, b2, b3, b4, b5⟩ := hp.below HD.out.b hz
      simp only at b0 b3
      obtain ⟨-, s2, s3, s4, s5⟩ := HS.out.l _ (List.getElem_mem hlt)
      have HPk : Hid _ := fun (W W' : World) (v' : Value) (y : Bk) (p : Pl) => HPut.out W W' (w.heap.size + 1 + 1) k v v' ls hlt y p
      have HOs : Hid ((∀ W, Fr (Two z) w W → OpsAt W oa ps[k].ops) ∧ (∀ W, Fr (Two z) w W → OpsAt W ba ps[k].body) ∧ ps[k].ops.length ≤ oc) := ⟨hxo, hxb, h5.c⟩
      have HW1 : Hid (k ≠ i → ∀ hk' : k < qs.length, qs[k] = ps[k]) := fun hne => HWs.out k hlt hne
      have HW2 : Hid (k = i → (∀ hk' : k < qs.length, qs[k] = { ps[k] with ops := ps[k].ops.eraseIdx j }) ∧ (ps[k].ops.eraseIdx j).length + 1 = ps[k].ops.length ∧ j < ps[k].ops.length) := fun e => by subst e; exact ⟨HWe.out, HEl.out, hj⟩
      clear hx hx0 hxo hxb hp h5 HPut s3 s5 HWs HWe HEl hj
      generalize ps[k] = x at *
      obtain ⟨xo, xf, xa, xb, xt, xe⟩ := x
      simp only at *
      go_upto_region 6 with fail
      have HX7 : Hid (Op.At (wr.alloc (.cells #[.slice oa xo.length oc, .int .i8 xf, .int .u8 xa, .slice ba xb.length bc, .int .i64 xt, .int .i64 xe] 49)) wr.heap.size #[.slice oa xo.length oc, .int .i8 xf, .int .u8 xa, .slice ba xb.length bc, .int .i64 xt, .int .i64 xe] ∧ Below wr.heap.size wr (wr.alloc (.cells #[.slice oa xo.length oc, .int .i8 xf, .int .u8 xa, .slice ba xb.length bc, .int .i64 xt, .int .i64 xe] 49))) := ⟨Op.At.new _ _ _, below_al _⟩
      have HDz : Hid (∀ W, Below wr.heap.size wr W → Fz z w W (w.heap.size + 1 + 1) (some ⟨b, f, none⟩) ps.length cap qs k v ls) := fun W hb => HD.out.up hb
      generalize wr.alloc (.cells #[.slice oa xo.length oc, .int .i8 xf, .int .u8 xa, .slice ba xb.length bc, .int .i64 xt, .int .i64 xe] 49) = W7 at *
      clear b0 b1 b2 b3 b4 b5 cp cl HD
      obtain ⟨x0, x1, x2, x3, x4, x5⟩ := HX7.out.1.b6
      have xl := HX7.out.1.lt
      by_cases hki' : k = i
      · subst hki'
        obtain ⟨hq1, hq2, hq3⟩ := HW2.out rfl
        have HQ1 : Hid _ := hq1
        clear hq1 HW1 HW2
        go_wp2_with fail
        go_loopw [10, 11] (fun l t W => ∃ m : Nat, m ≤ xo.length ∧ t = .int .i64 m ∧ Wl wr W wr.heap.size #[.slice oa xo.length oc, .int .i8 xf, .int .u8 xa, .slice ba xb.length bc, .int .i64 xt, .int .i64 xe] l ((xo.take m).eraseIdx j)) (fun _ t _ => xo.length - (intOf t).toNat)
        case atStart =>
          refine ⟨0, by omega, rfl, ?_⟩
          have e : (xo.take 0).eraseIdx j = [] := by simp
          rw [e]
          exact ⟨HX7.out.2, HX7.out.1, World.ownsRow_nil _ _ _ _⟩
        case round =>
          rename World => wi
          obtain ⟨m, hm, rfl, hl⟩ := hrel
          clear x0 x1 x2 x3 x4 x5 xl HX7
          have HL : Hid _ := hl
          obtain ⟨x0, x1, x2, x3, x4, x5⟩ := hl.x.b6
          have xl := hl.x.lt
          have hyl : ((xo.take m).eraseIdx j).length ≤ 8192 := by
            have h1 := (List.eraseIdx_sublist (xo.take m) j).length_le
            rw [List.length_take] at h1
            omega
          clear hl
          by_cases hmt : m < xo.length
          · have hmi : (m : Int) < (xo.length : Int) := by omega
            have hm0 : (0 : Int) ≤ (m : Int) := by omega
            by_cases hmj : m = j
            · subst hmj
              go_wp2_with fail
              go_roundw
              case rel => exact ⟨m + 1, by omega, by go_num, by rw [erase_same hmt]; exact HL.out⟩
              case measure => simp [intOf]; omega
            · have hmj' : ¬ (m : Int) = (j : Int) := by omega
              have hmj2 : ((m : Int) != (j : Int)) = true := by simpa using hmj'
              obtain ⟨ob, of, e1, hol, hoc⟩ := (HOs.out.1 wi (Fr.of (HDz.out wi HL.out.b).b)).is (by omega)
              subst e1
              obtain ⟨c0, c1, c2, c3, c4⟩ := hoc m hmt
              have HEr : Hid (∀ v', Wl wr v' wr.heap.size #[.slice (some ⟨ob, of, none⟩) xo.length oc, .int .i8 xf, .int .u8 xa, .slice ba xb.length bc, .int .i64 xt, .int .i64 xe] u10 ((xo.take m).eraseIdx j) → True) := fun _ _ => trivial
              have hem := erase_more (t := j) hmt hmj
              have HEm : Hid _ := hem
              clear hem hoc HEr
              generalize xo[m] = x at *
              obtain ⟨o, d, a, b', im⟩ := x
              simp only at c0 c1 c2 c3 c4
              generalize hys : (xo.take m).eraseIdx j = ys at *
              go_wp2_with (first | (at_builtin; refine wpList_append_lies _ rfl (.tmp 37) (.tmp 43) 46 rfl (wr.heap.size + 1) 51 i1 (.agg #[.int .i8 0, .int .u8 0, .int .u8 0, .int .u8 0, .int .i64 0]) 5 16 Tryz.underlying46 HJ.out.1 HJ.out.2.1 HJ.out.2.2.1 HJ.out.2.2.2 rfl (by decide) _ _ _ rfl (HL.out.l.alloc _) ⟨wi.heap.size, 0, none⟩ 1 1 [.int .i8 o, .int .u8 d, .int .u8 a, .int .u8 b', .int .i64 im] rfl rfl (World.news_of_block (heap_alloc_new wi _)) (by simp [Value.oneCell']) (by decide) (by unfold maxLen; omega) (by omega) (by simp; omega) (wi.heap.size + 1) (by simp) ?_; intro g cap4 w8 hown8 hgrow8 hat8 hlt8; have HF : Hid _ := (HL.out.up (below_al _)).put (o := ⟨o, d, a, b', im⟩) hgrow8 hown8; clear hown8 hgrow8 hat8 hlt8))
              go_roundw
              case rel => exact ⟨m + 1, by omega, by go_num, by rw [HEm.out]; exact HF.out⟩
              case measure => simp [intOf]; omega
          · obtain rfl : m = xo.length := by omega
            have HL2 : Hid (Wl wr wi wr.heap.size #[.slice oa xo.length oc, .int .i8 xf, .int .u8 xa, .slice ba xb.length bc, .int .i64 xt, .int .i64 xe] u10 (xo.eraseIdx j)) := by
              have := HL.out
              rw [List.take_length] at this
              exact this
            clear HL hyl hq2 hq3
            obtain ⟨a1, c1, hv⟩ := slice_row HL2.out.l
            subst hv
            have f0 := HL2.out.x.f 0
            go_upto_region 14 with fail
            have HX9 : Hid (Op.At (wi.setCell ⟨wr.heap.size, 0, none⟩ (.slice a1 (xo.eraseIdx j).length c1)) wr.heap.size #[.slice a1 (xo.eraseIdx j).length c1, .int .i8 xf, .int .u8 xa, .slice ba xb.length bc, .int .i64 xt, .int .i64 xe] ∧ Below wr.heap.size wr (wi.setCell ⟨wr.heap.size, 0, none⟩ (.slice a1 (xo.eraseIdx j).length c1)) ∧ LRow (wi.setCell ⟨wr.heap.size, 0, none⟩ (.slice a1 (xo.eraseIdx j).length c1)) (wr.heap.size + 1) a1 c1 (xo.eraseIdx j)) := ⟨HL2.out.x.set (j := 0) (by simp) _, HL2.out.b.setCell (Nat.le_refl _) _, row_set HL2.out.l (Nat.lt_succ_self _) _⟩
            clear x0 x1 x2 x3 x4 x5 xl f0 HL2
            generalize (wi.setCell ⟨wr.heap.size, 0, none⟩ (.slice a1 (xo.eraseIdx j).length c1)) = W9 at *
            have HE : Hid _ := HDz.out W9 HX9.out.2.1
            have HB9 : Hid _ := HX9.out.2.1
            obtain ⟨y0, y1, y2, y3, y4, y5⟩ := HX9.out.1.b6
            have yl := HX9.out.1.lt
            have vv := HE.out.o.c 0 _ rfl
            have vl := HE.out.z
            have HPp : Hid (∀ W' v', Below wr.heap.size wr (W9.alloc (.cells #[.slice a1 (xo.eraseIdx j).length c1, .int .i8 xf, .int .u8 xa, .slice ba xb.length bc, .int .i64 xt, .int .i64 xe] 49)) → (W9.alloc (.cells #[.slice a1 (xo.eraseIdx j).length c1, .int .i8 xf, .int .u8 xa, .slice ba xb.length bc, .int .i64 xt, .int .i64 xe] 49)).grownBy W' v.ownBlock → W'.ownsRow ((w.heap.size + 1 + 1) + 1) 49 6 v' (k + 1) (bcells (qs.take k) ls ++ [.slice a1 (xo.eraseIdx j).length c1, .int .i8 xf, .int .u8 xa, .slice ba xb.length bc, .int .i64 xt, .int .i64 xe]) → Fz z w (W'.setCell ⟨w.heap.size + 1 + 1, 0, none⟩ v') (w.heap.size + 1 + 1) (some ⟨b, f, none⟩) ps.length cap qs (k + 1) v' (ls ++ [⟨a1, c1, ba, bc⟩])) := fun W' v' hb hg hown => HPk.out _ W' v' ⟨xo.eraseIdx j, xf, xa, xb, xt, xe⟩ ⟨a1, c1, ba, bc⟩ HQ1.out (HDz.out _ hb) (.inl (row_le (row_below HX9.out.2.2 (below_al _)) (by omega))) (.inr HOs.out.2.1) (row_cap HX9.out.2.2) hg hown
            go_wp2_with (first | (at_builtin; refine wpList_append_lies _ rfl (.tmp 48) (.tmp 50) 22 rfl ((w.heap.size + 1 + 1) + 1) 49 i0 (.agg #[.slice none 0 0, .int .i8 0, .int .u8 0, .slice none 0 0, .int .i64 0, .int .i64 0]) 6 72 Tryz.underlying22 HI.out.1 HI.out.2.1 HI.out.2.2.1 HI.out.2.2.2 rfl (by decide) _ _ _ rfl (HE.out.row.row.alloc _) ⟨W9.heap.size, 0, none⟩ 1 1 [.slice a1 (xo.eraseIdx j).length c1, .int .i8 xf, .int .u8 xa, .slice ba xb.length bc, .int .i64 xt, .int .i64 xe] rfl rfl (World.news_of_block (heap_alloc_new W9 _)) (by simp [Value.oneCell']) (by decide) (by unfold maxLen; omega) (by omega) (by have := HE.out.z; simp; omega) (W9.heap.size + 1) (by simp) ?_; intro g cap4 w8 hown8 hgrow8 hat8 hlt8; have HBg : Hid (Below wr.heap.size wr (W9.alloc (.cells #[.slice a1 (xo.eraseIdx j).length c1, .int .i8 xf, .int .u8 xa, .slice ba xb.length bc, .int .i64 xt, .int .i64 xe] 49))) := HB9.out.trans ((below_al _).mono HB9.out.size); have hbx := (HDz.out _ HBg.out).box hgrow8; have bo := hbx.c 0 _ rfl; have fo := hbx.f 0; have zo := hbx.lt; have HF : Hid _ := HPp.out w8 (.slice (some ⟨g, 0, none⟩) (k + 1) cap4) HBg.out hgrow8 hown8; clear hown8 hgrow8 hat8 hlt8 hbx HE HPp HB9 y0 y1 y2 y3 y4 y5 yl vv vl))
            go_roundw
            case rel => exact ⟨k + 1, _, _, by omega, by go_num, HF.out⟩
            case measure => simp [intOf]; omega
      · have hki2 : ¬ (k : Int) = (i : Int) := by omega
        have hki3 : ((k : Int) == (i : Int)) = false := by simpa using hki2
        have hyy := HW1.out hki'
        clear HW1 HW2
        go_upto_region 14 with fail
        clear x0 x1 x2 x3 x4 x5 xl
        have HE : Hid _ := HDz.out W7 HX7.out.2
        have HB9 : Hid _ := HX7.out.2
        obtain ⟨y0, y1, y2, y3, y4, y5⟩ := HX7.out.1.b6
        have yl := HX7.out.1.lt
        have vv := HE.out.o.c 0 _ rfl
        have vl := HE.out.z
        have HPp : Hid (∀ W' v', Below wr.heap.size wr (W7.alloc (.cells #[.slice oa xo.length oc, .int .i8 xf, .int .u8 xa, .slice ba xb.length bc, .int .i64 xt, .int .i64 xe] 49)) → (W7.alloc (.cells #[.slice oa xo.length oc, .int .i8 xf, .int .u8 xa, .slice ba xb.length bc, .int .i64 xt, .int .i64 xe] 49)).grownBy W' v.ownBlock → W'.ownsRow ((w.heap.size + 1 + 1) + 1) 49 6 v' (k + 1) (bcells (qs.take k) ls ++ [.slice oa xo.length oc, .int .i8 xf, .int .u8 xa, .slice ba xb.length bc, .int .i64 xt, .int .i64 xe]) → Fz z w (W'.setCell ⟨w.heap.size + 1 + 1, 0, none⟩ v') (w.heap.size + 1 + 1) (some ⟨b, f, none⟩) ps.length cap qs (k + 1) v' (ls ++ [⟨oa, oc, ba, bc⟩])) := fun W' v' hb hg hown => HPk.out _ W' v' ⟨xo, xf, xa, xb, xt, xe⟩ ⟨oa, oc, ba, bc⟩ hyy (HDz.out _ hb) (.inr HOs.out.1) (.inr HOs.out.2.1) HOs.out.2.2 hg hown
        go_wp2_with (first | (at_builtin; refine wpList_append_lies _ rfl (.tmp 48) (.tmp 50) 22 rfl ((w.heap.size + 1 + 1) + 1) 49 i0 (.agg #[.slice none 0 0, .int .i8 0, .int .u8 0, .slice none 0 0, .int .i64 0, .int .i64 0]) 6 72 Tryz.underlying22 HI.out.1 HI.out.2.1 HI.out.2.2.1 HI.out.2.2.2 rfl (by decide) _ _ _ rfl (HE.out.row.row.alloc _) ⟨W7.heap.size, 0, none⟩ 1 1 [.slice oa xo.length oc, .int .i8 xf, .int .u8 xa, .slice ba xb.length bc, .int .i64 xt, .int .i64 xe] rfl rfl (World.news_of_block (heap_alloc_new W7 _)) (by simp [Value.oneCell']) (by decide) (by unfold maxLen; omega) (by omega) (by have := HE.out.z; simp; omega) (W7.heap.size + 1) (by simp) ?_; intro g cap4 w8 hown8 hgrow8 hat8 hlt8; have HBg : Hid (Below wr.heap.size wr (W7.alloc (.cells #[.slice oa xo.length oc, .int .i8 xf, .int .u8 xa, .slice ba xb.length bc, .int .i64 xt, .int .i64 xe] 49))) := HB9.out.trans ((below_al _).mono HB9.out.size); have hbx := (HDz.out _ HBg.out).box hgrow8; have bo := hbx.c 0 _ rfl; have fo := hbx.f 0; have zo := hbx.lt; have HF : Hid _ := HPp.out w8 (.slice (some ⟨g, 0, none⟩) (k + 1) cap4) HBg.out hgrow8 hown8; clear hown8 hgrow8 hat8 hlt8 hbx HE HPp HB9 y0 y1 y2 y3 y4 y5 yl vv vl))
        go_roundw
        case rel => exact ⟨k + 1, _, _, by omega, by go_num, HF.out⟩
        case measure => simp [intOf]; omega
    · obtain rfl : k = ps.length := by omega
      have hd2 : Fz z w wr (w.heap.size + 1 + 1) ao ps.length cap qs qs.length v ls := by rw [HFl.out]; exact HD.out
      have hz : ∀ u, ∃ a c, v = .slice a ps.length c ∧ PZ z (wr.setCell ⟨w.heap.size + 1, 0, none⟩ u) a qs ∧ Below w.heap.size w (wr.setCell ⟨w.heap.size + 1, 0, none⟩ u) := fun u => by
        obtain ⟨a, c, e, h1, h2⟩ := hd2.done HSm.out u
        rw [HFl.out] at e
        exact ⟨a, c, e, h1, h2⟩
      obtain ⟨a, c, rfl, -, -⟩ := hz undef
      have HZ : Hid (∀ u, PZ z (wr.setCell ⟨w.heap.size + 1, 0, none⟩ u) a qs ∧ Below w.heap.size w (wr.setCell ⟨w.heap.size + 1, 0, none⟩ u)) := fun u => by
        obtain ⟨a', c', e, h1, h2⟩ := hz u
        cases e
        exact ⟨h1, h2⟩
      have q0 := hd2.o.c 0 _ rfl
      have r0 := hd2.r.c 0 _ rfl
      have f0 := hd2.r.f 0
      clear hz hd2 HD HPut
      go_wp2_with fail
      refine bodyPost_ret (v := .agg #[.slice a ps.length c]) (by simp [results, Tryz.results27, go_sem, cs r0]) rfl ⟨a, c, rfl, (HZ.out _).1, (HZ.out _).2⟩
end Go.Proofs.YtddcndlogoajkaaGreatDoor.L8.Bt
