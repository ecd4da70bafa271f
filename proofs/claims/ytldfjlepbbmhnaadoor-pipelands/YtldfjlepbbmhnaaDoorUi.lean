/- What PipeLands answers of an operation that is reckoned. Conditions: the state's lists and the table's bounds lie in memory. -/
import Derived.Test.YtldfjlepbbmhnaaDoorUc
namespace Go.Proofs.YtldfjlepbbmhnaaDoor.Pp
open Go.ChangeShapes Go.WideShapes Go.ChangeAt Go.RowKit
open _root_.Go.Proofs.YtldfjlepbbmhnaaDoor.Op _root_.Go.Proofs.YtldfjlepbbmhnaaDoor.So _root_.Go.Proofs.YtldfjlepbbmhnaaDoor.Bu
open _root_.Go.Proofs.YtldfjlepbbmhnaaDoor.Tb (Tab TabAt Bnds)
set_option maxRecDepth 20000

set_option maxHeartbeats 16000000 in
theorem lands_x (o : O) (t : Tab) (ra ma : Option Addr) (rc mc : Nat) (rs ms : List Int) (w : World) (hG : Bnds w) (ho : o.Ok) (hEE : enE t (tw (rowB (clV o.op).toNat o)) = 0) (hXX : resE (newM rs ms) o = 0) (hKK : ¬ o.op = 1 ∧ ¬ o.op = 15) (hw : wrB o = true) (h32 : rs.length ≤ 32) (h256 : ms.length ≤ 256) (hr : NL w ra rs) (hm : NL w ma ms) (hri : ∀ x ∈ rs, I64 x) (hmi : ∀ x ∈ ms, I64 x) :
    Calls Tryd.prog 5 #[o.val, t.val, .agg #[.slice ra rs.length rc, .slice ma ms.length mc]] w (Yes w) := by
  have HW : Hid (∀ V, Below w.heap.size w V → Calls Tryd.prog 7 #[] V fun e w' => e = .returned (.bool true) ∧ Below V.heap.size V w') := fun V hV => wakes_any V (hG.below hV hG.big)
  obtain ⟨hop, hok⟩ := wr_in hw
  obtain ⟨hclB, c, hc3, hclV⟩ := wr_cls hw
  have hct : (clV o.op).toNat = c := by rw [hclV]; simp
  rw [hct] at hEE
  have hdD : wrD o = o.d := by unfold wrD; rw [if_pos hw]
  have HC : Hid (∀ V, Calls Tryd.prog 20 #[.int .i8 o.op] V fun e w' => e = .returned (.tuple #[.int .i64 (c : Int), .bool true]) ∧ Below V.heap.size V w') := fun V => by
    have := class_any o.op V ho.op0 ho.op1
    rw [hclB, hclV] at this
    exact this
  have HR : Hid (∀ V, Calls Tryd.prog 21 #[.agg #[.int .i8 o.op, .int .u8 o.d, .int .u8 o.a, .int .u8 o.b, .int .i64 o.im]] V fun e w' => e = .returned (.tuple #[.int .u8 o.d, .bool true]) ∧ Below V.heap.size V w') := fun V => by
    have := writes_any o V ho
    rw [hdD, hw] at this
    exact this
  obtain ⟨x, hx⟩ : ∃ x, rowB c o = x := ⟨_, rfl⟩
  rw [hx] at hEE
  have HEE : Hid _ := hEE
  have HXX : Hid _ := hXX
  have HKK : Hid _ := hKK
  clear hXX hKK
  clear hEE hct
  have HRow : Hid (∀ V, Calls Tryd.prog 22 #[.int .i64 (c : Int), .agg #[.int .i8 o.op, .int .u8 o.d, .int .u8 o.a, .int .u8 o.b, .int .i64 o.im]] V fun e w' => ∃ p, e = .returned (.agg #[.slice (p.a 0) (x.l 0).length (p.c 0), .slice (p.a 1) (x.l 1).length (p.c 1), .slice (p.a 2) (x.l 2).length (p.c 2), .slice (p.a 3) (x.l 3).length (p.c 3)]) ∧ BnIn w' x p ∧ (∀ j, j < 4 → ∀ A, p.a j = some A → A.block < w'.heap.size) ∧ Below V.heap.size V w') := fun V => by
    have := row_any c hc3 o ho V
    rw [hx] at this
    exact this
  have HB0 : Hid (Bz w (((w.alloc (.cells #[.int .i8 o.op, .int .u8 o.d, .int .u8 o.a, .int .u8 o.b, .int .i64 o.im] 55)).alloc (.cells t.cells 25)).alloc (.cells #[.slice ra rs.length rc, .slice ma ms.length mc] 28)) o t ra ma rs.length rc ms.length mc) := Bz.new w o t ra ma rs.length rc ms.length mc
  obtain ⟨i0, hi, hi2⟩ := Option.map_eq_some_iff.1 info63
  simp only [Prod.mk.injEq] at hi2
  obtain ⟨hz0, hz1, hz2⟩ := hi2
  have HI : Hid (Tryd.prog.info? 63 = some i0 ∧ i0.zero = some bz ∧ i0.size = 4 ∧ i0.bytes = 96) := ⟨hi, hz0, hz1, hz2⟩
  have hl32 : ¬ (32 : Int) < (rs.length : Int) := by omega
  have hl256 : ¬ (256 : Int) < (ms.length : Int) := by omega
  have HEn0 : Hid (enE t (tw x) = 0 → ∀ V L, BsAt V (some ⟨L, 0, none⟩) (tw x) → Below w.heap.size w V → Calls Tryd.prog 23 #[.slice (some ⟨L, 0, none⟩) 12 12, .agg #[.int .i64 (t.u 0), .int .i64 (t.u 1), .int .i64 (t.u 2), .int .i64 (t.u 3), .int .i64 (t.l 0), .int .i64 (t.l 1), .int .i64 (t.l 2), .int .i64 (t.l 3), .int .i64 (t.b 0), .int .i64 (t.b 1), .int .i64 (t.b 2), .int .i64 (t.b 3), .int .i64 t.d]] V fun e w' => ∃ b, e = .returned (.tuple #[.slice (some ⟨b, 0, none⟩) (12 * ofs t 4) (12 * ofs t 4), .int .i64 0]) ∧ Wl w' b (12 * ofs t 4) (encW t (tw x)) ∧ V.heap.size ≤ b ∧ Below V.heap.size V w') := fun he V L hV hb => enc_yes (some ⟨L, 0, none⟩) 12 (tw x) t V hV (hG.below hb hG.big) he
  have HEn1 : Hid (enE t (tw x) ≠ 0 → ∀ V L, BsAt V (some ⟨L, 0, none⟩) (tw x) → Below w.heap.size w V → Calls Tryd.prog 23 #[.slice (some ⟨L, 0, none⟩) 12 12, .agg #[.int .i64 (t.u 0), .int .i64 (t.u 1), .int .i64 (t.u 2), .int .i64 (t.u 3), .int .i64 (t.l 0), .int .i64 (t.l 1), .int .i64 (t.l 2), .int .i64 (t.l 3), .int .i64 (t.b 0), .int .i64 (t.b 1), .int .i64 (t.b 2), .int .i64 (t.b 3), .int .i64 t.d]] V fun e w' => e = .returned (.tuple #[.slice none 0 0, .int .i64 (enE t (tw x))]) ∧ Below V.heap.size V w') := fun he V L hV hb => enc_bad (some ⟨L, 0, none⟩) 12 (tw x) t V hV (hG.below hb hG.big) (by rw [tw_len]; decide) he
  have HA : Hid ((1 ≤ o.op ∧ o.op ≤ 15) ∧ okO o = true ∧ o.Ok ∧ Bnds w ∧ (rs.length ≤ 32 ∧ ms.length ≤ 256) ∧ NL w ra rs ∧ NL w ma ms ∧ (∀ x ∈ rs, I64 x) ∧ (∀ x ∈ ms, I64 x) ∧ c < 3 ∧ rowB c o = x) := ⟨hop, hok, ho, hG, ⟨h32, h256⟩, hr, hm, hri, hmi, hc3, hx⟩
  clear hG ho hw h32 h256 hr hm hri hmi hop hok hclB hclV hdD hi hz0 hz1 hz2 hx hc3
  unfold Tab.val
  go_enter Tryd.func5, Tryd.ntmps5
  go_upto_region 8 with (first
    | (go_at_call 20; refine Calls.mono (HC.out _) ?_; rintro e w1 ⟨rfl, hb⟩; have HB1 : Hid (Bz w w1 o t ra ma rs.length rc ms.length mc) := HB0.out.up hb; clear hb HC HB0; have o0 := HB1.out.o.c 0 _ rfl; have o1 := HB1.out.o.c 1 _ rfl; have o2 := HB1.out.o.c 2 _ rfl; have o3 := HB1.out.o.c 3 _ rfl; have o4 := HB1.out.o.c 4 _ rfl; have ol := HB1.out.o.lt)
    | (go_at_call 21; refine Calls.mono (HR.out _) ?_; rintro e w2 ⟨rfl, hb⟩; have HB2 : Hid (Bz w w2 o t ra ma rs.length rc ms.length mc) := HB1.out.up hb; clear hb HR HB1 o0 o1 o2 o3 o4 ol; have s0 := HB2.out.s.c 0 _ rfl; have s1 := HB2.out.s.c 1 _ rfl; have sl := HB2.out.s.lt; have o0 := HB2.out.o.c 0 _ rfl; have o1 := HB2.out.o.c 1 _ rfl; have o2 := HB2.out.o.c 2 _ rfl; have o3 := HB2.out.o.c 3 _ rfl; have o4 := HB2.out.o.c 4 _ rfl; have ol := HB2.out.o.lt)
    | (go_at_call 22; refine Calls.mono (HRow.out _) ?_; rintro e w3 ⟨p, rfl, hbn, hfr, hb⟩; have HB3 : Hid (Bz w w3 o t ra ma rs.length rc ms.length mc ∧ BnIn w3 x p ∧ (∀ j, j < 4 → ∀ A, p.a j = some A → A.block < w3.heap.size)) := ⟨HB2.out.up hb, hbn, hfr⟩; clear hb hbn hfr HRow HB2 s0 s1 sl o0 o1 o2 o3 o4 ol; have HB4 : Hid (Bz w (w3.alloc (.cells #[.slice (p.a 0) (x.l 0).length (p.c 0), .slice (p.a 1) (x.l 1).length (p.c 1), .slice (p.a 2) (x.l 2).length (p.c 2), .slice (p.a 3) (x.l 3).length (p.c 3)] 63)) o t ra ma rs.length rc ms.length mc ∧ BnIn (w3.alloc (.cells #[.slice (p.a 0) (x.l 0).length (p.c 0), .slice (p.a 1) (x.l 1).length (p.c 1), .slice (p.a 2) (x.l 2).length (p.c 2), .slice (p.a 3) (x.l 3).length (p.c 3)] 63)) x p ∧ (∀ j, j < 4 → ∀ A, p.a j = some A → A.block < (w3.alloc (.cells #[.slice (p.a 0) (x.l 0).length (p.c 0), .slice (p.a 1) (x.l 1).length (p.c 1), .slice (p.a 2) (x.l 2).length (p.c 2), .slice (p.a 3) (x.l 3).length (p.c 3)] 63)).heap.size) ∧ At (w3.alloc (.cells #[.slice (p.a 0) (x.l 0).length (p.c 0), .slice (p.a 1) (x.l 1).length (p.c 1), .slice (p.a 2) (x.l 2).length (p.c 2), .slice (p.a 3) (x.l 3).length (p.c 3)] 63)) w3.heap.size #[.slice (p.a 0) (x.l 0).length (p.c 0), .slice (p.a 1) (x.l 1).length (p.c 1), .slice (p.a 2) (x.l 2).length (p.c 2), .slice (p.a 3) (x.l 3).length (p.c 3)]) := ⟨HB3.out.1.up (al_up _ _ _), HB3.out.2.1.below (al_up _ _ _), fun j hj A hA => Nat.lt_of_lt_of_le (HB3.out.2.2 j hj A hA) (al_up _ _ _).size, At.new _ _ _⟩)
    | (at_make; refine wpList_make_full _ rfl _ _ 65 rfl (w3.alloc (.cells #[.slice (p.a 0) (x.l 0).length (p.c 0), .slice (p.a 1) (x.l 1).length (p.c 1), .slice (p.a 2) (x.l 2).length (p.c 2), .slice (p.a 3) (x.l 3).length (p.c 3)] 63)).heap.size 63 i0 bz 4 Tryd.underlying65 HI.out.1 HI.out.2.1 HI.out.2.2.1 .i64 .i64 (12 : Int) (12 : Int) 12 rfl rfl rfl rfl (by rw [HI.out.2.2.2]; omega) (by unfold maxLen; omega) (Nat.le_refl _) ?_; intro w4 hown hgr; have hLs : (w3.alloc (.cells #[.slice (p.a 0) (x.l 0).length (p.c 0), .slice (p.a 1) (x.l 1).length (p.c 1), .slice (p.a 2) (x.l 2).length (p.c 2), .slice (p.a 3) (x.l 3).length (p.c 3)] 63)).heap.size = w3.heap.size + 1 := (by simp); rw [hLs] at hown; have HB5 : Hid (Bz w w4 o t ra ma rs.length rc ms.length mc ∧ BnIn w4 x p ∧ (∀ j, j < 4 → ∀ A, p.a j = some A → A.block ≠ (w3.heap.size + 1)) ∧ At w4 w3.heap.size #[.slice (p.a 0) (x.l 0).length (p.c 0), .slice (p.a 1) (x.l 1).length (p.c 1), .slice (p.a 2) (x.l 2).length (p.c 2), .slice (p.a 3) (x.l 3).length (p.c 3)] ∧ w4.ownsRow (w3.heap.size + 1) 63 4 (.slice (some ⟨(w3.heap.size + 1), 0, none⟩) 12 12) 12 (madeCells bz.cells (12 * 4)).toList ∧ w.heap.size + 2 < (w3.heap.size + 1)) := (by have g := grown_below hgr (fun b h => by cases h); exact ⟨HB4.out.1.up g, HB4.out.2.1.below g, fun j hj A hA => (by have h' := HB4.out.2.2.1 j hj A hA; rw [hLs] at h'; omega), HB4.out.2.2.2.below g HB4.out.2.2.2.lt, hown, (by have h' := HB4.out.1.s.lt; rw [hLs] at h'; exact h')⟩); have z0 := row_cell' hown (made_get 48 0 (by decide)); have z1 := row_cell' hown (made_get 48 1 (by decide)); have z2 := row_cell' hown (made_get 48 2 (by decide)); have z3 := row_cell' hown (made_get 48 3 (by decide)); have f0 := row_frozen hown 0; have f1 := row_frozen hown 1; have f2 := row_frozen hown 2; have f3 := row_frozen hown 3; have zl := (hown.lt _ rfl).2; have p0 := HB5.out.2.2.2.1.c 0 _ rfl; have p1 := HB5.out.2.2.2.1.c 1 _ rfl; have p2 := HB5.out.2.2.2.1.c 2 _ rfl; have p3 := HB5.out.2.2.2.1.c 3 _ rfl; have pl := HB5.out.2.2.2.1.lt; clear hown hgr hLs HB3 HB4 HI))
  generalize hL : w3.heap.size + 1 = L at *
  have HY : Hid (Bz w ((((w4.setCell ⟨L, 0, none⟩ (.slice (p.a 0) (x.l 0).length (p.c 0))).setCell ⟨L, 1, none⟩ (.slice (p.a 1) (x.l 1).length (p.c 1))).setCell ⟨L, 2, none⟩ (.slice (p.a 2) (x.l 2).length (p.c 2))).setCell ⟨L, 3, none⟩ (.slice (p.a 3) (x.l 3).length (p.c 3))) o t ra ma rs.length rc ms.length mc ∧ BsAt ((((w4.setCell ⟨L, 0, none⟩ (.slice (p.a 0) (x.l 0).length (p.c 0))).setCell ⟨L, 1, none⟩ (.slice (p.a 1) (x.l 1).length (p.c 1))).setCell ⟨L, 2, none⟩ (.slice (p.a 2) (x.l 2).length (p.c 2))).setCell ⟨L, 3, none⟩ (.slice (p.a 3) (x.l 3).length (p.c 3))) (some ⟨L, 0, none⟩) (tw x)) := by
    obtain ⟨k1, k2, k3, k4, k5, k6⟩ := HB5.out
    have g : Fr (One L) w4 ((((w4.setCell ⟨L, 0, none⟩ (.slice (p.a 0) (x.l 0).length (p.c 0))).setCell ⟨L, 1, none⟩ (.slice (p.a 1) (x.l 1).length (p.c 1))).setCell ⟨L, 2, none⟩ (.slice (p.a 2) (x.l 2).length (p.c 2))).setCell ⟨L, 3, none⟩ (.slice (p.a 3) (x.l 3).length (p.c 3))) := (((((Fr.refl (One L) w4).setCell (.inr rfl) _ _).setCell (.inr rfl) _ _).setCell (.inr rfl) _ _).setCell (.inr rfl) _ _)
    have hbl : Below (w.heap.size + 3) w4 ((((w4.setCell ⟨L, 0, none⟩ (.slice (p.a 0) (x.l 0).length (p.c 0))).setCell ⟨L, 1, none⟩ (.slice (p.a 1) (x.l 1).length (p.c 1))).setCell ⟨L, 2, none⟩ (.slice (p.a 2) (x.l 2).length (p.c 2))).setCell ⟨L, 3, none⟩ (.slice (p.a 3) (x.l 3).length (p.c 3))) := g.below (by have := k1.s.lt; omega) fun k hk e => by have e : k = L := e; omega
    exact ⟨⟨k1.o.below hbl (by omega), k1.t.below hbl (by omega), k1.s.below hbl (by omega), k1.b.trans (hbl.mono (by omega))⟩, bs_twelve k5 k2 k3⟩
  clear HB5 z0 z1 z2 z3 f0 f1 f2 f3 zl p0 p1 p2 p3 pl hL
  generalize ((((w4.setCell ⟨L, 0, none⟩ (.slice (p.a 0) (x.l 0).length (p.c 0))).setCell ⟨L, 1, none⟩ (.slice (p.a 1) (x.l 1).length (p.c 1))).setCell ⟨L, 2, none⟩ (.slice (p.a 2) (x.l 2).length (p.c 2))).setCell ⟨L, 3, none⟩ (.slice (p.a 3) (x.l 3).length (p.c 3))) = X at *
  have k2 := HY.out.1.t; have qu0 := k2.cu 0 (by decide); have qu1 := k2.cu 1 (by decide); have qu2 := k2.cu 2 (by decide); have qu3 := k2.cu 3 (by decide); have ql0 := k2.cl 0 (by decide); have ql1 := k2.cl 1 (by decide); have ql2 := k2.cl 2 (by decide); have ql3 := k2.cl 3 (by decide); have qb0 := k2.cb 0 (by decide); have qb1 := k2.cb 1 (by decide); have qb2 := k2.cb 2 (by decide); have qb3 := k2.cb 3 (by decide); have qd := k2.cd; have qz := k2.lt; clear k2
  by_cases he : enE t (tw x) = 0
  · have HE := HEn0.out he
    clear HEn0 HEn1
    obtain ⟨hop, hok, ho, hG, ⟨h32, h256⟩, hr, hm, hri, hmi, hc3, hx⟩ := HA.out
    have hdec := one_dec (t := t) (o := o) (c := c) ho (by omega) (by rw [hx]; exact he) (fun j => (encW t (tw x)).getD j 0) (by rw [hx])
    obtain ⟨hd0, hdv, hone⟩ := hdec
    obtain ⟨ls, hls⟩ : ∃ ls, deL t (fun j => (encW t (tw x)).getD j 0) 12 = ls := ⟨_, rfl⟩
    rw [hls] at hone
    have hBo : Bo t ls := by
      have := bo_dec hd0
      rw [hdv, hls] at this
      exact this
    have hS0 : (newM rs ms).Ok 0 := newM_ok hri hmi
    have hL3 := (tab_dl (enE_ok he).1).2 c (by omega)
    have hL8 := Tb.inB_iff ((Tb.ok_parts (enE_ok he).1).2 c (by omega)).2.1
    have hwok : ∀ y ∈ encW t (tw x), 0 ≤ y ∧ y < 18446744073709551616 := by
      refine enc_in (fun y hy => ?_) (enE_ok he).2.2
      rcases List.mem_cons.1 hy with e | e
      · subst e
        rw [← hx]
        intro k _ z hz
        simp only [rowB] at hz
        split at hz
        · rw [List.mem_singleton.1 hz]; exact ho
        · cases hz
      · rw [List.eq_of_mem_replicate e]
        intro k _ z hz
        cases hz
    have hle := ofs_le (enE_ok he).1
    have HN : Hid (∀ V b, Wl V b (12 * ofs t 4) (encW t (tw x)) → Below w.heap.size w V → Calls Tryd.prog 9 #[.slice (some ⟨b, 0, none⟩) (12 * ofs t 4) (12 * ofs t 4), .agg #[.int .i64 (t.u 0), .int .i64 (t.u 1), .int .i64 (t.u 2), .int .i64 (t.u 3), .int .i64 (t.l 0), .int .i64 (t.l 1), .int .i64 (t.l 2), .int .i64 (t.l 3), .int .i64 (t.b 0), .int .i64 (t.b 1), .int .i64 (t.b 2), .int .i64 (t.b 3), .int .i64 t.d], .agg #[.slice ra rs.length rc, .slice ma ms.length mc]] V fun e w' => ∃ q r c', e = .returned (.tuple #[ptr q, .int .i64 0]) ∧ Mch w' t ls (newH q r c') (newM rs ms) ∧ Below V.heap.size V w' ∧ V.heap.size ≤ q) := fun V b hV hb => new_any (some ⟨b, 0, none⟩) ra ma (12 * ofs t 4) (12 * ofs t 4) rc mc (fun j => (encW t (tw x)).getD j 0) t rs ms V (hV.ws hwok) (Nat.le_refl _) (hG.below hb hG.big) (by omega) hd0 (hr.up hb) (hm.up hb) h32 h256 ls (by rw [hdv]; exact hls) (by rw [hdv]; exact hone.n)
    have HS : Hid (OneB ls o c ∧ Bo t ls ∧ (newM rs ms).Ok 0 ∧ (1 ≤ t.l c ∧ t.l c ≤ 8) ∧ (1 ≤ o.op ∧ o.op ≤ 15) ∧ o.Ok ∧ okO o = true) := ⟨hone, hBo, hS0, hL8, hop, ho, hok⟩
    have HI2 : Hid ((∀ x ∈ rs, I64 x) ∧ (∀ x ∈ ms, I64 x)) := ⟨hri, hmi⟩
    have HI3 : Hid (c < 3) := hc3
    clear hop hok ho hG h32 h256 hr hm hri hmi hc3 hx hd0 hdv hone hBo hS0 hL3 hL8 hwok he hls HA
    generalize encW t (tw x) = ws at *
    generalize 12 * ofs t 4 = n12 at *
    generalize rs.length = rl at *
    generalize ms.length = ml at *
    go_upto_region 17 with (first
      | (go_at_call 23; refine Calls.mono (HE _ L HY.out.2 HY.out.1.b) ?_; rintro e w6 ⟨b6, rfl, hwl, hbl, hb⟩; have HB6 : Hid (Bz w w6 o t ra ma rl rc ml mc ∧ Wl w6 b6 n12 ws) := ⟨HY.out.1.up hb, hwl⟩; clear hwl hbl hb HE HY qu0 qu1 qu2 qu3 ql0 ql1 ql2 ql3 qb0 qb1 qb2 qb3 qd qz; have k2 := HB6.out.1.t; have qu0 := k2.cu 0 (by decide); have qu1 := k2.cu 1 (by decide); have qu2 := k2.cu 2 (by decide); have qu3 := k2.cu 3 (by decide); have ql0 := k2.cl 0 (by decide); have ql1 := k2.cl 1 (by decide); have ql2 := k2.cl 2 (by decide); have ql3 := k2.cl 3 (by decide); have qb0 := k2.cb 0 (by decide); have qb1 := k2.cb 1 (by decide); have qb2 := k2.cb 2 (by decide); have qb3 := k2.cb 3 (by decide); have qd := k2.cd; have qz := k2.lt; clear k2; have s0 := HB6.out.1.s.c 0 _ rfl; have s1 := HB6.out.1.s.c 1 _ rfl; have sl := HB6.out.1.s.lt)
      | (go_at_call 9; refine Calls.mono (HN.out _ b6 HB6.out.2 HB6.out.1.b) ?_; rintro e w7 ⟨q, r, c', rfl, hm7, hb, hq⟩; have HB7 : Hid (Bz w w7 o t ra ma rl rc ml mc ∧ Mch w7 t ls (newH q r c') (newM rs ms) ∧ w6.heap.size ≤ q ∧ w.heap.size + 2 < w6.heap.size ∧ w6.heap.size ≤ w7.heap.size) := ⟨HB6.out.1.up hb, hm7, hq, HB6.out.1.s.lt, hb.size⟩; clear hm7 hb hq HN HB6 s0 s1 sl qu0 qu1 qu2 qu3 ql0 ql1 ql2 ql3 qb0 qb1 qb2 qb3 qd qz)
      | (go_at_call 13; refine Calls.mono (state_q q HB7.out.2.1 rfl) ?_; rintro e w8 ⟨vr, vm, rfl, k1, k2, hb⟩; obtain ⟨ro, roc, rfl⟩ := row_slice k1; obtain ⟨uo, uoc, rfl⟩ := row_slice k2; have HL0 : Hid (Lz w (w8.alloc (.cells #[.slice ro 32 roc, .slice uo 256 uoc] 28)) o t ls (newH q r c') (newM rs ms) q w8.heap.size w6.heap.size ro uo roc uoc (newM rs ms)) := lz_make HB7.out.1 HB7.out.2.1 HB7.out.2.2.1 HB7.out.2.2.2.1 HB7.out.2.2.2.2 k1 k2 hb; clear k1 k2 hb HB7; have y0 := HL0.out.bw.c 0 _ rfl; have y1 := HL0.out.bw.c 1 _ rfl; have yl := HL0.out.bw.lt))
    clear y0 y1 yl
    generalize w8.alloc (.cells #[.slice ro 32 roc, .slice uo 256 uoc] 28) = Z at *
    generalize w8.heap.size = b17 at *
    generalize newH q r c' = H0 at *
    obtain ⟨hone, hBo, hS0, hL8, hop, ho, hok⟩ := HS.out
    obtain ⟨kd, ka, kb⟩ := okO_regs hok ho
    have d0 := ho.d0
    have a0 := ho.a0
    have b0 := ho.b0
    by_cases hres : resE (newM rs ms) o = 0
    · have hE : isE (newM rs ms) o = none := by rw [isE_wr hop, if_pos hres]
      obtain ⟨nd, hnd⟩ : ∃ n : Nat, o.d = n := ⟨o.d.toNat, by omega⟩
      have hdn : o.d.toNat = nd := by omega
      obtain ⟨la, hla⟩ : ∃ n : Nat, t.l c = n := ⟨(t.l c).toNat, by omega⟩
      have hln : (t.l c).toNat = la := by omega
      obtain ⟨X, hX⟩ : ∃ X, resV (newM rs ms) o = X := ⟨_, rfl⟩
      have hXi : I64 X := by rw [← hX]; exact resV_ok hS0 ho
      have hrun := run_lands hone hL8 hop d0 rs ms hE
      rw [hdn, hln, hX] at hrun
      have l1 : 1 ≤ la := by omega
      have l8 : la ≤ 8 := by omega
      have nd32 : nd < 32 := by omega
      have HRun : Hid (∀ V H, Mch V t ls H (newM rs ms) → H.mb = q → Calls Tryd.prog 10 #[ptr q, .int .i64 1] V (RunE V t ls H (lnS rs ms nd X la 1) 100)) := fun V H h1 h2 => run_e h1 hS0 hBo (by show (0 : Nat) ≤ 1000; decide) (by decide) hrun rfl h2
      have hri : ∀ x ∈ rs, I64 x := HI2.out.1
      have hmi : ∀ x ∈ ms, I64 x := HI2.out.2
      have HLn : Hid (∀ k, k ≤ 12 → (lnS rs ms nd X la k).Ok 1) := fun k hk => ln_ok hri hmi nd32 hXi (by omega)
      have HRk : Hid (∀ k, 1 ≤ k → k ≤ 11 → ∀ V H, Mch V t ls H (lnS rs ms nd X la k) → H.mb = q → Calls Tryd.prog 10 #[ptr q, .int .i64 1] V (RunE V t ls H (lnS rs ms nd X la (k + 1)) 100)) := fun k h1 h2 V H m1 m2 => run_e m1 (HLn.out k (by omega)) hBo (by show k ≤ 1000; omega) (by decide) (run_more hone h1 (by omega) l8 l1) rfl m2
      have HFy : Hid (∀ k, flyL (lnS rs ms nd X la k) = if k ≤ la then [nd] else []) := fun k => fly_ln nd32
      have HSr : Hid (∀ k j, j ≠ nd → (lnS rs ms nd X la k).r j = (newM rs ms).r j) := fun k j hj => by
        show (if la < k ∧ j = nd then X else _) = _
        rw [if_neg (fun e => hj e.2)]
        rfl
      have HSd : Hid (∀ k, (lnS rs ms nd X la k).r nd = if la < k then X else (newM rs ms).r nd) := fun k => by
        show (if la < k ∧ nd = nd then X else _) = _
        by_cases h : la < k
        · rw [if_pos ⟨h, rfl⟩, if_pos h]
        · rw [if_neg (fun e => h e.1), if_neg h]
          rfl
      have HT : Hid (t.l c = (la : Int) ∧ c < 3) := ⟨hla, HI3.out⟩
      have HWant : Hid (resV (newM rs ms) o = X ∧ resE (newM rs ms) o = 0 ∧ (newM rs ms).Ok 0) := ⟨hX, hres, hS0⟩
      clear hone hBo hS0 hL8 hop ho hok hE hres HS hrun hri hmi hX hXi d0 kd hdn hla hln
      obtain ⟨S0, hS0⟩ : ∃ S0, newM rs ms = S0 := ⟨_, rfl⟩
      rw [hS0] at HRun HSr HSd HWant HL0
      clear hS0
      go_upto_if 132 with (first
        | (go_at_call 10; refine Calls.mono (HRun.out _ _ HL0.out.m HL0.out.e) ?_; rintro e w9 ⟨po, pc, mo, mc, n1, n2, v1, s1, rfl, H9, k3, k4⟩; have HL9 : Hid (Lz w (w9.alloc (.cells #[.int .i64 100, .int .i64 v1, .slice po n1 pc, .slice mo n2 mc, .int .i64 s1] 42)) o t ls H9 (lnS rs ms nd X la 1) q b17 w6.heap.size ro uo roc uoc S0 ∧ At (w9.alloc (.cells #[.int .i64 100, .int .i64 v1, .slice po n1 pc, .slice mo n2 mc, .int .i64 s1] 42)) w9.heap.size #[.int .i64 100, .int .i64 v1, .slice po n1 pc, .slice mo n2 mc, .int .i64 s1]) := ⟨(HL0.out.go k3 k4).next (al_up _ _ _), At.new _ _ _⟩; clear k3 k4 HRun HL0; have y0 := HL9.out.2.c 0 _ rfl; have yl := HL9.out.2.lt; have o0 := HL9.out.1.bo.c 0 _ rfl; have o1 := HL9.out.1.bo.c 1 _ rfl; have o2 := HL9.out.1.bo.c 2 _ rfl; have o3 := HL9.out.1.bo.c 3 _ rfl; have o4 := HL9.out.1.bo.c 4 _ rfl; have ol := HL9.out.1.bo.lt))
      generalize w9.alloc (.cells #[.int .i64 100, .int .i64 v1, .slice po n1 pc, .slice mo n2 mc, .int .i64 s1] 42) = Y at *
      have HL : Hid (Lz w Y o t ls H9 (lnS rs ms nd X la 1) q b17 w6.heap.size ro uo roc uoc S0) := HL9.out.1
      clear y0 yl HL9
      obtain ⟨g, hg⟩ := row_some HL.out.rr
      obtain ⟨gu, hgu⟩ := row_256 HL.out.ru
      subst hg
      subst hgu
      go_cut [19] (fun v wc => v = .int .i64 X ∧ Lz w wc o t ls H9 (lnS rs ms nd X la 1) q b17 w6.heap.size (some ⟨g, 0, none⟩) (some ⟨gu, 0, none⟩) roc uoc S0)
      case first =>
        have o0 := HL.out.bo.c 0 _ rfl
        have o1 := HL.out.bo.c 1 _ rfl
        have o2 := HL.out.bo.c 2 _ rfl
        have o3 := HL.out.bo.c 3 _ rfl
        have o4 := HL.out.bo.c 4 _ rfl
        have ol := HL.out.bo.lt
        have w0 := HL.out.bw.c 0 _ rfl
        have w1 := HL.out.bw.c 1 _ rfl
        have wl := HL.out.bw.lt
        have gl := (HL.out.rr.lt g rfl).2
        have gul := (HL.out.ru.lt gu rfl).2
        clear HRk HFy HSr HSd HT HLn
        by_cases h15 : o.op = 15
        · have hb15 : (o.op == 15) = true := by simpa using h15
          exact absurd h15 HKK.out.2
        · have hb15 : (o.op == 15) = false := by simpa using h15
          by_cases h1 : o.op = 1
          · have hb1 : (o.op == 1) = true := by simpa using h1
            exact absurd h1 HKK.out.1
          · have hb1 : (o.op == 1) = false := by simpa using h1
            have za := row_cell' HL.out.rr (rL_at S0 (i := o.a.toNat) (by omega))
            have zb := row_cell' HL.out.rr (rL_at S0 (i := o.b.toNat) (by omega))
            have hwant : rkV o.op (S0.r o.a.toNat) (S0.r o.b.toNat) = X := by
              rw [← HWant.out.1]
              unfold resV
              rw [if_neg h1, if_neg h15]
            have hwe : rkE o.op (S0.r o.b.toNat) = 0 := by
              have := HWant.out.2.1
              unfold resE at this
              rw [if_neg h1, if_neg h15] at this
              exact this
            have hri := HWant.out.2.2.r o.a.toNat
            have HRk24 : Hid (∀ V, Calls Tryd.prog 24 #[.int .i8 o.op, .int .i64 (S0.r o.a.toNat), .int .i64 (S0.r o.b.toNat)] V fun e w' => e = .returned (.tuple #[.int .i64 X, .int .i64 0]) ∧ w' = V) := fun V => by
              have := rk_any o.op (S0.r o.a.toNat) (S0.r o.b.toNat) V hri.1 hri.2
              rw [hwant, hwe] at this
              exact this
            clear h15 h1 HWant hwant hwe hri
            go_upto_region 24 with fail
            go_quiet (first | (go_at_call 24; refine Calls.quiet_of_same (HRk24.out _)))
            go_wp2_with fail
            go_meet
            exact ⟨rfl, HL.out.next (drewN_below (Below.refl _ _) _)⟩
      case rest =>
        obtain ⟨rfl, hLc⟩ := hcut
        have HLc : Hid (Lz w wc o t ls H9 (lnS rs ms nd X la 1) q b17 w6.heap.size (some ⟨g, 0, none⟩) (some ⟨gu, 0, none⟩) roc uoc S0) := hLc
        clear hLc HL
        have c4 : c < 4 := by have := HT.out.2; omega
        clear HWant
        go_wp2_with fail
        go_loopw [22] (fun i wr => ∃ (k : Nat) (H : Hx), 1 ≤ k ∧ k ≤ 11 ∧ i = .int .i64 k ∧ Lz w wr o t ls H (lnS rs ms nd X la k) q b17 w6.heap.size (some ⟨g, 0, none⟩) (some ⟨gu, 0, none⟩) roc uoc S0) (fun i _ => 12 - (intOf i).toNat)
        case atStart => exact ⟨1, H9, by omega, by omega, rfl, HLc.out⟩
        case round =>
          rename World => wr
          obtain ⟨k, H, hk1, hk11, rfl, hl⟩ := hrel
          have HLr : Hid (Lz w wr o t ls H (lnS rs ms nd X la k) q b17 w6.heap.size (some ⟨g, 0, none⟩) (some ⟨gu, 0, none⟩) roc uoc S0) := hl
          clear hl HLc
          by_cases hlt : k ≤ 10
          · have k1 : (k : Int) ≤ 10 := by omega
            have k0 : (0 : Int) ≤ (k : Int) := by omega
            have HFl : Hid (flyL (lnS rs ms nd X la k) = if k ≤ la then [nd] else []) := HFy.out k
            have hkd := HSd.out k
            go_upto_region 36 with (first
              | (go_at_call 13; refine Calls.mono (state_q q HLr.out.m HLr.out.e) ?_; rintro e w10 ⟨vr, vm, rfl, j1, j2, hb⟩; obtain ⟨no, nc, rfl⟩ := row_slice j1; obtain ⟨nu, nuc, rfl⟩ := row_slice j2; obtain ⟨gn, hgn⟩ := row_some j1; subst hgn; have HM : Hid (Lz w (w10.alloc (.cells #[.slice (some ⟨gn, 0, none⟩) 32 nc, .slice nu 256 nuc] 28)) o t ls H (lnS rs ms nd X la k) q b17 w6.heap.size (some ⟨g, 0, none⟩) (some ⟨gu, 0, none⟩) roc uoc S0 ∧ (w10.alloc (.cells #[.slice (some ⟨gn, 0, none⟩) 32 nc, .slice nu 256 nuc] 28)).ownsRow w6.heap.size 2 1 (.slice (some ⟨gn, 0, none⟩) 32 nc) 32 (nums (rL (lnS rs ms nd X la k))) ∧ At (w10.alloc (.cells #[.slice (some ⟨gn, 0, none⟩) 32 nc, .slice nu 256 nuc] 28)) w10.heap.size #[.slice (some ⟨gn, 0, none⟩) 32 nc, .slice nu 256 nuc]) := ⟨(HLr.out.next hb).next (al_up _ _ _), row_up (row_le j1 (by have := HLr.out.o1 _ (.inl rfl); have := HLr.out.m.c.lt; omega)) (al_up _ _ _), At.new _ _ _⟩; clear j1 j2 hb HLr)
              | (go_at_call 17; refine Calls.mono (flying_q q HM.out.1.m (HLn.out k (by omega)) (by decide) HM.out.1.e) ?_; rintro e w11 ⟨vf, rfl, j1, hb⟩; obtain ⟨fo, fc, rfl⟩ := row_slice j1; have HK0 : Hid (∀ b23, b23 = w10.heap.size → Kz w w11 o t ls H (lnS rs ms nd X la k) q b17 w6.heap.size (some ⟨g, 0, none⟩) (some ⟨gu, 0, none⟩) roc uoc S0 b23 (some ⟨gn, 0, none⟩) nu fo nc nuc (flyL (lnS rs ms nd X la k))) := (fun b23 hb23 => by subst hb23; exact ⟨HM.out.1.next hb, HM.out.2.2.below hb HM.out.2.2.lt, row_up HM.out.2.1 hb, nb_row j1 rfl⟩); clear j1 hb HM; have y0 := (HK0.out _ rfl).bn.c 0 _ rfl; have yl := (HK0.out _ rfl).bn.lt))
            generalize hb23 : w10.heap.size = b23 at *
            have HK1 : Hid (Kz w w11 o t ls H (lnS rs ms nd X la k) q b17 w6.heap.size (some ⟨g, 0, none⟩) (some ⟨gu, 0, none⟩) roc uoc S0 b23 (some ⟨gn, 0, none⟩) nu fo nc nuc (flyL (lnS rs ms nd X la k))) := HK0.out b23 rfl
            clear HK0 y0 yl hb23
            go_loopw [25] (fun i wi => ∃ j : Nat, j ≤ 32 ∧ i = .int .i64 j ∧ Kz w wi o t ls H (lnS rs ms nd X la k) q b17 w6.heap.size (some ⟨g, 0, none⟩) (some ⟨gu, 0, none⟩) roc uoc S0 b23 (some ⟨gn, 0, none⟩) nu fo nc nuc (flyL (lnS rs ms nd X la k))) (fun i _ => 32 - (intOf i).toNat)
            case atStart => exact ⟨0, by omega, rfl, HK1.out⟩
            case round =>
              rename World => wi
              obtain ⟨j, hj, rfl, hk⟩ := hrel
              have HK2 : Hid (Kz w wi o t ls H (lnS rs ms nd X la k) q b17 w6.heap.size (some ⟨g, 0, none⟩) (some ⟨gu, 0, none⟩) roc uoc S0 b23 (some ⟨gn, 0, none⟩) nu fo nc nuc (flyL (lnS rs ms nd X la k))) := hk
              clear hk HK1
              have y0 := HK2.out.bn.c 0 _ rfl
              have yl := HK2.out.bn.lt
              by_cases hjl : j < 32
              · have j0 : (0 : Int) ≤ (j : Int) := by omega
                have j1 : (j : Int) < 32 := by omega
                have wd : IntKind.i64.wrap (nd : Int) = (nd : Int) := by rw [IntKind.wrap_i64]; omega
                by_cases hjd : j = nd
                · subst hjd
                  have hjj : ((j : Int) == (j : Int)) = true := by simp
                  go_upto_region 38 with fail
                  go_quiet (fail)
                  go_wp2_with fail
                  go_roundw
                  case rel => exact ⟨j + 1, by omega, by go_num, HK2.out.next (drewN_below (Below.refl _ _) _)⟩
                  case measure => simp [intOf]; omega
                · have hjj : ((j : Int) == (nd : Int)) = false := by simp; omega
                  have hjn : ((j : Int) != (nd : Int)) = true := by simp; omega
                  have hjm : (j != nd) = true := by simp; exact hjd
                  have hjz : decide ((j : Int) = (nd : Int)) = false := by simp; omega
                  have hjy : decide (j = nd) = false := by simp; exact hjd
                  have hjk := HSr.out k j hjd
                  have x0 := HK2.out.l.bw.c 0 _ rfl
                  have xl := HK2.out.l.bw.lt
                  have za := row_cell' HK2.out.rn (rL_at (lnS rs ms nd X la k) hjl)
                  have zal := (HK2.out.rn.lt gn rfl).2
                  rw [hjk] at za
                  have zb := row_cell' HK2.out.l.rr (rL_at S0 hjl)
                  have zbl := (HK2.out.l.rr.lt g rfl).2
                  clear hjk hkd
                  go_upto_region 38 with fail
                  go_quiet (fail)
                  go_wp2_with fail
                  go_roundw
                  case rel => exact ⟨j + 1, by omega, by go_num, HK2.out.next (drewN_below (Below.refl _ _) _)⟩
                  case measure => simp [intOf]; omega
              · obtain rfl : j = 32 := by omega
                go_upto_region 40 with fail
                clear y0 yl
                have nz0 : (0 : Int) ≤ (nd : Int) := by omega
                have nz1 : (nd : Int) < 32 := by omega
                have cz : (0 : Int) ≤ (c : Int) := by omega
                have cz4 : (c : Int) < 4 := by omega
                by_cases hkl : k ≤ la
                · rw [if_neg (by omega)] at hkd
                  rw [if_pos hkl] at HFl
                  have hle1 : (k : Int) ≤ (la : Int) := by omega
                  have hfl1 : (flyL (lnS rs ms nd X la k)).length = 1 := by rw [HFl.out]; rfl
                  rw [hfl1]
                  refine wp_region_held_drew (S := fun W' => Kz w W' o t ls H (lnS rs ms nd X la k) q b17 w6.heap.size (some ⟨g, 0, none⟩) (some ⟨gu, 0, none⟩) roc uoc S0 b23 (some ⟨gn, 0, none⟩) nu fo nc nuc (flyL (lnS rs ms nd X la k))) (by kernel_rfl) (HK2.out.next (drew_up wi)) (fun hHeld => ?_)
                  refine wpAnyH_take (i := 0) (v := .int .i64 (k : Int)) rfl (by kernel_rfl) (by kernel_rfl) (by kernel_rfl) (fun _ _ _ h => h) (Or.inl ⟨by rfl, fun w' hSw => by (go_simp)⟩) hHeld ?_
                  simp only [Act.put, List.setIfInBounds_toArray, List.set_cons_zero, List.set_cons_succ, List.getElem_cons_zero, List.getElem_toArray]
                  refine wpAnyH_take (i := 1) (v := .int .i64 (c : Int)) rfl (by kernel_rfl) (by kernel_rfl) (by kernel_rfl) (fun _ _ _ h => h) (Or.inl ⟨by rfl, fun w' hSw => by (go_simp)⟩) hHeld ?_
                  simp only [Act.put, List.setIfInBounds_toArray, List.set_cons_zero, List.set_cons_succ, List.getElem_cons_zero, List.getElem_cons_succ, List.getElem_toArray]
                  refine wpAnyH_take (i := 2) (v := .pointer (some ⟨w.heap.size + 1, 4, none⟩)) rfl (by kernel_rfl) (by kernel_rfl) (by kernel_rfl) (fun _ _ _ h => h) (Or.inl ⟨by rfl, fun w' hSw => by (go_simp)⟩) hHeld ?_
                  simp only [Act.put, List.setIfInBounds_toArray, List.set_cons_zero, List.set_cons_succ, List.getElem_cons_zero, List.getElem_cons_succ, List.getElem_toArray]
                  refine wpAnyH_take (i := 3) (v := .pointer (some ⟨w.heap.size + 1, 4 + c, none⟩)) rfl (by kernel_rfl) (by kernel_rfl) (by kernel_rfl) (fun _ _ _ h => h) (Or.inl ⟨by rfl, fun w' hSw => by (go_simp)⟩) hHeld ?_
                  simp only [Act.put, List.setIfInBounds_toArray, List.set_cons_zero, List.set_cons_succ, List.getElem_cons_zero, List.getElem_cons_succ, List.getElem_toArray]
                  refine wpAnyH_take (i := 4) (v := .int .i64 (la : Int)) rfl (by kernel_rfl) (by kernel_rfl) (by kernel_rfl) (fun _ _ _ h => h) (Or.inl ⟨by rfl, fun w' hSw => by (have z := hSw.l.bt.cl c c4; rw [HT.out.1] at z; have zl := hSw.l.bt.lt; go_simp)⟩) hHeld ?_
                  simp only [Act.put, List.setIfInBounds_toArray, List.set_cons_zero, List.set_cons_succ, List.getElem_cons_zero, List.getElem_cons_succ, List.getElem_toArray]
                  refine wpAnyH_take (i := 5) (v := .bool true) rfl (by kernel_rfl) (by kernel_rfl) (by kernel_rfl) (fun _ _ _ h => h) (Or.inl ⟨by rfl, fun w' hSw => by (go_simp)⟩) hHeld ?_
                  simp only [Act.put, List.setIfInBounds_toArray, List.set_cons_zero, List.set_cons_succ, List.getElem_cons_zero, List.getElem_cons_succ, List.getElem_toArray]
                  refine wpAnyH_take (i := 6) (v := .bool true) rfl (by kernel_rfl) (by kernel_rfl) (by kernel_rfl) (fun _ _ _ h => h) (Or.inl ⟨by rfl, fun w' hSw => by (go_simp)⟩) hHeld ?_
                  simp only [Act.put, List.setIfInBounds_toArray, List.set_cons_zero, List.set_cons_succ, List.getElem_cons_zero, List.getElem_cons_succ, List.getElem_toArray]
                  refine wpAnyH_take (i := 7) (v := .pointer (some ⟨b23, 0, none⟩)) rfl (by kernel_rfl) (by kernel_rfl) (by kernel_rfl) (fun _ _ _ h => h) (Or.inl ⟨by rfl, fun w' hSw => by (go_simp)⟩) hHeld ?_
                  simp only [Act.put, List.setIfInBounds_toArray, List.set_cons_zero, List.set_cons_succ, List.getElem_cons_zero, List.getElem_cons_succ, List.getElem_toArray]
                  refine wpAnyH_take (i := 8) (v := .slice (some ⟨gn, 0, none⟩) 32 nc) rfl (by kernel_rfl) (by kernel_rfl) (by kernel_rfl) (fun _ _ _ h => h) (Or.inl ⟨by rfl, fun w' hSw => by (have z := hSw.bn.c 0 _ rfl; have zl := hSw.bn.lt; go_simp)⟩) hHeld ?_
                  simp only [Act.put, List.setIfInBounds_toArray, List.set_cons_zero, List.set_cons_succ, List.getElem_cons_zero, List.getElem_cons_succ, List.getElem_toArray]
                  refine wpAnyH_take (i := 9) (v := .int .u8 (nd : Int)) rfl (by kernel_rfl) (by kernel_rfl) (by kernel_rfl) (fun _ _ _ h => h) (Or.inl ⟨by rfl, fun w' hSw => by (go_simp)⟩) hHeld ?_
                  simp only [Act.put, List.setIfInBounds_toArray, List.set_cons_zero, List.set_cons_succ, List.getElem_cons_zero, List.getElem_cons_succ, List.getElem_toArray]
                  refine wpAnyH_take (i := 10) (v := .pointer (some ⟨gn, nd, none⟩)) rfl (by kernel_rfl) (by kernel_rfl) (by kernel_rfl) (fun _ _ _ h => h) (Or.inl ⟨by rfl, fun w' hSw => by (go_simp)⟩) hHeld ?_
                  simp only [Act.put, List.setIfInBounds_toArray, List.set_cons_zero, List.set_cons_succ, List.getElem_cons_zero, List.getElem_cons_succ, List.getElem_toArray]
                  refine wpAnyH_take (i := 11) (v := .int .i64 (S0.r nd)) rfl (by kernel_rfl) (by kernel_rfl) (by kernel_rfl) (fun _ _ _ h => h) (Or.inl ⟨by rfl, fun w' hSw => by (have z := row_cell' hSw.rn (rL_at (lnS rs ms nd X la k) nd32); have zl := (hSw.rn.lt gn rfl).2; rw [hkd] at z; go_simp)⟩) hHeld ?_
                  simp only [Act.put, List.setIfInBounds_toArray, List.set_cons_zero, List.set_cons_succ, List.getElem_cons_zero, List.getElem_cons_succ, List.getElem_toArray]
                  refine wpAnyH_take (i := 12) (v := .pointer (some ⟨b17, 0, none⟩)) rfl (by kernel_rfl) (by kernel_rfl) (by kernel_rfl) (fun _ _ _ h => h) (Or.inl ⟨by rfl, fun w' hSw => by (go_simp)⟩) hHeld ?_
                  simp only [Act.put, List.setIfInBounds_toArray, List.set_cons_zero, List.set_cons_succ, List.getElem_cons_zero, List.getElem_cons_succ, List.getElem_toArray]
                  refine wpAnyH_take (i := 13) (v := .slice (some ⟨g, 0, none⟩) 32 roc) rfl (by kernel_rfl) (by kernel_rfl) (by kernel_rfl) (fun _ _ _ h => h) (Or.inl ⟨by rfl, fun w' hSw => by (have z := hSw.l.bw.c 0 _ rfl; have zl := hSw.l.bw.lt; go_simp)⟩) hHeld ?_
                  simp only [Act.put, List.setIfInBounds_toArray, List.set_cons_zero, List.set_cons_succ, List.getElem_cons_zero, List.getElem_cons_succ, List.getElem_toArray]
                  refine wpAnyH_take (i := 14) (v := .int .u8 (nd : Int)) rfl (by kernel_rfl) (by kernel_rfl) (by kernel_rfl) (fun _ _ _ h => h) (Or.inl ⟨by rfl, fun w' hSw => by (go_simp)⟩) hHeld ?_
                  simp only [Act.put, List.setIfInBounds_toArray, List.set_cons_zero, List.set_cons_succ, List.getElem_cons_zero, List.getElem_cons_succ, List.getElem_toArray]
                  refine wpAnyH_take (i := 15) (v := .pointer (some ⟨g, nd, none⟩)) rfl (by kernel_rfl) (by kernel_rfl) (by kernel_rfl) (fun _ _ _ h => h) (Or.inl ⟨by rfl, fun w' hSw => by (go_simp)⟩) hHeld ?_
                  simp only [Act.put, List.setIfInBounds_toArray, List.set_cons_zero, List.set_cons_succ, List.getElem_cons_zero, List.getElem_cons_succ, List.getElem_toArray]
                  refine wpAnyH_take (i := 16) (v := .int .i64 (S0.r nd)) rfl (by kernel_rfl) (by kernel_rfl) (by kernel_rfl) (fun _ _ _ h => h) (Or.inl ⟨by rfl, fun w' hSw => by (have z := row_cell' hSw.l.rr (rL_at S0 nd32); have zl := (hSw.l.rr.lt g rfl).2; go_simp)⟩) hHeld ?_
                  simp only [Act.put, List.setIfInBounds_toArray, List.set_cons_zero, List.set_cons_succ, List.getElem_cons_zero, List.getElem_cons_succ, List.getElem_toArray]
                  refine wpAnyH_take (i := 17) (v := .bool false) rfl (by kernel_rfl) (by kernel_rfl) (by kernel_rfl) (fun _ _ _ h => h) (Or.inl ⟨by rfl, fun w' hSw => by (go_simp)⟩) hHeld ?_
                  simp only [Act.put, List.setIfInBounds_toArray, List.set_cons_zero, List.set_cons_succ, List.getElem_cons_zero, List.getElem_cons_succ, List.getElem_toArray]
                  refine wpAnyH_take (i := 18) (v := .bool false) rfl (by kernel_rfl) (by kernel_rfl) (by kernel_rfl) (fun _ _ _ h => h) (Or.inl ⟨by rfl, fun w' hSw => by (go_simp)⟩) hHeld ?_
                  simp only [Act.put, List.setIfInBounds_toArray, List.set_cons_zero, List.set_cons_succ, List.getElem_cons_zero, List.getElem_cons_succ, List.getElem_toArray]
                  refine wpAnyH_take (i := 19) (v := .slice fo 1 fc) rfl (by kernel_rfl) (by kernel_rfl) (by kernel_rfl) (fun _ _ _ h => h) (Or.inl ⟨by rfl, fun w' hSw => by (go_simp)⟩) hHeld ?_
                  simp only [Act.put, List.setIfInBounds_toArray, List.set_cons_zero, List.set_cons_succ, List.getElem_cons_zero, List.getElem_cons_succ, List.getElem_toArray]
                  refine wpAnyH_take (i := 20) (v := .int .u8 (nd : Int)) rfl (by kernel_rfl) (by kernel_rfl) (by kernel_rfl) (fun _ _ _ h => h) (Or.inl ⟨by rfl, fun w' hSw => by (go_simp)⟩) hHeld ?_
                  simp only [Act.put, List.setIfInBounds_toArray, List.set_cons_zero, List.set_cons_succ, List.getElem_cons_zero, List.getElem_cons_succ, List.getElem_toArray]
                  refine wpAnyH_ready (rs := [21]) (by kernel_rfl) (by simp) ?_
                  refine AllReadyH.cons rfl (fun K hK => ?_) AllReadyH.nil
                  go_simp
                  have HKb : Hid (Kz w (wi.alloc (.cells #[.int .u8 (nd : Int)] 5)).drew o t ls H (lnS rs ms nd X la k) q b17 w6.heap.size (some ⟨g, 0, none⟩) (some ⟨gu, 0, none⟩) roc uoc S0 b23 (some ⟨gn, 0, none⟩) nu fo nc nuc (flyL (lnS rs ms nd X la k)) ∧ At (wi.alloc (.cells #[.int .u8 (nd : Int)] 5)).drew wi.heap.size #[.int .u8 (nd : Int)]) := ⟨(HK2.out.next (al_up _ _ _)).next (drew_up _), (At.new wi #[.int .u8 (nd : Int)] 5).below (drew_up _) (by simp)⟩
                  generalize (wi.alloc (.cells #[.int .u8 (nd : Int)] 5)).drew = wj at *
                  refine hK.out _ _ HKb.out.1 (fun hHeld => ?_)
                  clear hK K HK2
                  refine wpAnyH_ready (rs := [22]) (by kernel_rfl) (by simp) ?_
                  refine AllReadyH.cons rfl (fun K hK => ?_) AllReadyH.nil
                  go_simp
                  refine Calls.mono (regs_one (fo := fo) (c := fc) HFl.out HKb.out.1.nf HKb.out.2) ?_
                  rintro e w12 ⟨rfl, hb⟩
                  have HKc : Hid (Kz w w12 o t ls H (lnS rs ms nd X la k) q b17 w6.heap.size (some ⟨g, 0, none⟩) (some ⟨gu, 0, none⟩) roc uoc S0 b23 (some ⟨gn, 0, none⟩) nu fo nc nuc (flyL (lnS rs ms nd X la k))) := HKb.out.1.next hb; clear hb HKb
                  refine hK.out _ _ HKc.out (fun hHeld => ?_)
                  clear hK K
                  refine wpAnyH_take (i := 23) (v := .bool false) rfl (by kernel_rfl) (by kernel_rfl) (by kernel_rfl) (fun _ _ _ h => h) (Or.inl ⟨by rfl, fun w' hSw => by (go_simp)⟩) hHeld ?_
                  simp only [Act.put, List.setIfInBounds_toArray, List.set_cons_zero, List.set_cons_succ, List.getElem_cons_zero, List.getElem_cons_succ, List.getElem_toArray]
                  refine wpAnyH_take (i := 24) (v := .bool false) rfl (by kernel_rfl) (by kernel_rfl) (by kernel_rfl) (fun _ _ _ h => h) (Or.inl ⟨by rfl, fun w' hSw => by (go_simp)⟩) hHeld ?_
                  simp only [Act.put, List.setIfInBounds_toArray, List.set_cons_zero, List.set_cons_succ, List.getElem_cons_zero, List.getElem_cons_succ, List.getElem_toArray]
                  refine wpAnyH_take (i := 25) (v := .bool false) rfl (by kernel_rfl) (by kernel_rfl) (by kernel_rfl) (fun _ _ _ h => h) (Or.inl ⟨by rfl, fun w' hSw => by (go_simp)⟩) hHeld ?_
                  simp only [Act.put, List.setIfInBounds_toArray, List.set_cons_zero, List.set_cons_succ, List.getElem_cons_zero, List.getElem_cons_succ, List.getElem_toArray]
                  refine wpAnyH_take (i := 26) (v := .bool false) rfl (by kernel_rfl) (by kernel_rfl) (by kernel_rfl) (fun _ _ _ h => h) (Or.inl ⟨by rfl, fun w' hSw => by (go_simp)⟩) hHeld ?_
                  simp only [Act.put, List.setIfInBounds_toArray, List.set_cons_zero, List.set_cons_succ, List.getElem_cons_zero, List.getElem_cons_succ, List.getElem_toArray]
                  refine wpAnyH_take (i := 27) (v := .int .i64 (k : Int)) rfl (by kernel_rfl) (by kernel_rfl) (by kernel_rfl) (fun _ _ _ h => h) (Or.inl ⟨by rfl, fun w' hSw => by (go_simp)⟩) hHeld ?_
                  simp only [Act.put, List.setIfInBounds_toArray, List.set_cons_zero, List.set_cons_succ, List.getElem_cons_zero, List.getElem_cons_succ, List.getElem_toArray]
                  refine wpAnyH_take (i := 28) (v := .int .i64 (c : Int)) rfl (by kernel_rfl) (by kernel_rfl) (by kernel_rfl) (fun _ _ _ h => h) (Or.inl ⟨by rfl, fun w' hSw => by (go_simp)⟩) hHeld ?_
                  simp only [Act.put, List.setIfInBounds_toArray, List.set_cons_zero, List.set_cons_succ, List.getElem_cons_zero, List.getElem_cons_succ, List.getElem_toArray]
                  refine wpAnyH_take (i := 29) (v := .pointer (some ⟨w.heap.size + 1, 4, none⟩)) rfl (by kernel_rfl) (by kernel_rfl) (by kernel_rfl) (fun _ _ _ h => h) (Or.inl ⟨by rfl, fun w' hSw => by (go_simp)⟩) hHeld ?_
                  simp only [Act.put, List.setIfInBounds_toArray, List.set_cons_zero, List.set_cons_succ, List.getElem_cons_zero, List.getElem_cons_succ, List.getElem_toArray]
                  refine wpAnyH_take (i := 30) (v := .pointer (some ⟨w.heap.size + 1, 4 + c, none⟩)) rfl (by kernel_rfl) (by kernel_rfl) (by kernel_rfl) (fun _ _ _ h => h) (Or.inl ⟨by rfl, fun w' hSw => by (go_simp)⟩) hHeld ?_
                  simp only [Act.put, List.setIfInBounds_toArray, List.set_cons_zero, List.set_cons_succ, List.getElem_cons_zero, List.getElem_cons_succ, List.getElem_toArray]
                  refine wpAnyH_take (i := 31) (v := .int .i64 (la : Int)) rfl (by kernel_rfl) (by kernel_rfl) (by kernel_rfl) (fun _ _ _ h => h) (Or.inl ⟨by rfl, fun w' hSw => by (have z := hSw.l.bt.cl c c4; rw [HT.out.1] at z; have zl := hSw.l.bt.lt; go_simp)⟩) hHeld ?_
                  simp only [Act.put, List.setIfInBounds_toArray, List.set_cons_zero, List.set_cons_succ, List.getElem_cons_zero, List.getElem_cons_succ, List.getElem_toArray]
                  refine wpAnyH_take (i := 32) (v := .bool false) rfl (by kernel_rfl) (by kernel_rfl) (by kernel_rfl) (fun _ _ _ h => h) (Or.inl ⟨by rfl, fun w' hSw => by (go_simp)⟩) hHeld ?_
                  simp only [Act.put, List.setIfInBounds_toArray, List.set_cons_zero, List.set_cons_succ, List.getElem_cons_zero, List.getElem_cons_succ, List.getElem_toArray]
                  refine wpAnyH_take (i := 33) (v := .bool false) rfl (by kernel_rfl) (by kernel_rfl) (by kernel_rfl) (fun _ _ _ h => h) (Or.inl ⟨by rfl, fun w' hSw => by (go_simp)⟩) hHeld ?_
                  simp only [Act.put, List.setIfInBounds_toArray, List.set_cons_zero, List.set_cons_succ, List.getElem_cons_zero, List.getElem_cons_succ, List.getElem_toArray]
                  refine wpAnyH_take (i := 34) (v := undef) rfl (by kernel_rfl) (by kernel_rfl) (by kernel_rfl) (fun _ _ _ h => h) (Or.inr ⟨by rfl, rfl⟩) hHeld ?_
                  simp only [Act.put, List.setIfInBounds_toArray, List.set_cons_zero, List.set_cons_succ, List.getElem_cons_zero, List.getElem_cons_succ, List.getElem_toArray]
                  refine wpAnyH_take (i := 35) (v := undef) rfl (by kernel_rfl) (by kernel_rfl) (by kernel_rfl) (fun _ _ _ h => h) (Or.inr ⟨by rfl, rfl⟩) hHeld ?_
                  simp only [Act.put, List.setIfInBounds_toArray, List.set_cons_zero, List.set_cons_succ, List.getElem_cons_zero, List.getElem_cons_succ, List.getElem_toArray]
                  refine wpAnyH_take (i := 36) (v := undef) rfl (by kernel_rfl) (by kernel_rfl) (by kernel_rfl) (fun _ _ _ h => h) (Or.inr ⟨by rfl, rfl⟩) hHeld ?_
                  simp only [Act.put, List.setIfInBounds_toArray, List.set_cons_zero, List.set_cons_succ, List.getElem_cons_zero, List.getElem_cons_succ, List.getElem_toArray]
                  refine wpAnyH_take (i := 37) (v := undef) rfl (by kernel_rfl) (by kernel_rfl) (by kernel_rfl) (fun _ _ _ h => h) (Or.inr ⟨by rfl, rfl⟩) hHeld ?_
                  simp only [Act.put, List.setIfInBounds_toArray, List.set_cons_zero, List.set_cons_succ, List.getElem_cons_zero, List.getElem_cons_succ, List.getElem_toArray]
                  refine wpAnyH_take (i := 38) (v := undef) rfl (by kernel_rfl) (by kernel_rfl) (by kernel_rfl) (fun _ _ _ h => h) (Or.inr ⟨by rfl, rfl⟩) hHeld ?_
                  simp only [Act.put, List.setIfInBounds_toArray, List.set_cons_zero, List.set_cons_succ, List.getElem_cons_zero, List.getElem_cons_succ, List.getElem_toArray]
                  refine wpAnyH_take (i := 39) (v := undef) rfl (by kernel_rfl) (by kernel_rfl) (by kernel_rfl) (fun _ _ _ h => h) (Or.inr ⟨by rfl, rfl⟩) hHeld ?_
                  simp only [Act.put, List.setIfInBounds_toArray, List.set_cons_zero, List.set_cons_succ, List.getElem_cons_zero, List.getElem_cons_succ, List.getElem_toArray]
                  refine wpAnyH_take (i := 40) (v := undef) rfl (by kernel_rfl) (by kernel_rfl) (by kernel_rfl) (fun _ _ _ h => h) (Or.inr ⟨by rfl, rfl⟩) hHeld ?_
                  simp only [Act.put, List.setIfInBounds_toArray, List.set_cons_zero, List.set_cons_succ, List.getElem_cons_zero, List.getElem_cons_succ, List.getElem_toArray]
                  refine wpAnyH_take (i := 41) (v := undef) rfl (by kernel_rfl) (by kernel_rfl) (by kernel_rfl) (fun _ _ _ h => h) (Or.inr ⟨by rfl, rfl⟩) hHeld ?_
                  simp only [Act.put, List.setIfInBounds_toArray, List.set_cons_zero, List.set_cons_succ, List.getElem_cons_zero, List.getElem_cons_succ, List.getElem_toArray]
                  refine wpAnyH_take (i := 42) (v := undef) rfl (by kernel_rfl) (by kernel_rfl) (by kernel_rfl) (fun _ _ _ h => h) (Or.inr ⟨by rfl, rfl⟩) hHeld ?_
                  simp only [Act.put, List.setIfInBounds_toArray, List.set_cons_zero, List.set_cons_succ, List.getElem_cons_zero, List.getElem_cons_succ, List.getElem_toArray]
                  refine wpAnyH_take (i := 43) (v := undef) rfl (by kernel_rfl) (by kernel_rfl) (by kernel_rfl) (fun _ _ _ h => h) (Or.inr ⟨by rfl, rfl⟩) hHeld ?_
                  simp only [Act.put, List.setIfInBounds_toArray, List.set_cons_zero, List.set_cons_succ, List.getElem_cons_zero, List.getElem_cons_succ, List.getElem_toArray]
                  refine wpAnyH_take (i := 44) (v := undef) rfl (by kernel_rfl) (by kernel_rfl) (by kernel_rfl) (fun _ _ _ h => h) (Or.inr ⟨by rfl, rfl⟩) hHeld ?_
                  simp only [Act.put, List.setIfInBounds_toArray, List.set_cons_zero, List.set_cons_succ, List.getElem_cons_zero, List.getElem_cons_succ, List.getElem_toArray]
                  refine wpAnyH_take (i := 45) (v := undef) rfl (by kernel_rfl) (by kernel_rfl) (by kernel_rfl) (fun _ _ _ h => h) (Or.inr ⟨by rfl, rfl⟩) hHeld ?_
                  simp only [Act.put, List.setIfInBounds_toArray, List.set_cons_zero, List.set_cons_succ, List.getElem_cons_zero, List.getElem_cons_succ, List.getElem_toArray]
                  refine wpAnyH_take (i := 46) (v := .bool false) rfl (by kernel_rfl) (by kernel_rfl) (by kernel_rfl) (fun _ _ _ h => h) (Or.inl ⟨by rfl, fun w' hSw => by (go_simp)⟩) hHeld ?_
                  simp only [Act.put, List.setIfInBounds_toArray, List.set_cons_zero, List.set_cons_succ, List.getElem_cons_zero, List.getElem_cons_succ, List.getElem_toArray]
                  refine wpAnyH_take (i := 47) (v := .bool false) rfl (by kernel_rfl) (by kernel_rfl) (by kernel_rfl) (fun _ _ _ h => h) (Or.inl ⟨by rfl, fun w' hSw => by (go_simp)⟩) hHeld ?_
                  simp only [Act.put, List.setIfInBounds_toArray, List.set_cons_zero, List.set_cons_succ, List.getElem_cons_zero, List.getElem_cons_succ, List.getElem_toArray]
                  refine wpAnyH_done (by kernel_rfl) ?_ _
                  clear hHeld
                  have hmE := HKc.out.l.e
                  go_wp2_with (first
                    | (go_at_call 10; refine Calls.mono (HRk.out k (by omega) (by omega) _ H HKc.out.l.m hmE) ?_; rintro e w13 ⟨po, pc, mo, mc, n1, n2, v1, s1, rfl, H13, k3, k4⟩; have HLn2 : Hid (Lz w w13 o t ls H13 (lnS rs ms nd X la (k + 1)) q b17 w6.heap.size (some ⟨g, 0, none⟩) (some ⟨gu, 0, none⟩) roc uoc S0) := HKc.out.l.go k3 k4; clear k3 k4 HKc))
                  go_roundw
                  case rel => exact ⟨k + 1, H13, by omega, by omega, by go_num, HLn2.out⟩
                  case measure => simp [intOf]; omega
                · rw [if_pos (by omega)] at hkd
                  rw [if_neg hkl] at HFl
                  have hle1 : ¬ (k : Int) ≤ (la : Int) := by omega
                  have hle2 : (la : Int) < (k : Int) := by omega
                  have hfl1 : (flyL (lnS rs ms nd X la k)).length = 0 := by rw [HFl.out]; rfl
                  rw [hfl1]
                  refine wp_region_held_drew (S := fun W' => Kz w W' o t ls H (lnS rs ms nd X la k) q b17 w6.heap.size (some ⟨g, 0, none⟩) (some ⟨gu, 0, none⟩) roc uoc S0 b23 (some ⟨gn, 0, none⟩) nu fo nc nuc (flyL (lnS rs ms nd X la k))) (by kernel_rfl) (HK2.out.next (drew_up wi)) (fun hHeld => ?_)
                  have HKc : Hid (Kz w wi.drew o t ls H (lnS rs ms nd X la k) q b17 w6.heap.size (some ⟨g, 0, none⟩) (some ⟨gu, 0, none⟩) roc uoc S0 b23 (some ⟨gn, 0, none⟩) nu fo nc nuc (flyL (lnS rs ms nd X la k))) := HK2.out.next (drew_up wi)
                  clear HK2
                  refine wpAnyH_take (i := 0) (v := .int .i64 (k : Int)) rfl (by kernel_rfl) (by kernel_rfl) (by kernel_rfl) (fun _ _ _ h => h) (Or.inl ⟨by rfl, fun w' hSw => by (go_simp)⟩) hHeld ?_
                  simp only [Act.put, List.setIfInBounds_toArray, List.set_cons_zero, List.set_cons_succ, List.getElem_cons_zero, List.getElem_toArray]
                  refine wpAnyH_take (i := 1) (v := .int .i64 (c : Int)) rfl (by kernel_rfl) (by kernel_rfl) (by kernel_rfl) (fun _ _ _ h => h) (Or.inl ⟨by rfl, fun w' hSw => by (go_simp)⟩) hHeld ?_
                  simp only [Act.put, List.setIfInBounds_toArray, List.set_cons_zero, List.set_cons_succ, List.getElem_cons_zero, List.getElem_cons_succ, List.getElem_toArray]
                  refine wpAnyH_take (i := 2) (v := .pointer (some ⟨w.heap.size + 1, 4, none⟩)) rfl (by kernel_rfl) (by kernel_rfl) (by kernel_rfl) (fun _ _ _ h => h) (Or.inl ⟨by rfl, fun w' hSw => by (go_simp)⟩) hHeld ?_
                  simp only [Act.put, List.setIfInBounds_toArray, List.set_cons_zero, List.set_cons_succ, List.getElem_cons_zero, List.getElem_cons_succ, List.getElem_toArray]
                  refine wpAnyH_take (i := 3) (v := .pointer (some ⟨w.heap.size + 1, 4 + c, none⟩)) rfl (by kernel_rfl) (by kernel_rfl) (by kernel_rfl) (fun _ _ _ h => h) (Or.inl ⟨by rfl, fun w' hSw => by (go_simp)⟩) hHeld ?_
                  simp only [Act.put, List.setIfInBounds_toArray, List.set_cons_zero, List.set_cons_succ, List.getElem_cons_zero, List.getElem_cons_succ, List.getElem_toArray]
                  refine wpAnyH_take (i := 4) (v := .int .i64 (la : Int)) rfl (by kernel_rfl) (by kernel_rfl) (by kernel_rfl) (fun _ _ _ h => h) (Or.inl ⟨by rfl, fun w' hSw => by (have z := hSw.l.bt.cl c c4; rw [HT.out.1] at z; have zl := hSw.l.bt.lt; go_simp)⟩) hHeld ?_
                  simp only [Act.put, List.setIfInBounds_toArray, List.set_cons_zero, List.set_cons_succ, List.getElem_cons_zero, List.getElem_cons_succ, List.getElem_toArray]
                  refine wpAnyH_take (i := 5) (v := .bool false) rfl (by kernel_rfl) (by kernel_rfl) (by kernel_rfl) (fun _ _ _ h => h) (Or.inl ⟨by rfl, fun w' hSw => by (go_simp)⟩) hHeld ?_
                  simp only [Act.put, List.setIfInBounds_toArray, List.set_cons_zero, List.set_cons_succ, List.getElem_cons_zero, List.getElem_cons_succ, List.getElem_toArray]
                  refine wpAnyH_take (i := 6) (v := .bool false) rfl (by kernel_rfl) (by kernel_rfl) (by kernel_rfl) (fun _ _ _ h => h) (Or.inl ⟨by rfl, fun w' hSw => by (go_simp)⟩) hHeld ?_
                  simp only [Act.put, List.setIfInBounds_toArray, List.set_cons_zero, List.set_cons_succ, List.getElem_cons_zero, List.getElem_cons_succ, List.getElem_toArray]
                  refine wpAnyH_take (i := 7) (v := undef) rfl (by kernel_rfl) (by kernel_rfl) (by kernel_rfl) (fun _ _ _ h => h) (Or.inr ⟨by rfl, rfl⟩) hHeld ?_
                  simp only [Act.put, List.setIfInBounds_toArray, List.set_cons_zero, List.set_cons_succ, List.getElem_cons_zero, List.getElem_cons_succ, List.getElem_toArray]
                  refine wpAnyH_take (i := 8) (v := undef) rfl (by kernel_rfl) (by kernel_rfl) (by kernel_rfl) (fun _ _ _ h => h) (Or.inr ⟨by rfl, rfl⟩) hHeld ?_
                  simp only [Act.put, List.setIfInBounds_toArray, List.set_cons_zero, List.set_cons_succ, List.getElem_cons_zero, List.getElem_cons_succ, List.getElem_toArray]
                  refine wpAnyH_take (i := 9) (v := undef) rfl (by kernel_rfl) (by kernel_rfl) (by kernel_rfl) (fun _ _ _ h => h) (Or.inr ⟨by rfl, rfl⟩) hHeld ?_
                  simp only [Act.put, List.setIfInBounds_toArray, List.set_cons_zero, List.set_cons_succ, List.getElem_cons_zero, List.getElem_cons_succ, List.getElem_toArray]
                  refine wpAnyH_take (i := 10) (v := undef) rfl (by kernel_rfl) (by kernel_rfl) (by kernel_rfl) (fun _ _ _ h => h) (Or.inr ⟨by rfl, rfl⟩) hHeld ?_
                  simp only [Act.put, List.setIfInBounds_toArray, List.set_cons_zero, List.set_cons_succ, List.getElem_cons_zero, List.getElem_cons_succ, List.getElem_toArray]
                  refine wpAnyH_take (i := 11) (v := undef) rfl (by kernel_rfl) (by kernel_rfl) (by kernel_rfl) (fun _ _ _ h => h) (Or.inr ⟨by rfl, rfl⟩) hHeld ?_
                  simp only [Act.put, List.setIfInBounds_toArray, List.set_cons_zero, List.set_cons_succ, List.getElem_cons_zero, List.getElem_cons_succ, List.getElem_toArray]
                  refine wpAnyH_take (i := 12) (v := undef) rfl (by kernel_rfl) (by kernel_rfl) (by kernel_rfl) (fun _ _ _ h => h) (Or.inr ⟨by rfl, rfl⟩) hHeld ?_
                  simp only [Act.put, List.setIfInBounds_toArray, List.set_cons_zero, List.set_cons_succ, List.getElem_cons_zero, List.getElem_cons_succ, List.getElem_toArray]
                  refine wpAnyH_take (i := 13) (v := undef) rfl (by kernel_rfl) (by kernel_rfl) (by kernel_rfl) (fun _ _ _ h => h) (Or.inr ⟨by rfl, rfl⟩) hHeld ?_
                  simp only [Act.put, List.setIfInBounds_toArray, List.set_cons_zero, List.set_cons_succ, List.getElem_cons_zero, List.getElem_cons_succ, List.getElem_toArray]
                  refine wpAnyH_take (i := 14) (v := undef) rfl (by kernel_rfl) (by kernel_rfl) (by kernel_rfl) (fun _ _ _ h => h) (Or.inr ⟨by rfl, rfl⟩) hHeld ?_
                  simp only [Act.put, List.setIfInBounds_toArray, List.set_cons_zero, List.set_cons_succ, List.getElem_cons_zero, List.getElem_cons_succ, List.getElem_toArray]
                  refine wpAnyH_take (i := 15) (v := undef) rfl (by kernel_rfl) (by kernel_rfl) (by kernel_rfl) (fun _ _ _ h => h) (Or.inr ⟨by rfl, rfl⟩) hHeld ?_
                  simp only [Act.put, List.setIfInBounds_toArray, List.set_cons_zero, List.set_cons_succ, List.getElem_cons_zero, List.getElem_cons_succ, List.getElem_toArray]
                  refine wpAnyH_take (i := 16) (v := undef) rfl (by kernel_rfl) (by kernel_rfl) (by kernel_rfl) (fun _ _ _ h => h) (Or.inr ⟨by rfl, rfl⟩) hHeld ?_
                  simp only [Act.put, List.setIfInBounds_toArray, List.set_cons_zero, List.set_cons_succ, List.getElem_cons_zero, List.getElem_cons_succ, List.getElem_toArray]
                  refine wpAnyH_take (i := 17) (v := undef) rfl (by kernel_rfl) (by kernel_rfl) (by kernel_rfl) (fun _ _ _ h => h) (Or.inr ⟨by rfl, rfl⟩) hHeld ?_
                  simp only [Act.put, List.setIfInBounds_toArray, List.set_cons_zero, List.set_cons_succ, List.getElem_cons_zero, List.getElem_cons_succ, List.getElem_toArray]
                  refine wpAnyH_take (i := 18) (v := undef) rfl (by kernel_rfl) (by kernel_rfl) (by kernel_rfl) (fun _ _ _ h => h) (Or.inr ⟨by rfl, rfl⟩) hHeld ?_
                  simp only [Act.put, List.setIfInBounds_toArray, List.set_cons_zero, List.set_cons_succ, List.getElem_cons_zero, List.getElem_cons_succ, List.getElem_toArray]
                  refine wpAnyH_take (i := 19) (v := undef) rfl (by kernel_rfl) (by kernel_rfl) (by kernel_rfl) (fun _ _ _ h => h) (Or.inr ⟨by rfl, rfl⟩) hHeld ?_
                  simp only [Act.put, List.setIfInBounds_toArray, List.set_cons_zero, List.set_cons_succ, List.getElem_cons_zero, List.getElem_cons_succ, List.getElem_toArray]
                  refine wpAnyH_take (i := 20) (v := undef) rfl (by kernel_rfl) (by kernel_rfl) (by kernel_rfl) (fun _ _ _ h => h) (Or.inr ⟨by rfl, rfl⟩) hHeld ?_
                  simp only [Act.put, List.setIfInBounds_toArray, List.set_cons_zero, List.set_cons_succ, List.getElem_cons_zero, List.getElem_cons_succ, List.getElem_toArray]
                  refine wpAnyH_take (i := 21) (v := undef) rfl (by kernel_rfl) (by kernel_rfl) (by kernel_rfl) (fun _ _ _ h => h) (Or.inr ⟨by rfl, rfl⟩) hHeld ?_
                  simp only [Act.put, List.setIfInBounds_toArray, List.set_cons_zero, List.set_cons_succ, List.getElem_cons_zero, List.getElem_cons_succ, List.getElem_toArray]
                  refine wpAnyH_take (i := 22) (v := undef) rfl (by kernel_rfl) (by kernel_rfl) (by kernel_rfl) (fun _ _ _ h => h) (Or.inr ⟨by rfl, rfl⟩) hHeld ?_
                  simp only [Act.put, List.setIfInBounds_toArray, List.set_cons_zero, List.set_cons_succ, List.getElem_cons_zero, List.getElem_cons_succ, List.getElem_toArray]
                  refine wpAnyH_take (i := 23) (v := undef) rfl (by kernel_rfl) (by kernel_rfl) (by kernel_rfl) (fun _ _ _ h => h) (Or.inr ⟨by rfl, rfl⟩) hHeld ?_
                  simp only [Act.put, List.setIfInBounds_toArray, List.set_cons_zero, List.set_cons_succ, List.getElem_cons_zero, List.getElem_cons_succ, List.getElem_toArray]
                  refine wpAnyH_take (i := 24) (v := undef) rfl (by kernel_rfl) (by kernel_rfl) (by kernel_rfl) (fun _ _ _ h => h) (Or.inr ⟨by rfl, rfl⟩) hHeld ?_
                  simp only [Act.put, List.setIfInBounds_toArray, List.set_cons_zero, List.set_cons_succ, List.getElem_cons_zero, List.getElem_cons_succ, List.getElem_toArray]
                  refine wpAnyH_take (i := 25) (v := .bool false) rfl (by kernel_rfl) (by kernel_rfl) (by kernel_rfl) (fun _ _ _ h => h) (Or.inl ⟨by rfl, fun w' hSw => by (go_simp)⟩) hHeld ?_
                  simp only [Act.put, List.setIfInBounds_toArray, List.set_cons_zero, List.set_cons_succ, List.getElem_cons_zero, List.getElem_cons_succ, List.getElem_toArray]
                  refine wpAnyH_take (i := 26) (v := .bool false) rfl (by kernel_rfl) (by kernel_rfl) (by kernel_rfl) (fun _ _ _ h => h) (Or.inl ⟨by rfl, fun w' hSw => by (go_simp)⟩) hHeld ?_
                  simp only [Act.put, List.setIfInBounds_toArray, List.set_cons_zero, List.set_cons_succ, List.getElem_cons_zero, List.getElem_cons_succ, List.getElem_toArray]
                  refine wpAnyH_take (i := 27) (v := .int .i64 (k : Int)) rfl (by kernel_rfl) (by kernel_rfl) (by kernel_rfl) (fun _ _ _ h => h) (Or.inl ⟨by rfl, fun w' hSw => by (go_simp)⟩) hHeld ?_
                  simp only [Act.put, List.setIfInBounds_toArray, List.set_cons_zero, List.set_cons_succ, List.getElem_cons_zero, List.getElem_cons_succ, List.getElem_toArray]
                  refine wpAnyH_take (i := 28) (v := .int .i64 (c : Int)) rfl (by kernel_rfl) (by kernel_rfl) (by kernel_rfl) (fun _ _ _ h => h) (Or.inl ⟨by rfl, fun w' hSw => by (go_simp)⟩) hHeld ?_
                  simp only [Act.put, List.setIfInBounds_toArray, List.set_cons_zero, List.set_cons_succ, List.getElem_cons_zero, List.getElem_cons_succ, List.getElem_toArray]
                  refine wpAnyH_take (i := 29) (v := .pointer (some ⟨w.heap.size + 1, 4, none⟩)) rfl (by kernel_rfl) (by kernel_rfl) (by kernel_rfl) (fun _ _ _ h => h) (Or.inl ⟨by rfl, fun w' hSw => by (go_simp)⟩) hHeld ?_
                  simp only [Act.put, List.setIfInBounds_toArray, List.set_cons_zero, List.set_cons_succ, List.getElem_cons_zero, List.getElem_cons_succ, List.getElem_toArray]
                  refine wpAnyH_take (i := 30) (v := .pointer (some ⟨w.heap.size + 1, 4 + c, none⟩)) rfl (by kernel_rfl) (by kernel_rfl) (by kernel_rfl) (fun _ _ _ h => h) (Or.inl ⟨by rfl, fun w' hSw => by (go_simp)⟩) hHeld ?_
                  simp only [Act.put, List.setIfInBounds_toArray, List.set_cons_zero, List.set_cons_succ, List.getElem_cons_zero, List.getElem_cons_succ, List.getElem_toArray]
                  refine wpAnyH_take (i := 31) (v := .int .i64 (la : Int)) rfl (by kernel_rfl) (by kernel_rfl) (by kernel_rfl) (fun _ _ _ h => h) (Or.inl ⟨by rfl, fun w' hSw => by (have z := hSw.l.bt.cl c c4; rw [HT.out.1] at z; have zl := hSw.l.bt.lt; go_simp)⟩) hHeld ?_
                  simp only [Act.put, List.setIfInBounds_toArray, List.set_cons_zero, List.set_cons_succ, List.getElem_cons_zero, List.getElem_cons_succ, List.getElem_toArray]
                  refine wpAnyH_take (i := 32) (v := .bool true) rfl (by kernel_rfl) (by kernel_rfl) (by kernel_rfl) (fun _ _ _ h => h) (Or.inl ⟨by rfl, fun w' hSw => by (go_simp)⟩) hHeld ?_
                  simp only [Act.put, List.setIfInBounds_toArray, List.set_cons_zero, List.set_cons_succ, List.getElem_cons_zero, List.getElem_cons_succ, List.getElem_toArray]
                  refine wpAnyH_take (i := 33) (v := .bool true) rfl (by kernel_rfl) (by kernel_rfl) (by kernel_rfl) (fun _ _ _ h => h) (Or.inl ⟨by rfl, fun w' hSw => by (go_simp)⟩) hHeld ?_
                  simp only [Act.put, List.setIfInBounds_toArray, List.set_cons_zero, List.set_cons_succ, List.getElem_cons_zero, List.getElem_cons_succ, List.getElem_toArray]
                  refine wpAnyH_take (i := 34) (v := .pointer (some ⟨b23, 0, none⟩)) rfl (by kernel_rfl) (by kernel_rfl) (by kernel_rfl) (fun _ _ _ h => h) (Or.inl ⟨by rfl, fun w' hSw => by (go_simp)⟩) hHeld ?_
                  simp only [Act.put, List.setIfInBounds_toArray, List.set_cons_zero, List.set_cons_succ, List.getElem_cons_zero, List.getElem_cons_succ, List.getElem_toArray]
                  refine wpAnyH_take (i := 35) (v := .slice (some ⟨gn, 0, none⟩) 32 nc) rfl (by kernel_rfl) (by kernel_rfl) (by kernel_rfl) (fun _ _ _ h => h) (Or.inl ⟨by rfl, fun w' hSw => by (have z := hSw.bn.c 0 _ rfl; have zl := hSw.bn.lt; go_simp)⟩) hHeld ?_
                  simp only [Act.put, List.setIfInBounds_toArray, List.set_cons_zero, List.set_cons_succ, List.getElem_cons_zero, List.getElem_cons_succ, List.getElem_toArray]
                  refine wpAnyH_take (i := 36) (v := .int .u8 (nd : Int)) rfl (by kernel_rfl) (by kernel_rfl) (by kernel_rfl) (fun _ _ _ h => h) (Or.inl ⟨by rfl, fun w' hSw => by (go_simp)⟩) hHeld ?_
                  simp only [Act.put, List.setIfInBounds_toArray, List.set_cons_zero, List.set_cons_succ, List.getElem_cons_zero, List.getElem_cons_succ, List.getElem_toArray]
                  refine wpAnyH_take (i := 37) (v := .pointer (some ⟨gn, nd, none⟩)) rfl (by kernel_rfl) (by kernel_rfl) (by kernel_rfl) (fun _ _ _ h => h) (Or.inl ⟨by rfl, fun w' hSw => by (go_simp)⟩) hHeld ?_
                  simp only [Act.put, List.setIfInBounds_toArray, List.set_cons_zero, List.set_cons_succ, List.getElem_cons_zero, List.getElem_cons_succ, List.getElem_toArray]
                  refine wpAnyH_take (i := 38) (v := .int .i64 X) rfl (by kernel_rfl) (by kernel_rfl) (by kernel_rfl) (fun _ _ _ h => h) (Or.inl ⟨by rfl, fun w' hSw => by (have z := row_cell' hSw.rn (rL_at (lnS rs ms nd X la k) nd32); have zl := (hSw.rn.lt gn rfl).2; rw [hkd] at z; go_simp)⟩) hHeld ?_
                  simp only [Act.put, List.setIfInBounds_toArray, List.set_cons_zero, List.set_cons_succ, List.getElem_cons_zero, List.getElem_cons_succ, List.getElem_toArray]
                  refine wpAnyH_take (i := 39) (v := .int .i64 X) rfl (by kernel_rfl) (by kernel_rfl) (by kernel_rfl) (fun _ _ _ h => h) (Or.inl ⟨by rfl, fun w' hSw => by (go_simp)⟩) hHeld ?_
                  simp only [Act.put, List.setIfInBounds_toArray, List.set_cons_zero, List.set_cons_succ, List.getElem_cons_zero, List.getElem_cons_succ, List.getElem_toArray]
                  refine wpAnyH_take (i := 40) (v := .bool false) rfl (by kernel_rfl) (by kernel_rfl) (by kernel_rfl) (fun _ _ _ h => h) (Or.inl ⟨by rfl, fun w' hSw => by (go_simp)⟩) hHeld ?_
                  simp only [Act.put, List.setIfInBounds_toArray, List.set_cons_zero, List.set_cons_succ, List.getElem_cons_zero, List.getElem_cons_succ, List.getElem_toArray]
                  refine wpAnyH_take (i := 41) (v := .bool false) rfl (by kernel_rfl) (by kernel_rfl) (by kernel_rfl) (fun _ _ _ h => h) (Or.inl ⟨by rfl, fun w' hSw => by (go_simp)⟩) hHeld ?_
                  simp only [Act.put, List.setIfInBounds_toArray, List.set_cons_zero, List.set_cons_succ, List.getElem_cons_zero, List.getElem_cons_succ, List.getElem_toArray]
                  refine wpAnyH_take (i := 42) (v := .slice fo 0 fc) rfl (by kernel_rfl) (by kernel_rfl) (by kernel_rfl) (fun _ _ _ h => h) (Or.inl ⟨by rfl, fun w' hSw => by (go_simp)⟩) hHeld ?_
                  simp only [Act.put, List.setIfInBounds_toArray, List.set_cons_zero, List.set_cons_succ, List.getElem_cons_zero, List.getElem_cons_succ, List.getElem_toArray]
                  refine wpAnyH_take (i := 43) (v := .int .i64 0) rfl (by kernel_rfl) (by kernel_rfl) (by kernel_rfl) (fun _ _ _ h => h) (Or.inl ⟨by rfl, fun w' hSw => by (go_simp)⟩) hHeld ?_
                  simp only [Act.put, List.setIfInBounds_toArray, List.set_cons_zero, List.set_cons_succ, List.getElem_cons_zero, List.getElem_cons_succ, List.getElem_toArray]
                  refine wpAnyH_take (i := 44) (v := .bool false) rfl (by kernel_rfl) (by kernel_rfl) (by kernel_rfl) (fun _ _ _ h => h) (Or.inl ⟨by rfl, fun w' hSw => by (go_simp)⟩) hHeld ?_
                  simp only [Act.put, List.setIfInBounds_toArray, List.set_cons_zero, List.set_cons_succ, List.getElem_cons_zero, List.getElem_cons_succ, List.getElem_toArray]
                  refine wpAnyH_take (i := 45) (v := .bool false) rfl (by kernel_rfl) (by kernel_rfl) (by kernel_rfl) (fun _ _ _ h => h) (Or.inl ⟨by rfl, fun w' hSw => by (go_simp)⟩) hHeld ?_
                  simp only [Act.put, List.setIfInBounds_toArray, List.set_cons_zero, List.set_cons_succ, List.getElem_cons_zero, List.getElem_cons_succ, List.getElem_toArray]
                  refine wpAnyH_take (i := 46) (v := .bool false) rfl (by kernel_rfl) (by kernel_rfl) (by kernel_rfl) (fun _ _ _ h => h) (Or.inl ⟨by rfl, fun w' hSw => by (go_simp)⟩) hHeld ?_
                  simp only [Act.put, List.setIfInBounds_toArray, List.set_cons_zero, List.set_cons_succ, List.getElem_cons_zero, List.getElem_cons_succ, List.getElem_toArray]
                  refine wpAnyH_take (i := 47) (v := .bool false) rfl (by kernel_rfl) (by kernel_rfl) (by kernel_rfl) (fun _ _ _ h => h) (Or.inl ⟨by rfl, fun w' hSw => by (go_simp)⟩) hHeld ?_
                  simp only [Act.put, List.setIfInBounds_toArray, List.set_cons_zero, List.set_cons_succ, List.getElem_cons_zero, List.getElem_cons_succ, List.getElem_toArray]
                  refine wpAnyH_done (by kernel_rfl) ?_ _
                  clear hHeld
                  have hmE := HKc.out.l.e
                  go_wp2_with (first
                    | (go_at_call 10; refine Calls.mono (HRk.out k (by omega) (by omega) _ H HKc.out.l.m hmE) ?_; rintro e w13 ⟨po, pc, mo, mc, n1, n2, v1, s1, rfl, H13, k3, k4⟩; have HLn2 : Hid (Lz w w13 o t ls H13 (lnS rs ms nd X la (k + 1)) q b17 w6.heap.size (some ⟨g, 0, none⟩) (some ⟨gu, 0, none⟩) roc uoc S0) := HKc.out.l.go k3 k4; clear k3 k4 HKc))
                  go_roundw
                  case rel => exact ⟨k + 1, H13, by omega, by omega, by go_num, HLn2.out⟩
                  case measure => simp [intOf]; omega
          · obtain rfl : k = 11 := by omega
            go_wp2_with (first
              | (go_at_call 7; refine Calls.mono (HW.out _ HLr.out.up) ?_; rintro e w14 ⟨rfl, hb⟩; have HZ : Hid (Below w.heap.size w w14) := HLr.out.up.trans (hb.mono HLr.out.up.size); clear hb))
            go_ret
            exact ⟨rfl, HZ.out⟩
    · exact absurd HXX.out hres
  · exact absurd HEE.out he
end Go.Proofs.YtldfjlepbbmhnaaDoor.Pp
