/- The statement BetterOnce: out of what its callees answer. Conditions: the program lies in memory; the variables as the program lays them. -/
import Derived.Test.YtddcndlogoajkaaDoorGl
import Derived.Test.YtddcndlogoajkaaDoorQLk
import Derived.BigQuiet
import Derived.Deep.DeepCutAuto
namespace Go.Proofs.YtddcndlogoajkaaDoor.L8.Bt
open Go.ChangeShapes Go.WideShapes Go.ChangeAt Go.RowKit Go.Great
open _root_.Go.Proofs.YtddcndlogoajkaaDoor.L8.So _root_.Go.Proofs.YtddcndlogoajkaaDoor.L8.Op _root_.Go.Proofs.YtddcndlogoajkaaDoor.L8.Fl
open _root_.Go.Proofs.YtddcndlogoajkaaDoor.L8.Lv (PsOk psOk_of)
set_option maxRecDepth 20000

/-- A program's box: the value and the program. -/
structure Px (W : World) (b : Nat) (a : Option Addr) (n c : Nat) (ps : List Bk) : Prop where
  t : At W b #[.slice a n c]
  p : PAt W a ps
theorem Px.up {W W' : World} {b : Nat} {a : Option Addr} {n c : Nat} {ps : List Bk} (h : Px W b a n c ps) (hb : Below W.heap.size W W') : Px W' b a n c ps := ⟨h.t.below hb h.t.lt, h.p.below hb⟩
theorem Px.new {W : World} {a : Option Addr} {n c : Nat} {ps : List Bk} (h : PAt W a ps) (t : TypeId) : Px (W.alloc (.cells #[.slice a n c] t)) W.heap.size a n c ps := ⟨Op.At.new _ _ _, h.below (below_al _)⟩
set_option maxHeartbeats 4000000 in
theorem once_no (ao : Option Addr) (cap : Nat) (ps : List Bk) (w : World) (h : PAt w ao ps) (he : Env w) (hn : ckP ps ≠ 0 ∨ 200 < opsN ps) :
    Calls Tryd.prog 3 #[.agg #[.slice ao ps.length cap]] w fun e w' => e = .returned (.bool true) ∧ Below w.heap.size w w' := by
  have HQ : Hid (Px (w.alloc (.cells #[.slice ao ps.length cap] 24)) w.heap.size ao ps.length cap ps ∧ Below w.heap.size w (w.alloc (.cells #[.slice ao ps.length cap] 24))) := ⟨Px.new h 24, below_al _⟩
  have HK : Hid (∀ W, Below w.heap.size w W → Calls Tryd.prog 6 #[] W fun e w' => e = .returned (.bool true) ∧ Below W.heap.size W w') := fun W hb => wakes_any W (he.up hb)
  have HC : Hid (∀ W, Below w.heap.size w W → Calls Tryd.prog 4 #[.agg #[.slice ao ps.length cap]] W fun e w' => e = .returned (.int .i64 (ckP ps)) ∧ Below W.heap.size W w') := fun W hb => checkP_any ao cap ps W (h.below hb) (he.up hb)
  by_cases hc : ckP ps = 0
  · have hl : ps.length ≤ 8192 := by have := (psG_of (psOk_of h) hc).n; omega
    have HO : Hid (∀ W, Below w.heap.size w W → Calls Tryd.prog 5 #[.agg #[.slice ao ps.length cap]] W fun e w' => e = .returned (.int .i64 ((opsN ps : Nat) : Int)) ∧ Below W.heap.size W w') := fun W hb => ops_any ao cap ps W (h.below hb) hl
    rw [hc] at HC
    have ho : (200 : Int) < ((opsN ps : Nat) : Int) := by
      have : 200 < opsN ps := hn.elim (fun q => absurd hc q) id
      omega
    clear h he hn hc hl
    generalize ((opsN ps : Nat) : Int) = on at *
    generalize ps.length = pl at *
    go_enter Tryd.func3, Tryd.ntmps3
    go_wp2_with (first
      | (go_at_call 4; go_loud (refine Calls.mono (HC.out _ HQ.out.2) ?_; rintro e w1 ⟨rfl, b1⟩; have H1 : Hid (Px w1 w.heap.size ao pl cap ps ∧ Below w.heap.size w w1) := ⟨HQ.out.1.up b1, HQ.out.2.trans (b1.mono HQ.out.2.size)⟩; have c0 := H1.out.1.t.c 0 _ rfl; have cl := H1.out.1.t.lt; clear b1 HQ HC))
      | (go_at_call 5; go_loud (refine Calls.mono (HO.out _ H1.out.2) ?_; rintro e w2 ⟨rfl, b2⟩; have H2 : Hid (Below w.heap.size w w2) := H1.out.2.trans (b2.mono H1.out.2.size); clear b2 H1 HO c0 cl))
      | (go_at_call 6; go_loud (refine Calls.mono (HK.out _ H2.out) ?_; rintro e w3 ⟨rfl, b3⟩; have H3 : Hid (Below w.heap.size w w3) := H2.out.trans (b3.mono H2.out.size); clear b3 H2 HK)))
    go_ret
    exact ⟨rfl, H3.out⟩
  · have hc' : (ckP ps == 0) = false := by simpa using hc
    clear h he hn
    generalize ckP ps = ck at *
    generalize ps.length = pl at *
    go_enter Tryd.func3, Tryd.ntmps3
    go_wp2_with (first
      | (go_at_call 4; go_loud (refine Calls.mono (HC.out _ HQ.out.2) ?_; rintro e w1 ⟨rfl, b1⟩; have H1 : Hid (Below w.heap.size w w1) := HQ.out.2.trans (b1.mono HQ.out.2.size); clear b1 HQ HC))
      | (go_at_call 6; go_loud (refine Calls.mono (HK.out _ H1.out) ?_; rintro e w3 ⟨rfl, b3⟩; have H3 : Hid (Below w.heap.size w w3) := H1.out.trans (b3.mono H1.out.size); clear b3 H1 HK)))
    go_ret
    exact ⟨rfl, H3.out⟩
/-- All five programs, each in its box. -/
structure P5 (w W : World) (ao : Option Addr) (pl cap : Nat) (ps fs qs : List Bk) (t3 t5 t7 t9 : Nat) (a3 a5 a7 a9 : Option Addr) (c3 c5 c7 c9 : Nat) : Prop where
  b : Below w.heap.size w W
  p : Px W w.heap.size ao pl cap ps
  x3 : Px W t3 a3 pl c3 fs
  x5 : Px W t5 a5 pl c5 fs
  x7 : Px W t7 a7 pl c7 qs
  x9 : Px W t9 a9 pl c9 qs
theorem P5.up {w W W' : World} {ao : Option Addr} {pl cap : Nat} {ps fs qs : List Bk} {t3 t5 t7 t9 : Nat} {a3 a5 a7 a9 : Option Addr} {c3 c5 c7 c9 : Nat} (h : P5 w W ao pl cap ps fs qs t3 t5 t7 t9 a3 a5 a7 a9 c3 c5 c7 c9) (hb : Below W.heap.size W W') : P5 w W' ao pl cap ps fs qs t3 t5 t7 t9 a3 a5 a7 a9 c3 c5 c7 c9 :=
  ⟨h.b.trans (hb.mono h.b.size), h.p.up hb, h.x3.up hb, h.x5.up hb, h.x7.up hb, h.x9.up hb⟩
set_option maxHeartbeats 8000000 in
theorem once_yes (qs : List Bk) (ao : Option Addr) (cap : Nat) (ps : List Bk) (w : World) (h : PAt w ao ps) (he : Env w) (hG : PsG ps) (h2 : opsN ps ≤ 200) (hq : FinIs (fdP ps) qs) :
    Calls Tryd.prog 3 #[.agg #[.slice ao ps.length cap]] w fun e w' => e = .returned (.bool true) ∧ Below w.heap.size w w' := by
  have HQ : Hid (Px (w.alloc (.cells #[.slice ao ps.length cap] 24)) w.heap.size ao ps.length cap ps ∧ Below w.heap.size w (w.alloc (.cells #[.slice ao ps.length cap] 24))) := ⟨Px.new h 24, below_al _⟩
  have HK : Hid (∀ W, Below w.heap.size w W → Calls Tryd.prog 6 #[] W fun e w' => e = .returned (.bool true) ∧ Below W.heap.size W w') := fun W hb => wakes_any W (he.up hb)
  have hGf := psG_fold hG
  have hfl : (fdP ps).length = ps.length := by simp [fdP]
  have HC : Hid (∀ W, Below w.heap.size w W → Calls Tryd.prog 4 #[.agg #[.slice ao ps.length cap]] W fun e w' => e = .returned (.int .i64 0) ∧ Below W.heap.size W w') := fun W hb => by
    have := checkP_any ao cap ps W (h.below hb) (he.up hb)
    rw [hG.ck] at this
    exact this
  have HO : Hid (∀ zs, zs.length = ps.length → ∀ W a c, PAt W a zs → Calls Tryd.prog 5 #[.agg #[.slice a ps.length c]] W fun e w' => e = .returned (.int .i64 ((opsN zs : Nat) : Int)) ∧ Below W.heap.size W w') := fun zs hz W a c hp => by
    have := ops_any a c zs W hp (by have := hG.n; omega)
    rw [hz] at this
    exact this
  have HF1 : Hid (∀ W, Below w.heap.size w W → Calls Tryd.prog 7 #[.agg #[.slice ao ps.length cap]] W fun e w' => ∃ a c, e = .returned (.tuple #[.agg #[.slice a ps.length c], .int .i64 0]) ∧ PAt w' a (fdP ps) ∧ Below W.heap.size W w') := fun W hb => fold_ok ao cap ps W (h.below hb) (he.up hb) hG
  have HF2 : Hid (∀ W a c, Below w.heap.size w W → PAt W a (fdP ps) → Calls Tryd.prog 7 #[.agg #[.slice a ps.length c]] W fun e w' => ∃ a c, e = .returned (.tuple #[.agg #[.slice a ps.length c], .int .i64 0]) ∧ PAt w' a (fdP ps) ∧ Below W.heap.size W w') := fun W a c hb hp => by
    have := fold_ok a c (fdP ps) W hp (he.up hb) hGf
    rw [hfl, fdP_two] at this
    exact this
  have HB1 : Hid (∀ W a c, Below w.heap.size w W → PAt W a (fdP ps) → Calls Tryd.prog 8 #[.agg #[.slice a ps.length c]] W fun e w' => ∃ a c, e = .returned (.tuple #[.agg #[.slice a ps.length c], .int .i64 0]) ∧ PAt w' a qs ∧ Fin (fdP ps) qs ∧ Below W.heap.size W w') := fun W a c hb hp => by
    have := bury_ok qs a c (fdP ps) W hp (he.up hb) hGf hq
    rw [hfl] at this
    exact this
  have HB2 : Hid (∀ W a c, Below w.heap.size w W → PAt W a qs → Fin (fdP ps) qs → Calls Tryd.prog 8 #[.agg #[.slice a ps.length c]] W fun e w' => ∃ a c, e = .returned (.tuple #[.agg #[.slice a ps.length c], .int .i64 0]) ∧ PAt w' a qs ∧ Fin qs qs ∧ Below W.heap.size W w') := fun W a c hb hp hf => by
    obtain ⟨g1, m, g2⟩ := hf
    obtain ⟨g3, g4, -⟩ := psG_tks g2 hGf
    have := bury_ok qs a c qs W hp (he.up hb) g3 (fun zs hz => fin_one hz (fin_here g1))
    rw [g4, hfl] at this
    exact this
  have HQs : Hid (Fin (fdP ps) qs → qs.length = ps.length ∧ ckP qs = 0 ∧ opsN qs ≤ opsN (fdP ps)) := fun hf => by
    obtain ⟨g1, m, g2⟩ := hf
    obtain ⟨g3, g4, g5⟩ := psG_tks g2 hGf
    exact ⟨g4.trans hfl, g3.ck, by omega⟩
  have HCq : Hid (∀ W a c, Below w.heap.size w W → PAt W a qs → Fin (fdP ps) qs → Calls Tryd.prog 4 #[.agg #[.slice a ps.length c]] W fun e w' => e = .returned (.int .i64 0) ∧ Below W.heap.size W w') := fun W a c hb hp hf => by
    obtain ⟨g1, g2, -⟩ := HQs.out hf
    have := checkP_any a c qs W hp (he.up hb)
    rw [g1, g2] at this
    exact this
  have HL : Hid (∀ zs, zs.length = ps.length → ∀ W a b c d, PAt W a zs → PAt W b zs → Calls Tryd.prog 9 #[.agg #[.slice a ps.length c], .agg #[.slice b ps.length d]] W fun e w' => e = .returned (.bool true) ∧ Below W.heap.size W w') := fun zs hz W a b c d h1 h2 => by
    have := likeProgram_any a b c d zs W h1 h2
    rw [hz] at this
    exact this
  have hof : opsN (fdP ps) ≤ opsN ps := opsN_map fun x _ => bkN_fold x
  have ho : ¬ (200 : Int) < ((opsN ps : Nat) : Int) := by omega
  have HFl : Hid ((fdP ps).length = ps.length) := hfl
  clear h he hG h2 hq hfl hGf
  generalize hfs : fdP ps = fs at *
  generalize hpl : ps.length = pl at *
  have HPl : Hid (ps.length = pl) := hpl
  clear hfs hpl
  go_enter Tryd.func3, Tryd.ntmps3
  go_upto_region 4 with (first
    | (go_at_call 4; go_loud (refine Calls.mono (HC.out _ HQ.out.2) ?_; rintro e w1 ⟨rfl, b1⟩; have H1 : Hid (Px w1 w.heap.size ao pl cap ps ∧ Below w.heap.size w w1) := ⟨HQ.out.1.up b1, HQ.out.2.trans (b1.mono HQ.out.2.size)⟩; have c0 := H1.out.1.t.c 0 _ rfl; have cl := H1.out.1.t.lt; clear b1 HQ HC))
    | (go_at_call 5; go_loud (refine Calls.mono (HO.out _ HPl.out _ _ _ H1.out.1.p) ?_; rintro e w2 ⟨rfl, b2⟩; have H2 : Hid (Px w2 w.heap.size ao pl cap ps ∧ Below w.heap.size w w2) := ⟨H1.out.1.up b2, H1.out.2.trans (b2.mono H1.out.2.size)⟩; have d0 := H2.out.1.t.c 0 _ rfl; have dl := H2.out.1.t.lt; clear b2 H1 c0 cl))
    | (go_at_call 7; go_loud (refine Calls.mono (HF1.out _ H2.out.2) ?_; rintro e w3 ⟨a3, c3, rfl, hp3, b3⟩; have H3 : Hid (Px (w3.alloc (.cells #[.slice a3 pl c3] 24)) w.heap.size ao pl cap ps ∧ Px (w3.alloc (.cells #[.slice a3 pl c3] 24)) w3.heap.size a3 pl c3 fs ∧ Below w.heap.size w (w3.alloc (.cells #[.slice a3 pl c3] 24))) := ⟨(H2.out.1.up b3).up (below_al _), Px.new hp3 24, (H2.out.2.trans (b3.mono H2.out.2.size)).trans ((below_al _).mono (Nat.le_trans H2.out.2.size b3.size))⟩; clear hp3 b3 H2 HF1 d0 dl)))
  generalize w3.alloc (.cells #[.slice a3 pl c3] 24) = w4 at *
  generalize w3.heap.size = t3 at *
  clear w3
  have s3 := H3.out.2.1.t.c 0 _ rfl
  have sl := H3.out.2.1.t.lt
  go_upto_region 5 with (first
    | (go_at_call 7; go_loud (refine Calls.mono (HF2.out _ _ _ H3.out.2.2 H3.out.2.1.p) ?_; rintro e w5 ⟨a5, c5, rfl, hp5, b5⟩; have H5 : Hid (Px (w5.alloc (.cells #[.slice a5 pl c5] 24)) w.heap.size ao pl cap ps ∧ Px (w5.alloc (.cells #[.slice a5 pl c5] 24)) t3 a3 pl c3 fs ∧ Px (w5.alloc (.cells #[.slice a5 pl c5] 24)) w5.heap.size a5 pl c5 fs ∧ Below w.heap.size w (w5.alloc (.cells #[.slice a5 pl c5] 24))) := ⟨(H3.out.1.up b5).up (below_al _), (H3.out.2.1.up b5).up (below_al _), Px.new hp5 24, (H3.out.2.2.trans (b5.mono H3.out.2.2.size)).trans ((below_al _).mono (Nat.le_trans H3.out.2.2.size b5.size))⟩; clear hp5 b5 H3 HF2 s3 sl)))
  generalize w5.alloc (.cells #[.slice a5 pl c5] 24) = w6 at *
  generalize w5.heap.size = t5 at *
  clear w5
  have s3 := H5.out.2.1.t.c 0 _ rfl
  have sl := H5.out.2.1.t.lt
  go_upto_region 6 with (first
    | (go_at_call 8; go_loud (refine Calls.mono (HB1.out _ _ _ H5.out.2.2.2 H5.out.2.1.p) ?_; rintro e w7 ⟨a7, c7, rfl, hp7, hfin, b7⟩; have HFi : Hid _ := hfin; have H7 : Hid (Px (w7.alloc (.cells #[.slice a7 pl c7] 24)) w.heap.size ao pl cap ps ∧ Px (w7.alloc (.cells #[.slice a7 pl c7] 24)) t3 a3 pl c3 fs ∧ Px (w7.alloc (.cells #[.slice a7 pl c7] 24)) t5 a5 pl c5 fs ∧ Px (w7.alloc (.cells #[.slice a7 pl c7] 24)) w7.heap.size a7 pl c7 qs ∧ Below w.heap.size w (w7.alloc (.cells #[.slice a7 pl c7] 24))) := ⟨(H5.out.1.up b7).up (below_al _), (H5.out.2.1.up b7).up (below_al _), (H5.out.2.2.1.up b7).up (below_al _), Px.new hp7 24, (H5.out.2.2.2.trans (b7.mono H5.out.2.2.2.size)).trans ((below_al _).mono (Nat.le_trans H5.out.2.2.2.size b7.size))⟩; clear hp7 b7 hfin H5 HB1 s3 sl)))
  generalize w7.alloc (.cells #[.slice a7 pl c7] 24) = w8 at *
  generalize w7.heap.size = t7 at *
  clear w7
  have s7 := H7.out.2.2.2.1.t.c 0 _ rfl
  have sl := H7.out.2.2.2.1.t.lt
  go_upto_region 7 with (first
    | (go_at_call 8; go_loud (refine Calls.mono (HB2.out _ _ _ H7.out.2.2.2.2 H7.out.2.2.2.1.p HFi.out) ?_; rintro e w9 ⟨a9, c9, rfl, hp9, -, b9⟩; have H9 : Hid (P5 w (w9.alloc (.cells #[.slice a9 pl c9] 24)) ao pl cap ps fs qs t3 t5 t7 w9.heap.size a3 a5 a7 a9 c3 c5 c7 c9) := ⟨(H7.out.2.2.2.2.trans (b9.mono H7.out.2.2.2.2.size)).trans ((below_al _).mono (Nat.le_trans H7.out.2.2.2.2.size b9.size)), (H7.out.1.up b9).up (below_al _), (H7.out.2.1.up b9).up (below_al _), (H7.out.2.2.1.up b9).up (below_al _), (H7.out.2.2.2.1.up b9).up (below_al _), Px.new hp9 24⟩; clear hp9 b9 H7 HB2 s7 sl)))
  generalize w9.alloc (.cells #[.slice a9 pl c9] 24) = wx at *
  generalize w9.heap.size = t9 at *
  clear w9
  obtain ⟨hql, -, hoq⟩ := HQs.out HFi.out
  have HQl : Hid (qs.length = pl) := hql
  have l1 : ((opsN fs : Nat) : Int) ≤ ((opsN ps : Nat) : Int) := by omega
  have l2 : ((opsN qs : Nat) : Int) ≤ ((opsN fs : Nat) : Int) := by omega
  clear hql hoq hof ho HQs
  have hub : ∀ z : Wd (Below wx.heap.size wx), P5 w z.w ao pl cap ps fs qs t3 t5 t7 t9 a3 a5 a7 a9 c3 c5 c7 c9 := fun z => H9.out.up z.ok
  have HUb : Hid _ := hub
  have e1 : ∀ z : Wd (Below wx.heap.size wx), z.w.cell? ⟨w.heap.size, 0, none⟩ = some (.slice ao pl cap) := fun z => (hub z).p.t.c 0 _ rfl
  have e3 : ∀ z : Wd (Below wx.heap.size wx), z.w.cell? ⟨t3, 0, none⟩ = some (.slice a3 pl c3) := fun z => (hub z).x3.t.c 0 _ rfl
  have e5 : ∀ z : Wd (Below wx.heap.size wx), z.w.cell? ⟨t5, 0, none⟩ = some (.slice a5 pl c5) := fun z => (hub z).x5.t.c 0 _ rfl
  have e7 : ∀ z : Wd (Below wx.heap.size wx), z.w.cell? ⟨t7, 0, none⟩ = some (.slice a7 pl c7) := fun z => (hub z).x7.t.c 0 _ rfl
  have e9 : ∀ z : Wd (Below wx.heap.size wx), z.w.cell? ⟨t9, 0, none⟩ = some (.slice a9 pl c9) := fun z => (hub z).x9.t.c 0 _ rfl
  haveI inst : Nonempty (Wd (Below wx.heap.size wx)) := ⟨⟨wx, Below.refl _ _⟩⟩
  clear hub
  refine wp_region_in (Below wx.heap.size wx) (by kernel_rfl) (by kernel_rfl) ((Below.refl _ _).drew) ?_
  repeat (first | go_big_quiet_step ((first
    | (go_at_call 9; exact calls_in (Nat.le_refl _) _ (HL.out _ HFl.out _ _ _ _ _ (HUb.out _).x3.p (HUb.out _).x5.p))
    | (go_at_call 9; exact calls_in (Nat.le_refl _) _ (HL.out _ HQl.out _ _ _ _ _ (HUb.out _).x7.p (HUb.out _).x9.p))
    | (go_at_call 5; exact calls_in (Nat.le_refl _) _ (HO.out _ HFl.out _ _ _ (HUb.out _).x3.p))
    | (go_at_call 5; exact calls_in (Nat.le_refl _) _ (HO.out _ HPl.out _ _ _ (HUb.out _).p.p))
    | (go_at_call 5; exact calls_in (Nat.le_refl _) _ (HO.out _ HQl.out _ _ _ (HUb.out _).x7.p))
    | (go_at_call 4; exact calls_in (Nat.le_refl _) _ (HCq.out _ _ _ (HUb.out _).b (HUb.out _).x7.p HFi.out))
    | (go_at_call 6; exact calls_in (Nat.le_refl _) _ (HK.out _ (HUb.out _).b)))))
  refine wpQuiet_nil ?_
  rintro _ ⟨x, rfl⟩
  have hx := HUb.out x
  go_wp2_with fail
  go_ret
  exact ⟨rfl, hx.b⟩
/-- BetterOnce's function says yes, whatever the program. -/
theorem law_once (ao : Option Addr) (cap : Nat) (ps : List Bk) (w : World) (h : PAt w ao ps) (he : Env w) :
    Calls Tryd.prog 3 #[.agg #[.slice ao ps.length cap]] w fun e w' => e = .returned (.bool true) ∧ Below w.heap.size w w' := by
  by_cases hn : ckP ps ≠ 0 ∨ 200 < opsN ps
  · exact once_no ao cap ps w h he hn
  · rw [not_or] at hn
    have hG := psG_of (psOk_of h) (Classical.not_not.mp hn.1)
    obtain ⟨qs, hq⟩ := fin_ex (fdP ps)
    exact once_yes qs ao cap ps w h he hG (by omega) hq
end Go.Proofs.YtddcndlogoajkaaDoor.L8.Bt
