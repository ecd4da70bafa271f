/- A program folded, as the document says (its Fold), a program's: read off the program by the walk. Conditions: the program lies in memory and is one. -/
import Derived.Test.YtddcndlogoajkaaGreatDoorKc
import Derived.Deep.DeepCutAuto
namespace Go.Proofs.YtddcndlogoajkaaGreatDoor.L8.Bt
open Go.ChangeShapes Go.WideShapes Go.ChangeAt Go.RowKit Go.Great
open _root_.Go.Proofs.YtddcndlogoajkaaGreatDoor.L8.Op _root_.Go.Proofs.YtddcndlogoajkaaGreatDoor.L8.So
open _root_.Go.Proofs.YtddcndlogoajkaaGreatDoor.L8.Lv (rdL wOf PsOk psOk_of)
set_option maxRecDepth 20000

/-- A round: the block's box, what is known, the two new lists. -/
structure Fx (wr W : World) (p7 p9 : Nat) (cs : Array Value) (K : Kn) (M : Nat → Int) (a1 a2 : Option Addr) (c1 c2 : Nat) (ys bs : List O) : Prop where
  b : Below wr.heap.size wr W
  x : At W p7 cs
  k : Rs W p9 K M
  l1 : LRow W wr.heap.size a1 c1 ys
  l2 : LRow W wr.heap.size a2 c2 bs
theorem Fx.up {wr W W' : World} {p7 p9 : Nat} {cs : Array Value} {K : Kn} {M : Nat → Int} {a1 a2 : Option Addr} {c1 c2 : Nat} {ys bs : List O} (h : Fx wr W p7 p9 cs K M a1 a2 c1 c2 ys bs) (hb : Below W.heap.size W W') : Fx wr W' p7 p9 cs K M a1 a2 c1 c2 ys bs :=
  ⟨h.b.trans (hb.mono h.b.size), h.x.below hb h.x.lt, h.k.below hb, row_below h.l1 hb, row_below h.l2 hb⟩
/-- A Known laid into a box of its own. -/
theorem known_laid (W : World) (K : Kn) (M : Nat → Int) : Rs ((W.alloc (.cells (rA kn0 fun _ => 0) 58)).setCells W.heap.size 0 (rA K M).toList) W.heap.size K M ∧ Below W.heap.size W ((W.alloc (.cells (rA kn0 fun _ => 0) 58)).setCells W.heap.size 0 (rA K M).toList) := by
  have h1 := Rs.new W kn0 (fun _ => 0) 58
  refine ⟨rs_laid h1, ?_⟩
  have hF : Fr (One W.heap.size) (W.alloc (.cells (rA kn0 fun _ => 0) 58)) ((W.alloc (.cells (rA kn0 fun _ => 0) 58)).setCells W.heap.size 0 (rA K M).toList) := fr_setCells (X := One W.heap.size) rfl _ _ (Fr.refl _ _)
  have hb : Below W.heap.size W (W.alloc (.cells (rA kn0 fun _ => 0) 58)) := below_al _
  exact hb.trans (hF.below hb.size fun j hj q => by have q : j = W.heap.size := q; omega)
theorem known_there (W : World) (A : Array Value) (hA : A.size = 64) : (W.alloc (.cells (rA kn0 fun _ => 0) 58)).there W.heap.size 0 A.size := by
  rw [hA]; exact rs_there (Rs.new W kn0 (fun _ => 0) 58)
/-- What is laid of a Known that list tells. -/
def LdA (A : Array Value) (K : Kn) (M : Nat → Int) : Prop := ∀ W : World, Rs ((W.alloc (.cells (rA kn0 fun _ => 0) 58)).setCells W.heap.size 0 A.toList) W.heap.size K M ∧ Below W.heap.size W ((W.alloc (.cells (rA kn0 fun _ => 0) 58)).setCells W.heap.size 0 A.toList)
def Sz6 (A : Array Value) : Prop := A.size = 64 ∧ (Tryz.prog.info? 58).map (·.size) = some A.size ∧ A.all (·.oneCell') = true
theorem list_box (ao : Option Addr) (cap : Nat) (xs : List O) (w : World) (h : OpsAt w ao xs) (hok : ∀ o ∈ xs, o.Ok ∧ okP o = true) (hl : xs.length ≤ 8192) :
    Calls Tryz.prog 23 #[.slice ao xs.length cap] w fun e w' => ∃ a c M A, e = .returned (.tuple #[.slice a xs.length c, .agg A]) ∧ LdA A (fdK kn0 xs) M ∧ Sz6 A ∧ LRow w' w.heap.size a c (fdL kn0 xs) ∧ Say (fdK kn0 xs) M ∧ Below w.heap.size w w' := by
  refine (list_lrow ao cap xs w h hok hl).mono ?_
  rintro e w' ⟨a, c, M, rfl, h1, h2, h3⟩
  exact ⟨a, c, M, _, rfl, fun W => known_laid W _ _, ⟨rA_size _ _, by rw [rA_size]; exact info58, rA_one _ _⟩, h1, h2, h3⟩
theorem nb_empty {x : Bk} {n : Int} (h : endB x n = true) (hf : x.fin = 1) : x.body = [] := by
  unfold endB at h
  simp only [Bool.and_eq_true, Bool.or_eq_true, decide_eq_true_eq] at h
  rcases h.2 with h | h
  · exact List.eq_nil_of_length_eq_zero h
  · unfold eB at h
    simp only [decide_eq_true_eq] at h
    omega
set_option maxHeartbeats 8000000 in
theorem rfold_ok (ao : Option Addr) (cap : Nat) (ps : List Bk) (w : World) (h : PAt w ao ps) (hG : PsG ps) :
    Calls Tryz.prog 9 #[.agg #[.slice ao ps.length cap]] w fun e w' => ∃ a c, e = .returned (.tuple #[.agg #[.slice a ps.length c], .int .i64 0]) ∧ PAt w' a (fdP ps) ∧ Below w.heap.size w w' := by
  obtain ⟨i0, hi, hi2⟩ := Option.map_eq_some_iff.1 info49
  simp only [Prod.mk.injEq] at hi2
  obtain ⟨hz0, hz1, hz2⟩ := hi2
  have HI : Hid (Tryz.prog.info? 49 = some i0 ∧ i0.zero = some (.agg #[.slice none 0 0, .int .i8 0, .int .u8 0, .slice none 0 0, .int .i64 0, .int .i64 0]) ∧ i0.size = 6 ∧ i0.bytes = 72) := ⟨hi, hz0, hz1, hz2⟩
  clear hi hz0 hz1 hz2
  have hfl : (fdP ps).length = ps.length := by simp [fdP]
  have HC : Hid (∀ W, Below w.heap.size w W → Calls Tryz.prog 22 #[.agg #[.slice ao ps.length cap]] W fun e w' => e = .returned (.int .i64 0) ∧ Below W.heap.size W w') := fun W hb => by
    have := refCheckP_any ao cap ps W (h.below hb)
    rw [hG.ck] at this
    exact this
  have HB0 : Hid (Below w.heap.size w ((w.alloc (.cells #[.slice ao ps.length cap] 24)).alloc (.cells #[.slice none 0 0] 24))) := ((Below.refl _ _).alloc (Nat.le_refl _) _).alloc (by simp) _
  have HSm : Hid (Small (fdP ps)) := small_g (psG_fold hG)
  have HP : Hid (PAt w ao ps) := h
  have HGd : Hid (PsG ps) := hG
  have HFl : Hid ((fdP ps).length = ps.length) := hfl
  have hn := hG.n
  have hni : (ps.length : Int) ≤ 128 := by omega
  have hn0 : (0 : Int) ≤ (ps.length : Int) := by omega
  have HPut : Hid (∀ (W W' : World) (q k : Nat) (v v' : Value) (ls : List Pl) (hk : k < ps.length) (y : Bk) (p : Pl), fdBk ps[k] = y → Fz w.heap.size w W q ao ps.length cap (fdP ps) k v ls → Lor w.heap.size w W (q + 1) p.oa p.oc y.ops → Lor w.heap.size w W (q + 1) p.ba p.bc y.body → y.ops.length ≤ p.oc → W.grownBy W' v.ownBlock →
      W'.ownsRow (q + 1) 49 6 v' (k + 1) (bcells ((fdP ps).take k) ls ++ [.slice p.oa y.ops.length p.oc, .int .i8 y.fin, .int .u8 y.a, .slice p.ba y.body.length p.bc, .int .i64 y.thn, .int .i64 y.els]) → Fz w.heap.size w (W'.setCell ⟨q, 0, none⟩ v') q ao ps.length cap (fdP ps) (k + 1) v' (ls ++ [p])) := fun W W' q k v v' ls hk y p hy h1 h2 h3 hc h4 h5 => by
    have hk' : k < (fdP ps).length := by rw [hfl]; exact hk
    have e : (fdP ps)[k] = y := by rw [← hy]; simp [fdP]
    subst e
    exact h1.put hk' h2 h3 hc h4 h5
  clear h hG hfl
  go_enter Tryz.func9, Tryz.ntmps9
  go_upto_region 4 with (first
    | (go_at_call 22; go_loud (refine Calls.mono (HC.out _ HB0.out) ?_; rintro e w1 ⟨rfl, hb⟩; obtain ⟨a1, a2, hb0, hz, hz1⟩ := two_new w _ _ _ _ hb; have r1 := a1.c 0 _ rfl; have HA : Hid (Below w.heap.size w w1 ∧ At w1 w.heap.size #[.slice ao ps.length cap] ∧ At w1 (w.heap.size + 1) #[.slice none 0 0]) := ⟨hb0, a1, a2⟩; clear hb hb0 a1 a2 HC HB0)))
  go_upto_region 5 with fail
  have HD : Hid _ := Fz.start w.heap.size w ao ps.length cap (fdP ps) w1 HA.out.1 HA.out.2.1 HA.out.2.2 (Nat.le_refl _)
  clear HA r1 hz hz1
  generalize w1.alloc (.cells #[.slice none 0 0] 24) = w2 at *
  generalize w1.heap.size = q at *
  clear w1
  go_wp2_with fail
  go_loopw [6] (fun i wr => ∃ (k : Nat) (v : Value) (ls : List Pl), k ≤ ps.length ∧ i = .int .i64 k ∧ Fz w.heap.size w wr q ao ps.length cap (fdP ps) k v ls) (fun i _ => ps.length - (intOf i).toNat)
  case atStart => exact ⟨0, _, [], by omega, rfl, HD.out⟩
  case round =>
    rename World => wr
    obtain ⟨k, v, ls, hk, rfl, hd⟩ := hrel
    clear HD
    have HD : Hid _ := hd
    have cp := hd.p.c 0 _ rfl
    have hq2 := hd.q2
    have hqz := hd.z
    clear hd
    by_cases hlt : k < ps.length
    · have hki : (k : Int) < (ps.length : Int) := by omega
      have hk0 : (0 : Int) ≤ (k : Int) := by omega
      obtain ⟨b, f, rfl, hz, hx⟩ := HP.out.is (by omega)
      obtain ⟨⟨oa, oc, ba, bc⟩, hp, h5⟩ := hx k hlt
      obtain ⟨b0, b1, b2, b3, b4, b5⟩ := hp.below HD.out.b hz
      simp only at b0 b3
      have hbk := HGd.out.b _ (List.getElem_mem hlt)
      obtain ⟨s4, s5⟩ := psG_small HGd.out _ (List.getElem_mem hlt)
      have HPk : Hid _ := fun (W W' : World) (v' : Value) (y : Bk) (p : Pl) => HPut.out W W' q k v v' ls hlt y p
      have HLo : Hid (∀ W, Below w.heap.size w W → Calls Tryz.prog 23 #[.slice oa ps[k].ops.length oc] W fun e w' => ∃ a c M A, e = .returned (.tuple #[.slice a ps[k].ops.length c, .agg A]) ∧ LdA A (fdK kn0 ps[k].ops) M ∧ Sz6 A ∧ LRow w' W.heap.size a c (fdL kn0 ps[k].ops) ∧ Say (fdK kn0 ps[k].ops) M ∧ Below W.heap.size W w') := fun W hb => list_box oa oc _ W (h5.o.below hb) hbk.o s4
      have HLb : Hid (∀ W, Below w.heap.size w W → Calls Tryz.prog 23 #[.slice ba ps[k].body.length bc] W fun e w' => ∃ a c M A, e = .returned (.tuple #[.slice a ps[k].body.length c, .agg A]) ∧ LdA A (fdK kn0 ps[k].body) M ∧ Sz6 A ∧ LRow w' W.heap.size a c (fdL kn0 ps[k].body) ∧ Say (fdK kn0 ps[k].body) M ∧ Below W.heap.size W w') := fun W hb => list_box ba bc _ W (h5.b.below hb) hbk.b s5
      have HNb : Hid (ps[k].fin = 1 → ps[k].body = []) := nb_empty hbk.e
      have hxa : 0 ≤ ps[k].a ∧ ps[k].a ≤ 255 := ⟨hbk.ok.a0, hbk.ok.a1⟩
      have HRg : Hid (ps[k].fin = 1 → ps[k].a < 32) := fun hf => Lv.end_reg hbk.e (by omega)
      clear hx hp h5 hbk s4 s5 HPut
      generalize ps[k] = x at *
      obtain ⟨xo, xf, xa, xb, xt, xe⟩ := x
      simp only at *
      go_upto_region 9 with fail
      have HX7 : Hid (Op.At (wr.alloc (.cells #[.slice oa xo.length oc, .int .i8 xf, .int .u8 xa, .slice ba xb.length bc, .int .i64 xt, .int .i64 xe] 49)) wr.heap.size #[.slice oa xo.length oc, .int .i8 xf, .int .u8 xa, .slice ba xb.length bc, .int .i64 xt, .int .i64 xe] ∧ Below wr.heap.size wr (wr.alloc (.cells #[.slice oa xo.length oc, .int .i8 xf, .int .u8 xa, .slice ba xb.length bc, .int .i64 xt, .int .i64 xe] 49)) ∧ Below w.heap.size w (wr.alloc (.cells #[.slice oa xo.length oc, .int .i8 xf, .int .u8 xa, .slice ba xb.length bc, .int .i64 xt, .int .i64 xe] 49)) ∧ wr.heap.size + 1 ≤ (wr.alloc (.cells #[.slice oa xo.length oc, .int .i8 xf, .int .u8 xa, .slice ba xb.length bc, .int .i64 xt, .int .i64 xe] 49)).heap.size) := ⟨Op.At.new _ _ _, below_al _, HD.out.b.trans ((below_al _).mono HD.out.b.size), by simp⟩
      generalize wr.alloc (.cells #[.slice oa xo.length oc, .int .i8 xf, .int .u8 xa, .slice ba xb.length bc, .int .i64 xt, .int .i64 xe] 49) = W1 at *
      clear b0 b1 b2 b3 b4 b5 cp
      obtain ⟨x0, x1, x2, x3, x4, x5⟩ := HX7.out.1.b6
      go_upto_region 10 with (first
        | (go_at_call 23; go_loud (refine Calls.mono (HLo.out _ HX7.out.2.2.1) ?_; rintro e w3 ⟨a1, c1, M1, A1, rfl, hld1, hsz1, hl1, hs1, hb3⟩; have HLd1 : Hid _ := hld1; have HA64 : Hid (Sz6 A1) := hsz1; have H3 : Hid (Below wr.heap.size wr w3 ∧ Op.At w3 wr.heap.size #[.slice oa xo.length oc, .int .i8 xf, .int .u8 xa, .slice ba xb.length bc, .int .i64 xt, .int .i64 xe] ∧ LRow w3 wr.heap.size a1 c1 (fdL kn0 xo) ∧ Say (fdK kn0 xo) M1 ∧ Below w.heap.size w w3 ∧ wr.heap.size + 1 ≤ w3.heap.size) := ⟨HX7.out.2.1.trans (hb3.mono HX7.out.2.1.size), HX7.out.1.below hb3 HX7.out.1.lt, row_le hl1 HX7.out.2.1.size, hs1, HX7.out.2.2.1.trans (hb3.mono HX7.out.2.2.1.size), Nat.le_trans HX7.out.2.2.2 hb3.size⟩; clear hld1 hsz1 hl1 hs1 hb3 HX7 HLo x0 x1 x2 x3 x4 x5))
        | (refine wpList_allocTo rfl (some 9) rfl (.pointer (some ⟨w3.heap.size, 0, none⟩)) (.cells (rA kn0 fun _ => 0) 58) (by kernel_rfl) ?_)
        | (refine wpList_store_mid rfl 58 (.tmp 9) (.tmp 36) rfl w3.heap.size 0 A1 rfl rfl (known_there w3 A1 HA64.out.1) HA64.out.2.1 HA64.out.2.2 ?_))
      simp only [Act.put]
      have H4 : Hid (Below wr.heap.size wr ((w3.alloc (.cells (rA kn0 fun _ => 0) 58)).setCells w3.heap.size 0 A1.toList) ∧ Op.At ((w3.alloc (.cells (rA kn0 fun _ => 0) 58)).setCells w3.heap.size 0 A1.toList) wr.heap.size #[.slice oa xo.length oc, .int .i8 xf, .int .u8 xa, .slice ba xb.length bc, .int .i64 xt, .int .i64 xe] ∧ LRow ((w3.alloc (.cells (rA kn0 fun _ => 0) 58)).setCells w3.heap.size 0 A1.toList) wr.heap.size a1 c1 (fdL kn0 xo) ∧ Say (fdK kn0 xo) M1 ∧ Below w.heap.size w ((w3.alloc (.cells (rA kn0 fun _ => 0) 58)).setCells w3.heap.size 0 A1.toList) ∧ Rs ((w3.alloc (.cells (rA kn0 fun _ => 0) 58)).setCells w3.heap.size 0 A1.toList) w3.heap.size (fdK kn0 xo) M1 ∧ wr.heap.size + 1 ≤ w3.heap.size) := by
        obtain ⟨h1, h2, h3, h4, h5, h6⟩ := H3.out
        obtain ⟨g1, g2⟩ := HLd1.out w3
        exact ⟨h1.trans (g2.mono h1.size), h2.below g2 h2.lt, row_below h3 g2, h4, h5.trans (g2.mono h5.size), g1, h6⟩
      clear H3 HLd1 HA64
      generalize (w3.alloc (.cells (rA kn0 fun _ => 0) 58)).setCells w3.heap.size 0 A1.toList = W4 at *
      generalize hp9 : w3.heap.size = p9 at *
      clear hp9 w3 W1
      obtain ⟨x0, x1, x2, x3, x4, x5⟩ := H4.out.2.1.b6
      have hxz := H4.out.2.1.lt
      go_upto_region 11 with (first
        | (go_at_call 23; go_loud (refine Calls.mono (HLb.out _ H4.out.2.2.2.2.1) ?_; rintro e w5 ⟨a2, c2, M2, A2, rfl, hld2, hsz2, hl2, hs2, hb5⟩; have HLd2 : Hid _ := hld2; have HA64 : Hid (Sz6 A2) := hsz2; have H5 : Hid (Fx wr w5 wr.heap.size p9 #[.slice oa xo.length oc, .int .i8 xf, .int .u8 xa, .slice ba xb.length bc, .int .i64 xt, .int .i64 xe] (fdK kn0 xo) M1 a1 a2 c1 c2 (fdL kn0 xo) (fdL kn0 xb) ∧ Say (fdK kn0 xo) M1 ∧ wr.heap.size + 1 ≤ p9) := ⟨⟨H4.out.1.trans (hb5.mono H4.out.1.size), H4.out.2.1.below hb5 H4.out.2.1.lt, H4.out.2.2.2.2.2.1.below hb5, row_below H4.out.2.2.1 hb5, row_le hl2 H4.out.1.size⟩, H4.out.2.2.2.1, H4.out.2.2.2.2.2.2⟩; clear hld2 hsz2 hl2 hs2 hb5 H4 HLb x0 x1 x2 x3 x4 x5 hxz))
        | (refine wpList_allocTo rfl (some 11) rfl (.pointer (some ⟨w5.heap.size, 0, none⟩)) (.cells (rA kn0 fun _ => 0) 58) (by kernel_rfl) ?_)
        | (refine wpList_store_mid rfl 58 (.tmp 11) (.tmp 42) rfl w5.heap.size 0 A2 rfl rfl (known_there w5 A2 HA64.out.1) HA64.out.2.1 HA64.out.2.2 ?_))
      simp only [Act.put]
      have H6 : Hid (Fx wr ((w5.alloc (.cells (rA kn0 fun _ => 0) 58)).setCells w5.heap.size 0 A2.toList) wr.heap.size p9 #[.slice oa xo.length oc, .int .i8 xf, .int .u8 xa, .slice ba xb.length bc, .int .i64 xt, .int .i64 xe] (fdK kn0 xo) M1 a1 a2 c1 c2 (fdL kn0 xo) (fdL kn0 xb) ∧ Say (fdK kn0 xo) M1 ∧ wr.heap.size + 1 ≤ p9) := ⟨H5.out.1.up (HLd2.out w5).2, H5.out.2⟩
      clear H5 HLd2 HA64
      generalize (w5.alloc (.cells (rA kn0 fun _ => 0) 58)).setCells w5.heap.size 0 A2.toList = W6 at *
      generalize w5.heap.size = p11 at *
      clear w5 W4
      obtain ⟨x0, x1, x2, x3, x4, x5⟩ := H6.out.1.x.b6
      have hxz := H6.out.1.x.lt
      have h9z := H6.out.1.k.lt
      go_upto_region 12 with fail
      have HPz : Hid (∀ (zf za zt ze : Int), fdBk ⟨xo, xf, xa, xb, xt, xe⟩ = ⟨fdL kn0 xo, zf, za, fdL kn0 xb, zt, ze⟩ → ∀ (W W' : World) (v' : Value), Below W6.heap.size W6 W → W.grownBy W' v.ownBlock → W'.ownsRow (q + 1) 49 6 v' (k + 1) (bcells ((fdP ps).take k) ls ++ [.slice a1 xo.length c1, .int .i8 zf, .int .u8 za, .slice a2 xb.length c2, .int .i64 zt, .int .i64 ze]) → Fz w.heap.size w (W'.setCell ⟨q, 0, none⟩ v') q (some ⟨b, f, none⟩) ps.length cap (fdP ps) (k + 1) v' (ls ++ [⟨a1, c1, a2, c2⟩])) := fun zf za zt ze hy W W' v' hb hg hown => by
        have hF := H6.out.1.up hb
        exact HPk.out W W' v' ⟨fdL kn0 xo, zf, za, fdL kn0 xb, zt, ze⟩ ⟨a1, c1, a2, c2⟩ hy (HD.out.up hF.b) (.inl (row_le hF.l1 (by omega))) (.inl (row_le hF.l2 (by omega))) (row_cap hF.l1) hg (by simp only [fdL_len]; exact hown)
      have HEz : Hid (∀ W, Below W6.heap.size W6 W → Fz w.heap.size w W q (some ⟨b, f, none⟩) ps.length cap (fdP ps) k v ls) := fun W hb => HD.out.up (H6.out.1.up hb).b
      have hb7 : Below W6.heap.size W6 (W6.alloc (.cells #[.slice a1 xo.length c1, .int .i8 xf, .int .u8 xa, .slice a2 xb.length c2, .int .i64 xt, .int .i64 xe] 49)) := below_al _
      have HA7 : Hid (Op.At (W6.alloc (.cells #[.slice a1 xo.length c1, .int .i8 xf, .int .u8 xa, .slice a2 xb.length c2, .int .i64 xt, .int .i64 xe] 49)) W6.heap.size #[.slice a1 xo.length c1, .int .i8 xf, .int .u8 xa, .slice a2 xb.length c2, .int .i64 xt, .int .i64 xe] ∧ Below W6.heap.size W6 (W6.alloc (.cells #[.slice a1 xo.length c1, .int .i8 xf, .int .u8 xa, .slice a2 xb.length c2, .int .i64 xt, .int .i64 xe] 49))) := ⟨Op.At.new _ _ _, hb7⟩
      have H7 : Hid _ := H6.out.1.up hb7
      have hs7 := H6.out.2.1
      have h97 := H6.out.2.2
      have hn6 : ¬ wr.heap.size = W6.heap.size := by omega
      have hn9 : ¬ p9 = W6.heap.size := by omega
      clear HPk hb7 HD H6 x0 x1 x2 x3 x4 x5 hxz h9z
      generalize W6.alloc (.cells #[.slice a1 xo.length c1, .int .i8 xf, .int .u8 xa, .slice a2 xb.length c2, .int .i64 xt, .int .i64 xe] 49) = W7 at *
      obtain ⟨x0, x1, x2, x3, x4, x5⟩ := H7.out.x.b6
      have hxz := H7.out.x.lt
      have h9z := H7.out.k.lt
      by_cases hf : xf = 1
      · subst hf
        obtain ⟨a, rfl⟩ : ∃ a : Nat, xa = a := ⟨xa.toNat, by omega⟩
        have ha : a < 32 := by have := HRg.out rfl; omega
        have hai : (a : Int) < 32 := by omega
        have ha0 : (0 : Int) ≤ (a : Int) := by omega
        have k0 := H7.out.k.b ha
        cases hKa : fdK kn0 xo a with
        | none =>
          rw [hKa] at k0
          have hbr : fdBk ⟨xo, 1, a, xb, xt, xe⟩ = ⟨fdL kn0 xo, 1, a, fdL kn0 xb, xt, xe⟩ := by
            have e : brK ⟨xo, 1, a, xb, xt, xe⟩ = false := by simp [brK, hKa]
            unfold fdBk; rw [e, if_neg (by simp)]
          clear hKa HRg HNb
          go_upto_region 18 with fail
          clear k0
          have HE : Hid _ := HEz.out W7 HA7.out.2
          have HPw : Hid _ := HPz.out 1 a xt xe hbr W7
          have HB9 : Hid _ := HA7.out.2
          obtain ⟨y0, y1, y2, y3, y4, y5⟩ := HA7.out.1.b6
          have yl := HA7.out.1.lt
          have vv := HE.out.o.c 0 _ rfl
          have vl := HE.out.z
          go_wp2_with (first | (at_builtin; refine wpList_append_lies _ rfl (.tmp 77) (.tmp 79) 22 rfl (q + 1) 49 i0 (.agg #[.slice none 0 0, .int .i8 0, .int .u8 0, .slice none 0 0, .int .i64 0, .int .i64 0]) 6 72 Tryz.underlying22 HI.out.1 HI.out.2.1 HI.out.2.2.1 HI.out.2.2.2 rfl (by decide) _ _ _ rfl (HE.out.row.row.alloc _) ⟨W7.heap.size, 0, none⟩ 1 1 [.slice a1 xo.length c1, .int .i8 1, .int .u8 a, .slice a2 xb.length c2, .int .i64 xt, .int .i64 xe] rfl rfl (World.news_of_block (heap_alloc_new W7 _)) (by simp [Value.oneCell']) (by decide) (by unfold maxLen; omega) (by omega) (by have := HE.out.z; simp; omega) (W7.heap.size + 1) (by simp) ?_; intro g cap4 w8 hown8 hgrow8 hat8 hlt8; have HBg : Hid (Below W6.heap.size W6 (W7.alloc (.cells #[.slice a1 xo.length c1, .int .i8 1, .int .u8 a, .slice a2 xb.length c2, .int .i64 xt, .int .i64 xe] 49))) := HB9.out.trans ((below_al _).mono HB9.out.size); have hbx := (HEz.out _ HBg.out).box hgrow8; have bo := hbx.c 0 _ rfl; have fo := hbx.f 0; have zo := hbx.lt; have HF : Hid _ := HPz.out 1 a xt xe hbr _ w8 (.slice (some ⟨g, 0, none⟩) (k + 1) cap4) HBg.out hgrow8 hown8; clear hown8 hgrow8 hat8 hlt8 hbx HE HPw HB9 y0 y1 y2 y3 y4 y5 yl vv vl))
          go_roundw
          case rel => exact ⟨k + 1, _, _, by omega, by go_num, HF.out⟩
          case measure => simp [intOf]; omega
        | some u =>
          rw [hKa] at k0
          have k1 := H7.out.k.n ha
          rw [hs7 a u hKa] at k1
          obtain rfl : xb = [] := HNb.out rfl
          have hbr : fdBk ⟨xo, 1, a, [], xt, xe⟩ = ⟨fdL kn0 xo, 0, 0, fdL kn0 [], if u = 0 then xe else xt, 0⟩ := by
            have e : brK ⟨xo, 1, a, [], xt, xe⟩ = true := by simp [brK, hKa]
            have e2 : wayK ⟨xo, 1, a, [], xt, xe⟩ = if u = 0 then xe else xt := by simp [wayK, numK, hKa]
            unfold fdBk; rw [e, if_pos rfl, e2]; rfl
          obtain ⟨z0, z1, z2, z3, z4, z5⟩ := HA7.out.1.b6
          have zl := HA7.out.1.lt
          have g1 := HA7.out.1.f 1; have g2 := HA7.out.1.f 2; have g4 := HA7.out.1.f 4; have g5 := HA7.out.1.f 5
          have hn6' : ¬ W6.heap.size = wr.heap.size := fun q => hn6 q.symm
          have hn9' : ¬ W6.heap.size = p9 := fun q => hn9 q.symm
          clear hKa HRg HNb
          by_cases hu : u = 0
          · subst hu
            rw [if_pos rfl] at hbr
            go_upto_region 18 with fail
            have HA9 : Hid (Op.At ((((W7.setCell ⟨W6.heap.size, 1, none⟩ (.int .i8 0)).setCell ⟨W6.heap.size, 2, none⟩ (.int .u8 0)).setCell ⟨W6.heap.size, 5, none⟩ (.int .i64 0)).setCell ⟨W6.heap.size, 4, none⟩ (.int .i64 xe)) W6.heap.size #[.slice a1 xo.length c1, .int .i8 0, .int .u8 0, .slice a2 ([] : List O).length c2, .int .i64 xe, .int .i64 0] ∧ Below W6.heap.size W6 ((((W7.setCell ⟨W6.heap.size, 1, none⟩ (.int .i8 0)).setCell ⟨W6.heap.size, 2, none⟩ (.int .u8 0)).setCell ⟨W6.heap.size, 5, none⟩ (.int .i64 0)).setCell ⟨W6.heap.size, 4, none⟩ (.int .i64 xe))) := ⟨(((HA7.out.1.set (j := 1) (by simp) (.int .i8 0)).set (j := 2) (by simp) (.int .u8 0)).set (j := 5) (by simp) (.int .i64 0)).set (j := 4) (by simp) (.int .i64 xe), (((HA7.out.2.setCell (Nat.le_refl _) _).setCell (Nat.le_refl _) _).setCell (Nat.le_refl _) _).setCell (Nat.le_refl _) _⟩
            clear z0 z1 z2 z3 z4 z5 zl g1 g2 g4 g5 k0 k1 x0 x1 x2 x3 x4 x5 hxz h9z H7 HA7
            generalize ((((W7.setCell ⟨W6.heap.size, 1, none⟩ (.int .i8 0)).setCell ⟨W6.heap.size, 2, none⟩ (.int .u8 0)).setCell ⟨W6.heap.size, 5, none⟩ (.int .i64 0)).setCell ⟨W6.heap.size, 4, none⟩ (.int .i64 xe)) = W9 at *
            have HE : Hid _ := HEz.out W9 HA9.out.2
            have HPw : Hid _ := HPz.out 0 0 xe 0 hbr W9
            have HB9 : Hid _ := HA9.out.2
            obtain ⟨y0, y1, y2, y3, y4, y5⟩ := HA9.out.1.b6
            have yl := HA9.out.1.lt
            have vv := HE.out.o.c 0 _ rfl
            have vl := HE.out.z
            go_wp2_with (first | (at_builtin; refine wpList_append_lies _ rfl (.tmp 77) (.tmp 79) 22 rfl (q + 1) 49 i0 (.agg #[.slice none 0 0, .int .i8 0, .int .u8 0, .slice none 0 0, .int .i64 0, .int .i64 0]) 6 72 Tryz.underlying22 HI.out.1 HI.out.2.1 HI.out.2.2.1 HI.out.2.2.2 rfl (by decide) _ _ _ rfl (HE.out.row.row.alloc _) ⟨W9.heap.size, 0, none⟩ 1 1 [.slice a1 xo.length c1, .int .i8 0, .int .u8 0, .slice a2 ([] : List O).length c2, .int .i64 xe, .int .i64 0] rfl rfl (World.news_of_block (heap_alloc_new W9 _)) (by simp [Value.oneCell']) (by decide) (by unfold maxLen; omega) (by omega) (by have := HE.out.z; simp; omega) (W9.heap.size + 1) (by simp) ?_; intro g cap4 w8 hown8 hgrow8 hat8 hlt8; have HBg : Hid (Below W6.heap.size W6 (W9.alloc (.cells #[.slice a1 xo.length c1, .int .i8 0, .int .u8 0, .slice a2 ([] : List O).length c2, .int .i64 xe, .int .i64 0] 49))) := HB9.out.trans ((below_al _).mono HB9.out.size); have hbx := (HEz.out _ HBg.out).box hgrow8; have bo := hbx.c 0 _ rfl; have fo := hbx.f 0; have zo := hbx.lt; have HF : Hid _ := HPz.out 0 0 xe 0 hbr _ w8 (.slice (some ⟨g, 0, none⟩) (k + 1) cap4) HBg.out hgrow8 hown8; clear hown8 hgrow8 hat8 hlt8 hbx HE HPw HB9 y0 y1 y2 y3 y4 y5 yl vv vl))
            go_roundw
            case rel => exact ⟨k + 1, _, _, by omega, by go_num, HF.out⟩
            case measure => simp [intOf]; omega
          · rw [if_neg hu] at hbr
            have hu' : (u == 0) = false := by simpa using hu
            go_upto_region 18 with fail
            have HA9 : Hid (Op.At (((W7.setCell ⟨W6.heap.size, 1, none⟩ (.int .i8 0)).setCell ⟨W6.heap.size, 2, none⟩ (.int .u8 0)).setCell ⟨W6.heap.size, 5, none⟩ (.int .i64 0)) W6.heap.size #[.slice a1 xo.length c1, .int .i8 0, .int .u8 0, .slice a2 ([] : List O).length c2, .int .i64 xt, .int .i64 0] ∧ Below W6.heap.size W6 (((W7.setCell ⟨W6.heap.size, 1, none⟩ (.int .i8 0)).setCell ⟨W6.heap.size, 2, none⟩ (.int .u8 0)).setCell ⟨W6.heap.size, 5, none⟩ (.int .i64 0))) := ⟨((HA7.out.1.set (j := 1) (by simp) (.int .i8 0)).set (j := 2) (by simp) (.int .u8 0)).set (j := 5) (by simp) (.int .i64 0), ((HA7.out.2.setCell (Nat.le_refl _) _).setCell (Nat.le_refl _) _).setCell (Nat.le_refl _) _⟩
            clear z0 z1 z2 z3 z4 z5 zl g1 g2 g4 g5 k0 k1 x0 x1 x2 x3 x4 x5 hxz h9z H7 HA7
            generalize (((W7.setCell ⟨W6.heap.size, 1, none⟩ (.int .i8 0)).setCell ⟨W6.heap.size, 2, none⟩ (.int .u8 0)).setCell ⟨W6.heap.size, 5, none⟩ (.int .i64 0)) = W9 at *
            have HE : Hid _ := HEz.out W9 HA9.out.2
            have HPw : Hid _ := HPz.out 0 0 xt 0 hbr W9
            have HB9 : Hid _ := HA9.out.2
            obtain ⟨y0, y1, y2, y3, y4, y5⟩ := HA9.out.1.b6
            have yl := HA9.out.1.lt
            have vv := HE.out.o.c 0 _ rfl
            have vl := HE.out.z
            go_wp2_with (first | (at_builtin; refine wpList_append_lies _ rfl (.tmp 77) (.tmp 79) 22 rfl (q + 1) 49 i0 (.agg #[.slice none 0 0, .int .i8 0, .int .u8 0, .slice none 0 0, .int .i64 0, .int .i64 0]) 6 72 Tryz.underlying22 HI.out.1 HI.out.2.1 HI.out.2.2.1 HI.out.2.2.2 rfl (by decide) _ _ _ rfl (HE.out.row.row.alloc _) ⟨W9.heap.size, 0, none⟩ 1 1 [.slice a1 xo.length c1, .int .i8 0, .int .u8 0, .slice a2 ([] : List O).length c2, .int .i64 xt, .int .i64 0] rfl rfl (World.news_of_block (heap_alloc_new W9 _)) (by simp [Value.oneCell']) (by decide) (by unfold maxLen; omega) (by omega) (by have := HE.out.z; simp; omega) (W9.heap.size + 1) (by simp) ?_; intro g cap4 w8 hown8 hgrow8 hat8 hlt8; have HBg : Hid (Below W6.heap.size W6 (W9.alloc (.cells #[.slice a1 xo.length c1, .int .i8 0, .int .u8 0, .slice a2 ([] : List O).length c2, .int .i64 xt, .int .i64 0] 49))) := HB9.out.trans ((below_al _).mono HB9.out.size); have hbx := (HEz.out _ HBg.out).box hgrow8; have bo := hbx.c 0 _ rfl; have fo := hbx.f 0; have zo := hbx.lt; have HF : Hid _ := HPz.out 0 0 xt 0 hbr _ w8 (.slice (some ⟨g, 0, none⟩) (k + 1) cap4) HBg.out hgrow8 hown8; clear hown8 hgrow8 hat8 hlt8 hbx HE HPw HB9 y0 y1 y2 y3 y4 y5 yl vv vl))
            go_roundw
            case rel => exact ⟨k + 1, _, _, by omega, by go_num, HF.out⟩
            case measure => simp [intOf]; omega
      · have hf' : (xf == 1) = false := by simpa using hf
        have hbr : fdBk ⟨xo, xf, xa, xb, xt, xe⟩ = ⟨fdL kn0 xo, xf, xa, fdL kn0 xb, xt, xe⟩ := by
          have e : brK ⟨xo, xf, xa, xb, xt, xe⟩ = false := by simp [brK, hf]
          unfold fdBk; rw [e, if_neg (by simp)]
        clear HRg HNb
        go_upto_region 18 with fail
        have HE : Hid _ := HEz.out W7 HA7.out.2
        have HPw : Hid _ := HPz.out xf xa xt xe hbr W7
        have HB9 : Hid _ := HA7.out.2
        obtain ⟨y0, y1, y2, y3, y4, y5⟩ := HA7.out.1.b6
        have yl := HA7.out.1.lt
        have vv := HE.out.o.c 0 _ rfl
        have vl := HE.out.z
        go_wp2_with (first | (at_builtin; refine wpList_append_lies _ rfl (.tmp 77) (.tmp 79) 22 rfl (q + 1) 49 i0 (.agg #[.slice none 0 0, .int .i8 0, .int .u8 0, .slice none 0 0, .int .i64 0, .int .i64 0]) 6 72 Tryz.underlying22 HI.out.1 HI.out.2.1 HI.out.2.2.1 HI.out.2.2.2 rfl (by decide) _ _ _ rfl (HE.out.row.row.alloc _) ⟨W7.heap.size, 0, none⟩ 1 1 [.slice a1 xo.length c1, .int .i8 xf, .int .u8 xa, .slice a2 xb.length c2, .int .i64 xt, .int .i64 xe] rfl rfl (World.news_of_block (heap_alloc_new W7 _)) (by simp [Value.oneCell']) (by decide) (by unfold maxLen; omega) (by omega) (by have := HE.out.z; simp; omega) (W7.heap.size + 1) (by simp) ?_; intro g cap4 w8 hown8 hgrow8 hat8 hlt8; have HBg : Hid (Below W6.heap.size W6 (W7.alloc (.cells #[.slice a1 xo.length c1, .int .i8 xf, .int .u8 xa, .slice a2 xb.length c2, .int .i64 xt, .int .i64 xe] 49))) := HB9.out.trans ((below_al _).mono HB9.out.size); have hbx := (HEz.out _ HBg.out).box hgrow8; have bo := hbx.c 0 _ rfl; have fo := hbx.f 0; have zo := hbx.lt; have HF : Hid _ := HPz.out xf xa xt xe hbr _ w8 (.slice (some ⟨g, 0, none⟩) (k + 1) cap4) HBg.out hgrow8 hown8; clear hown8 hgrow8 hat8 hlt8 hbx HE HPw HB9 y0 y1 y2 y3 y4 y5 yl vv vl))
        go_roundw
        case rel => exact ⟨k + 1, _, _, by omega, by go_num, HF.out⟩
        case measure => simp [intOf]; omega
    · obtain rfl : k = ps.length := by omega
      have hd2 : Fz w.heap.size w wr q ao ps.length cap (fdP ps) (fdP ps).length v ls := by rw [HFl.out]; exact HD.out
      have hz : ∀ u, ∃ a c, v = .slice a ps.length c ∧ PAt (wr.setCell ⟨w.heap.size + 1, 0, none⟩ u) a (fdP ps) ∧ Below w.heap.size w (wr.setCell ⟨w.heap.size + 1, 0, none⟩ u) := fun u => by
        obtain ⟨a, c, e, h1, h2⟩ := hd2.done HSm.out u
        rw [HFl.out] at e
        exact ⟨a, c, e, h1.1, h2⟩
      obtain ⟨a, c, rfl, -, -⟩ := hz undef
      have HZ : Hid (∀ u, PAt (wr.setCell ⟨w.heap.size + 1, 0, none⟩ u) a (fdP ps) ∧ Below w.heap.size w (wr.setCell ⟨w.heap.size + 1, 0, none⟩ u)) := fun u => by
        obtain ⟨a', c', e, h1, h2⟩ := hz u
        cases e
        exact ⟨h1, h2⟩
      have q0 := hd2.o.c 0 _ rfl
      have r0 := hd2.r.c 0 _ rfl
      have f0 := hd2.r.f 0
      clear hz hd2 HD HPut
      go_wp2_with fail
      refine bodyPost_ret (v := .tuple #[.agg #[.slice a ps.length c], .int .i64 0]) (by simp [results, Tryz.results9, go_sem, cs r0]) rfl ⟨a, c, rfl, (HZ.out _).1, (HZ.out _).2⟩
end Go.Proofs.YtddcndlogoajkaaGreatDoor.L8.Bt
