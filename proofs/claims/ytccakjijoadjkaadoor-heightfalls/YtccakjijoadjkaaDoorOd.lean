/- The statement HeightFalls, whole: along every dependence the way gets shorter by its latency at least, and what another operation waits for comes ahead of it, whatever the list and the table; the listed variables are tied to the program text. Conditions: none. -/
import Derived.Test.YtccakjijoadjkaaDoorHq
import Derived.Test.YtccakjijoadjkaaDoorFr
namespace Go.Proofs.YtccakjijoadjkaaDoor.Dp
open Go.ChangeShapes Go.WideShapes Go.ChangeAt Go.RowKit
open _root_.Go.Proofs.YtccakjijoadjkaaDoor.Op _root_.Go.Proofs.YtccakjijoadjkaaDoor.So
open _root_.Go.Proofs.YtccakjijoadjkaaDoor.Tb (Tab TabAt Bnds)
set_option maxRecDepth 20000

theorem ahd_irr (H : Nat → Int) (x : Int) : ¬ Ahd H x x := by unfold Ahd; omega
theorem OrdF.inj {n : Nat} {H g : Nat → Int} (o : OrdF n H g) {i j : Nat} (hi : i < n) (hj : j < n) (e : g i = g j) : i = j := by
  rcases Nat.lt_trichotomy i j with h | h | h
  · have := o.st i j h hj; rw [e] at this; exact absurd this (ahd_irr _ _)
  · exact h
  · have := o.st j i h hi; rw [e] at this; exact absurd this (ahd_irr _ _)
/-- Where each number stands, one more; 0 where it does not yet. -/
def atF (g : Nat → Int) : Nat → Nat → Int
  | 0 => fun _ => 0
  | k + 1 => updI (atF g k) (g k).toNat ((k : Int) + 1)
theorem atF_at {n : Nat} {H g : Nat → Int} (o : OrdF n H g) : ∀ k, k ≤ n → ∀ i, i < n → atF g k (g i).toNat = if i < k then (i : Int) + 1 else 0
  | 0, _, i, _ => by rw [if_neg (by omega)]; rfl
  | k + 1, hk, i, hi => by
    show updI (atF g k) (g k).toNat ((k : Int) + 1) (g i).toNat = _
    by_cases e : i = k
    · subst e; rw [updI_same, if_pos (by omega)]
    · have h1 := o.rg i hi
      have h2 := o.rg k (by omega)
      have h3 : ¬ (g i).toNat = (g k).toNat := fun h => e (o.inj hi (by omega) (by omega))
      rw [updI_other _ _ h3, atF_at o k (by omega) i hi]
      by_cases e2 : i < k
      · rw [if_pos e2, if_pos (by omega)]
      · rw [if_neg e2, if_neg (by omega)]
theorem atF_before {n : Nat} {H g : Nat → Int} (o : OrdF n H g) {x y : Nat} (hx : x < n) (hy : y < n) (h : H y < H x) : atF g n x < atF g n y := by
  obtain ⟨i, hi, ei⟩ := o.all x hx
  obtain ⟨j, hj, ej⟩ := o.all y hy
  have h1 := atF_at o n (Nat.le_refl _) i hi
  have h2 := atF_at o n (Nat.le_refl _) j hj
  rw [if_pos hi, ei, Int.toNat_natCast] at h1
  rw [if_pos hj, ej, Int.toNat_natCast] at h2
  rw [h1, h2]
  have : i < j := by
    rcases Nat.lt_trichotomy i j with h' | h' | h'
    · exact h'
    · subst h'
      have : (x : Int) = y := by rw [← ei, ← ej]
      have : x = y := by omega
      subst this; omega
    · have h3 := o.st j i h' hi
      rw [ei, ej] at h3
      unfold Ahd at h3
      simp only [Int.toNat_natCast] at h3
      omega
  omega
/-- What lies in memory under way. -/
structure Fs (w W : World) (t : Tab) (hb nb ab n : Nat) (H g A : Nat → Int) (B : Nat) (a : Option Addr) (c : Nat) (es : List Ed) : Prop where
  t : TabAt W w.heap.size t
  hr : Ir W hb n H
  nr : Ir W nb n g
  ar : Ir W ab n A
  es : EOwn B W a c es
  n1 : ¬ hb = ab
  n2 : ¬ nb = ab
  n3 : ∀ x, a = some x → ¬ x.block = ab
  up : Below w.heap.size w W
  aw : w.heap.size < ab
theorem Fs.next {w W W' : World} {t : Tab} {hb nb ab n : Nat} {H g A : Nat → Int} {B : Nat} {a : Option Addr} {c : Nat} {es : List Ed} (s : Fs w W t hb nb ab n H g A B a c es) (h : Below W.heap.size W W') : Fs w W' t hb nb ab n H g A B a c es :=
  ⟨s.t.below h s.t.lt, s.hr.up h, s.nr.up h, s.ar.up h, s.es.up h, s.n1, s.n2, s.n3, s.up.trans (h.mono s.up.size), s.aw⟩
theorem Fs.set {w W : World} {t : Tab} {hb nb ab n : Nat} {H g A : Nat → Int} {B : Nat} {a : Option Addr} {c : Nat} {es : List Ed} (s : Fs w W t hb nb ab n H g A B a c es) {k : Nat} (hk : k < n) (v : Int) : Fs w (W.setCell ⟨ab, k, none⟩ (.int .i64 v)) t hb nb ab n H g (updI A k v) B a c es := by
  have aw := s.aw
  have f : Fr (One ab) W (W.setCell ⟨ab, k, none⟩ (.int .i64 v)) := (Fr.refl (One ab) W).setCell (.inr rfl) _ _
  refine ⟨s.t.below ((Below.refl ab W).setCell (Nat.le_refl _) _) aw, s.hr.fr f s.n1, s.nr.fr f s.n2, s.ar.set hk v, row_fr s.es f fun k hk e => ?_, s.n1, s.n2, s.n3, s.up.setCell (by show w.heap.size ≤ ab; omega) _, aw⟩
  have e : k = ab := e
  cases a with
  | none => simp [Value.ownBlock] at hk
  | some x =>
    simp only [Value.ownBlock, Option.some.injEq] at hk
    exact s.n3 x rfl (by rw [hk]; exact e)
theorem fs_start {w w1 : World} {t : Tab} {hb nb n : Nat} {H g : Nat → Int} {B : Nat} {a : Option Addr} {c : Nat} {es : List Ed} (h1 : Tc w w1 t) (h2 : EOwn B w1 a c es) (h3 : Ir w1 hb n H) (h4 : Ir w1 nb n g) : Fs w (w1.alloc (.cells (madeCells #[.int .i64 0] n) 3)) t hb nb w1.heap.size n H g (atF g 0) B a c es := by
  have f : Below w1.heap.size w1 (w1.alloc (.cells (madeCells #[.int .i64 0] n) 3)) := (Below.refl _ _).alloc (Nat.le_refl _) _
  have l3 := h3.lt
  have l4 := h4.lt
  refine ⟨h1.t.below f h1.t.lt, h3.up f, h4.up f, Ir.new w1 n 3, h2.up f, by omega, by omega, fun x e => ?_, h1.up.trans (f.mono h1.up.size), h1.t.lt⟩
  subst e
  have h2' : w1.ownsRow B 38 5 (.slice (some x) es.length c) es.length (ecells es) := h2
  have := (h2'.lt x.block rfl).2
  omega
set_option maxHeartbeats 16000000 in
theorem falls_main (ao : Option Addr) (cap : Nat) (xs : List O) (t : Tab) (w : World) (h : OpsAt w ao xs) (hcap : xs.length ≤ cap) (hG : Bnds w) (hn : xs.length ≤ 200) (he : lisE t xs = 0) :
    Calls Tryd.prog 7 #[.slice ao xs.length cap, t.val] w fun e w' => e = .returned (.bool true) ∧ Below w.heap.size w w' := by
  obtain ⟨ht, -, hok⟩ := lis_all he
  have HW : Hid (∀ W, Below w.heap.size w W → Calls Tryd.prog 19 #[] W fun e w' => e = .returned (.bool true) ∧ Below W.heap.size W w') := fun W hb => wakes12_any W (hG.below hb hG.big)
  have HEO : Hid (EOk xs.length (ofE t xs)) := ofE_ok t xs (pts_ok t xs (fun o ho => ⟨h.ok o ho, okL_okO (hok o ho)⟩) ht)
  have HTs : Hid (Hts xs.length (latN t xs) (ofE t xs) (hts (latN t xs) (ofE t xs))) := hts_is HEO.out
  have HLn : Hid ((ofE t xs).length ≤ 100000000) := Nat.le_trans (withinE_len _ _ _ (by omega)) (by omega)
  have HOf : Hid (∀ W, Below w.heap.size w W → Calls Tryd.prog 9 #[.slice ao xs.length cap, t.val] W (EdOut W 0 (ofE t xs))) := fun W hb => by
    have := of_any ao cap xs t W (h.below hb) hcap (hG.below hb hG.big)
    unfold erE at this
    rw [if_pos he, he] at this
    exact this
  have HHo0 : Hid (∀ W, Below w.heap.size w W → Calls Tryd.prog 21 #[.slice ao xs.length cap, t.val] W (HtOut W xs.length (hts (latN t xs) (ofE t xs)))) := fun W hb => hof_ok ao cap xs t W (h.below hb) hcap (hG.below hb hG.big) he
  have HHo : Hid (∀ W, Below w.heap.size w W → Calls Tryd.prog 21 #[.slice ao xs.length cap, t.val] W fun e w' => ∃ hb, e = .returned (.tuple #[.slice (some ⟨hb, 0, none⟩) xs.length xs.length, .int .i64 0]) ∧ Ir w' hb xs.length (hts (latN t xs) (ofE t xs)) ∧ W.heap.size ≤ hb ∧ Below W.heap.size W w') := HHo0.out
  have HOr : Hid (∀ W, Below w.heap.size w W → Calls Tryd.prog 23 #[.slice ao xs.length cap, t.val] W fun e w' => ∃ nb g, e = .returned (.tuple #[.slice (some ⟨nb, 0, none⟩) xs.length xs.length, .int .i64 0]) ∧ Ir w' nb xs.length g ∧ OrdF xs.length (hts (latN t xs) (ofE t xs)) g ∧ W.heap.size ≤ nb ∧ Below W.heap.size W w') := fun W hb => hord_ok ao cap xs.length t _ W (by omega) fun W' hb' => HHo0.out W' (hb.trans (hb'.mono hb.size))
  clear HHo0
  have HLi : Hid (∀ i, i < xs.length → 1 ≤ latN t xs i ∧ latN t xs i ≤ 8) := fun i hi => by rw [latN_at t hi]; exact latV_in ht _
  have HLe : Hid (∀ i, i < xs.length → 1 ≤ hts (latN t xs) (ofE t xs) i ∧ hts (latN t xs) (ofE t xs) i ≤ 8 * (xs.length - i : Nat)) := HTs.out.le HEO.out HLi.out
  have HCl : Hid (∀ k (hk : k < xs.length), ∃ c : Nat, ∃ bb : Bool, c < 4 ∧ t.l c = latN t xs k ∧ ∀ W, Calls Tryd.prog 27 #[.int .i8 xs[k].op] W fun e w' => e = .returned (.tuple #[.int .i64 (c : Int), .bool bb]) ∧ Below W.heap.size W w') := fun k hk => by
    obtain ⟨c, c1, c2, c3⟩ := clV_ok t (hok _ (List.getElem_mem hk))
    have ho := h.ok _ (List.getElem_mem hk)
    refine ⟨c, clB xs[k].op, c1, by rw [latN_at t hk, c3], fun W => ?_⟩
    rw [← c2]
    exact class_any _ W ho.op0 ho.op1
  have HO : Hid (OpsAt w ao xs) := h
  have hn' : (xs.length : Int) ≤ 200 := by omega
  have hn2 : ¬ (200 : Int) < (xs.length : Int) := by omega
  clear h hcap hG hok he ht
  obtain ⟨es, hes⟩ : ∃ es, ofE t xs = es := ⟨_, rfl⟩
  rw [hes] at HOf HEO HLn HTs HHo HLe HOr
  clear hes
  obtain ⟨H, hH⟩ : ∃ H, hts (latN t xs) es = H := ⟨_, rfl⟩
  rw [hH] at HTs HHo HLe HOr
  clear hH
  obtain ⟨N, hN⟩ : ∃ N, es.length = N := ⟨_, rfl⟩
  have HNl : Hid (es.length = N) := hN
  have hNb : (N : Int) ≤ 100000000 := by have := HLn.out; omega
  clear HLn hN
  have HOf2 : Hid (∀ W, Below w.heap.size w W → Calls Tryd.prog 9 #[.slice ao xs.length cap, t.val] W fun e w' => ∃ a c, e = .returned (.tuple #[.slice a N c, .int .i64 0]) ∧ EOwn W.heap.size w' a c es ∧ Below W.heap.size W w') := fun W hb => by
    have := HOf.out W hb
    rw [← HNl.out]; exact this
  clear HOf
  obtain ⟨i0, hi, hi2⟩ := Option.map_eq_some_iff.1 info3
  simp only [Prod.mk.injEq] at hi2
  obtain ⟨hz0, hz1, hz2⟩ := hi2
  have HI : Hid (Tryd.prog.info? 3 = some i0 ∧ i0.zero = some (.int .i64 0) ∧ i0.size = 1 ∧ i0.bytes = 8) := ⟨hi, hz0, hz1, hz2⟩
  clear hi hz0 hz1 hz2
  unfold Tab.val at *
  go_enter Tryd.func7, Tryd.ntmps7
  go_upto_region 11 with (first
    | (go_at_call 9; refine Calls.mono (HOf2.out _ (by go_grown)) ?_; rintro e w1 ⟨a1, c1, rfl, o1, b1⟩; have HT1 : Hid (Tc w w1 t ∧ ∃ B, EOwn B w1 a1 c1 es) := ⟨Tc.start w t rfl b1, _, o1⟩; clear o1 b1 HOf2; have k2 := HT1.out.1.t; have tu0 := k2.cu 0 (by decide); have tu1 := k2.cu 1 (by decide); have tu2 := k2.cu 2 (by decide); have tu3 := k2.cu 3 (by decide); have tl0 := k2.cl 0 (by decide); have tl1 := k2.cl 1 (by decide); have tl2 := k2.cl 2 (by decide); have tl3 := k2.cl 3 (by decide); have tb0 := k2.cb 0 (by decide); have tb1 := k2.cb 1 (by decide); have tb2 := k2.cb 2 (by decide); have tb3 := k2.cb 3 (by decide); have td := k2.cd; have tz := k2.lt; clear k2)
    | (go_at_call 21; refine Calls.mono (HHo.out _ HT1.out.1.up) ?_; rintro e w2 ⟨hb, rfl, i2, -, b2⟩; have HT2 : Hid (Tc w w2 t ∧ (∃ B, EOwn B w2 a1 c1 es) ∧ Ir w2 hb xs.length H) := ⟨⟨HT1.out.1.t.below b2 HT1.out.1.t.lt, HT1.out.1.up.trans (b2.mono HT1.out.1.up.size)⟩, HT1.out.2.imp fun _ z => z.up b2, i2⟩; clear i2 b2 HHo HT1 tu0 tu1 tu2 tu3 tl0 tl1 tl2 tl3 tb0 tb1 tb2 tb3 td tz; have k2 := HT2.out.1.t; have tu0 := k2.cu 0 (by decide); have tu1 := k2.cu 1 (by decide); have tu2 := k2.cu 2 (by decide); have tu3 := k2.cu 3 (by decide); have tl0 := k2.cl 0 (by decide); have tl1 := k2.cl 1 (by decide); have tl2 := k2.cl 2 (by decide); have tl3 := k2.cl 3 (by decide); have tb0 := k2.cb 0 (by decide); have tb1 := k2.cb 1 (by decide); have tb2 := k2.cb 2 (by decide); have tb3 := k2.cb 3 (by decide); have td := k2.cd; have tz := k2.lt; clear k2)
    | (go_at_call 23; refine Calls.mono (HOr.out _ HT2.out.1.up) ?_; rintro e w3 ⟨nb, g, rfl, i3, o3, -, b3⟩; have HT3 : Hid (Tc w w3 t ∧ (∃ B, EOwn B w3 a1 c1 es) ∧ Ir w3 hb xs.length H ∧ Ir w3 nb xs.length g) := ⟨⟨HT2.out.1.t.below b3 HT2.out.1.t.lt, HT2.out.1.up.trans (b3.mono HT2.out.1.up.size)⟩, HT2.out.2.1.imp fun _ z => z.up b3, HT2.out.2.2.up b3, i3⟩; have HOd : Hid (OrdF xs.length H g) := o3; clear i3 o3 b3 HOr HT2 tu0 tu1 tu2 tu3 tl0 tl1 tl2 tl3 tb0 tb1 tb2 tb3 td tz)
    | (at_make; refine wpList_make_row _ rfl _ _ 57 rfl 3 i0 (.int .i64 0) Tryd.underlying57 HI.out.1 HI.out.2.1 HI.out.2.2.1 rfl .i64 .i64 xs.length rfl rfl (by rw [HI.out.2.2.2]; omega) (by omega) ?_))
  obtain ⟨B, hB⟩ := HT3.out.2.1
  have HS : Hid (Fs w (w3.alloc (.cells (madeCells #[.int .i64 0] xs.length) 3)) t hb nb w3.heap.size xs.length H g (atF g 0) B a1 c1 es) := fs_start HT3.out.1 hB HT3.out.2.2.1 HT3.out.2.2.2
  generalize w3.alloc (.cells (madeCells #[.int .i64 0] xs.length) 3) = W0 at *
  generalize w3.heap.size = ab at *
  clear HT3 hB HI
  go_wp2_with fail
  go_loopw [12] (fun v wr => ∃ k : Nat, k ≤ xs.length ∧ v = .int .i64 k ∧ Fs w wr t hb nb ab xs.length H g (atF g k) B a1 c1 es) (fun v _ => xs.length - (intOf v).toNat)
  case atStart => exact ⟨0, by omega, rfl, HS.out⟩
  case round =>
    rename World => wr
    obtain ⟨k, hk, rfl, hs⟩ := hrel
    have HQ : Hid (Fs w wr t hb nb ab xs.length H g (atF g k) B a1 c1 es) := hs
    clear hs HS
    by_cases hlt : k < xs.length
    · have k0 : (0 : Int) ≤ (k : Int) := by omega
      have k1 : (k : Int) < (xs.length : Int) := by omega
      obtain ⟨gk, hgk⟩ : ∃ gk : Nat, g k = gk := ⟨(g k).toNat, by have := (HOd.out.rg k hlt).1; omega⟩
      have p0 : (0 : Int) ≤ (gk : Int) := by omega
      have p1 : (gk : Int) < (xs.length : Int) := by have := (HOd.out.rg k hlt).2; omega
      have cn : wr.cell? ⟨nb, k, none⟩ = some (.int .i64 (gk : Int)) := by rw [← hgk]; exact HQ.out.nr.c k hlt
      have ln := HQ.out.nr.lt
      have ca : wr.cell? ⟨ab, gk, none⟩ = some (.int .i64 0) := by
        rw [HQ.out.ar.c gk (by omega)]
        have := atF_at HOd.out k hk k hlt
        rw [if_neg (by omega), hgk, Int.toNat_natCast] at this
        rw [this]
      have fa := HQ.out.ar.f gk
      have la := HQ.out.ar.lt
      have HF : Hid (Fs w (wr.setCell ⟨ab, gk, none⟩ (.int .i64 ((k : Int) + 1))) t hb nb ab xs.length H g (atF g (k + 1)) B a1 c1 es) := by
        have := HQ.out.set (k := gk) (by omega) ((k : Int) + 1)
        show Fs w _ t hb nb ab xs.length H g (updI (atF g k) (g k).toNat ((k : Int) + 1)) B a1 c1 es
        rw [hgk, Int.toNat_natCast]
        exact this
      have np1 : ¬ (gk : Int) < 0 := by omega
      have np2 : ¬ (xs.length : Int) ≤ (gk : Int) := by omega
      have HKn : Hid (∀ v q, v = (k : Int) + 1 → Fs w ((wr.setCell ⟨ab, gk, none⟩ (.int .i64 v)).drewN q) t hb nb ab xs.length H g (atF g (k + 1)) B a1 c1 es) := fun v q e => by rw [e]; exact HF.out.next ⟨rfl, rfl, rfl, Nat.le_refl _, fun _ _ => rfl⟩
      by_cases hk0 : k = 0
      · subst hk0
        have z1 : ¬ (0 : Int) < ((0 : Nat) : Int) := by omega
        clear HTs HEO HLe HLi HCl HO HNl HOd
        go_upto_region 17 with fail
        clear cn ln ca fa la HQ
        go_quiet (fail)
        go_wp2_with fail
        go_roundw
        case rel => exact ⟨0 + 1, by omega, by first | rfl | go_num, HKn.out _ _ (by omega)⟩
        case measure => simp [intOf]; omega
      · have z1 : (0 : Int) < (k : Int) := by omega
        have z4 : 0 < k := by omega
        have z5 : decide (0 < k) = true := decide_eq_true z4
        obtain ⟨gp, hgp⟩ : ∃ gp : Nat, g (k - 1) = gp := ⟨(g (k - 1)).toNat, by have := (HOd.out.rg (k - 1) (by omega)).1; omega⟩
        have p2 : (0 : Int) ≤ (gp : Int) := by omega
        have p3 : (gp : Int) < (xs.length : Int) := by have := (HOd.out.rg (k - 1) (by omega)).2; omega
        have hA := HOd.out.st (k - 1) k (by omega) hlt
        rw [hgp, hgk] at hA
        have hA2 : H gk < H gp ∨ H gp = H gk ∧ (gp : Int) < (gk : Int) := hA
        clear hA
        obtain ⟨km, hkm⟩ : ∃ km, k - 1 = km := ⟨_, rfl⟩
        have ek : (k : Int) - 1 = (km : Int) := by omega
        have z2 : (0 : Int) ≤ (km : Int) := by omega
        have z3 : (km : Int) < (xs.length : Int) := by omega
        have hX : Hid (Fs w (wr.setCell ⟨ab, gk, none⟩ (.int .i64 ((k : Int) + 1))) t hb nb ab xs.length H g (atF g (k + 1)) B a1 c1 es) := HF.out
        clear HTs HEO HLe HLi HCl HO HNl HOd HF
        go_upto_region 17 with fail
        have HKm : Hid (∀ q, Fs w ((wr.setCell ⟨ab, gk, none⟩ (.int .i64 ((k : Int) + 1))).drewN q) t hb nb ab xs.length H g (atF g (k + 1)) B a1 c1 es) := fun q => HKn.out _ q rfl
        clear HKn cn ln ca fa la HQ
        generalize wr.setCell ⟨ab, gk, none⟩ (.int .i64 ((k : Int) + 1)) = X at *
        have c1 : X.cell? ⟨nb, k, none⟩ = some (.int .i64 (gk : Int)) := by rw [← hgk]; exact hX.out.nr.c k hlt
        have c2 : X.cell? ⟨nb, km, none⟩ = some (.int .i64 (gp : Int)) := by rw [← hkm, ← hgp]; exact hX.out.nr.c (k - 1) (by omega)
        have c3 := hX.out.hr.c gk (by omega)
        have c4 := hX.out.hr.c gp (by omega)
        have l1 := hX.out.nr.lt
        have l2 := hX.out.hr.lt
        clear hX hgk hgp hkm
        generalize H gk = hk1 at *
        generalize H gp = hk2 at *
        rcases hA2 with hA | ⟨rfl, hA⟩
        · have y1 : ¬ hk2 < hk1 := by omega
          have y2 : ¬ hk1 = hk2 := by omega
          have y3 : (hk1 == hk2) = false := by simpa using y2
          have y4 : decide (hk2 < hk1) = false := decide_eq_false y1
          have y5 : decide (hk1 = hk2) = false := decide_eq_false y2
          go_quiet (fail)
          go_wp2_with fail
          go_roundw
          case rel => exact ⟨k + 1, by omega, by first | rfl | go_num, HKm.out _⟩
          case measure => simp [intOf]; omega
        · have y1 : ¬ hk2 < hk2 := by omega
          have y3 : ¬ (gk : Int) < (gp : Int) := by omega
          have y4 : decide (hk2 < hk2) = false := decide_eq_false y1
          have y5 : decide ((gk : Int) < (gp : Int)) = false := decide_eq_false y3
          have y6 : ¬ gk < gp := by omega
          have y7 : decide (gk < gp) = false := decide_eq_false y6
          go_quiet (fail)
          go_wp2_with fail
          go_roundw
          case rel => exact ⟨k + 1, by omega, by first | rfl | go_num, HKm.out _⟩
          case measure => simp [intOf]; omega
    · obtain rfl : k = xs.length := by omega
      have k1 : ¬ (xs.length : Int) < (xs.length : Int) := by omega
      have HAt : Hid (∀ e ∈ es, 0 < e.l → atF g xs.length e.f.toNat < atF g xs.length e.t.toNat) := fun e hm hl => by
        have e1 := HEO.out.f0 e hm
        have e2 := HEO.out.ft e hm
        have e3 := HEO.out.tn e hm
        have e4 := HTs.out.ed e hm
        exact atF_before HOd.out (by omega) (by omega) (by omega)
      clear HOd
      go_upto_region 20 with fail
      generalize atF g xs.length = A at *
      go_loopw [13] (fun v wz => ∃ k : Nat, k ≤ N ∧ v = .int .i64 k ∧ Fs w wz t hb nb ab xs.length H g A B a1 c1 es) (fun v _ => N - (intOf v).toNat)
      case atStart => exact ⟨0, by omega, rfl, HQ.out⟩
      case round =>
        rename World => wz
        obtain ⟨k, hk, rfl, hs⟩ := hrel
        have HZ : Hid (Fs w wz t hb nb ab xs.length H g A B a1 c1 es) := hs
        clear hs HQ
        by_cases hkl : k < N
        · have j0 : (0 : Int) ≤ (k : Int) := by omega
          have j1 : (k : Int) < (N : Int) := by omega
          have hke : k < es.length := by rw [HNl.out]; exact hkl
          have hm := List.getElem_mem hke
          have g1 := HEO.out.f0 _ hm
          have g2 := HEO.out.ft _ hm
          have g3 := HEO.out.tn _ hm
          obtain ⟨g4, g5⟩ := HEO.out.l0 _ hm
          have g9 := HTs.out.ed _ hm
          have g10 := HAt.out _ hm
          obtain ⟨eb, rfl, l1, -, f0, f1, f2, f3, f4⟩ := eOwn_at HZ.out.es hke
          have HZ2 : Hid (Fs w (wz.alloc (.cells #[.int .i64 es[k].f, .int .i64 es[k].t, .int .i64 es[k].l, .int .i64 es[k].d, .int .i8 es[k].y] 38)) t hb nb ab xs.length H g A B (some ⟨eb, 0, none⟩) c1 es ∧ At (wz.alloc (.cells #[.int .i64 es[k].f, .int .i64 es[k].t, .int .i64 es[k].l, .int .i64 es[k].d, .int .i8 es[k].y] 38)) wz.heap.size #[.int .i64 es[k].f, .int .i64 es[k].t, .int .i64 es[k].l, .int .i64 es[k].d, .int .i8 es[k].y]) := ⟨HZ.out.next ((Below.refl _ _).alloc (Nat.le_refl _) _), At.new _ _ _⟩
          clear hm HAt
          generalize es[k] = x at *
          obtain ⟨xf, xt, xl, xd, xy⟩ := x
          obtain ⟨fi, rfl⟩ : ∃ fi : Nat, xf = fi := ⟨xf.toNat, by have g1 : 0 ≤ xf := g1; omega⟩
          obtain ⟨ti, rfl⟩ : ∃ ti : Nat, xt = ti := ⟨xt.toNat, by have g1 : 0 ≤ (fi : Int) := g1; have g2 : (fi : Int) < xt := g2; omega⟩
          have g2 : (fi : Int) < (ti : Int) := g2
          have g3 : (ti : Int) < (xs.length : Int) := g3
          have g4 : 0 ≤ xl := g4
          have g5 : xl ≤ 8 := g5
          have g6 : (0 : Int) ≤ (fi : Int) := by omega
          have g7 : (fi : Int) < (xs.length : Int) := by omega
          have g8 : (0 : Int) ≤ (ti : Int) := by omega
          have g9 : xl + H ti ≤ H fi := g9
          have g10 : 0 < xl → A fi < A ti := g10
          obtain ⟨r1, r2⟩ := HLe.out fi (by omega)
          obtain ⟨r3, r4⟩ := HLe.out ti (by omega)
          have r5 : H ti ≤ 1600 := by omega
          have r6 : H fi ≤ 1600 := by omega
          have r7 : ¬ H fi < H ti + xl := by omega
          clear g1 r2 r4 g9 HTs HEO HLe HLi HCl HO
          go_upto_region 23 with fail
          generalize (wz.alloc (.cells #[.int .i64 (fi : Int), .int .i64 (ti : Int), .int .i64 xl, .int .i64 xd, .int .i8 xy] 38)) = X at *
          generalize wz.heap.size = ob at *
          clear HZ f0 f1 f2 f3 f4 l1
          have s2 := HZ2.out.2
          have o0 := s2.c 0 _ rfl
          have o1 := s2.c 1 _ rfl
          have o2 := s2.c 2 _ rfl
          have ol := s2.lt
          have cf := HZ2.out.1.hr.c fi (by omega)
          have ct := HZ2.out.1.hr.c ti (by omega)
          have hl := HZ2.out.1.hr.lt
          have af := HZ2.out.1.ar.c fi (by omega)
          have at1 := HZ2.out.1.ar.c ti (by omega)
          have al := HZ2.out.1.ar.lt
          clear s2
          have HZn : Hid (∀ q, Fs w (X.drewN q) t hb nb ab xs.length H g A B (some ⟨eb, 0, none⟩) c1 es) := fun q => HZ2.out.1.next ⟨rfl, rfl, rfl, Nat.le_refl _, fun _ _ => rfl⟩
          clear HZ2
          generalize H fi = hf at *
          generalize H ti = ht at *
          generalize A fi = Af at *
          generalize A ti = At1 at *
          have r8 : decide (hf < ht + xl) = false := decide_eq_false r7
          by_cases hx0 : 0 < xl
          · have y1 : ¬ At1 ≤ Af := by have := g10 hx0; omega
            have y2 : decide (At1 ≤ Af) = false := decide_eq_false y1
            clear g10
            go_quiet (fail)
            go_wp2_with fail
            go_roundw
            case rel => exact ⟨k + 1, by omega, by first | rfl | go_num, HZn.out _⟩
            case measure => simp [intOf]; omega
          · have y2 : decide (0 < xl) = false := decide_eq_false hx0
            clear g10
            go_quiet (fail)
            go_wp2_with fail
            go_roundw
            case rel => exact ⟨k + 1, by omega, by first | rfl | go_num, HZn.out _⟩
            case measure => simp [intOf]; omega
        · have j1 : ¬ (k : Int) < (N : Int) := by omega
          clear HAt
          go_upto_region 26 with fail
          go_loopw [15] (fun v wy => ∃ k : Nat, k ≤ xs.length ∧ v = .int .i64 k ∧ Fs w wy t hb nb ab xs.length H g A B a1 c1 es) (fun v _ => xs.length - (intOf v).toNat)
          case atStart => exact ⟨0, by omega, rfl, HZ.out⟩
          case round =>
            rename World => wy
            obtain ⟨k, hk, rfl, hs⟩ := hrel
            have HY : Hid (Fs w wy t hb nb ab xs.length H g A B a1 c1 es) := hs
            clear hs HZ
            by_cases hkl : k < xs.length
            · have j0 : (0 : Int) ≤ (k : Int) := by omega
              have j1 : (k : Int) < (xs.length : Int) := by omega
              obtain ⟨b, f, rfl, hz2, hx⟩ := (HO.out.below HY.out.up).is (by omega)
              obtain ⟨q0, -, -, -, -⟩ := hx k hkl
              obtain ⟨c, bb, hc4, hcl, hC⟩ := HCl.out k hkl
              have d0 : (0 : Int) ≤ (c : Int) := by omega
              have d1 : (c : Int) < 4 := by omega
              have HC1 : Hid (∀ W, Calls Tryd.prog 27 #[.int .i8 xs[k].op] W fun e w' => e = .returned (.tuple #[.int .i64 (c : Int), .bool bb]) ∧ Below W.heap.size W w') := hC
              have d2 : ¬ H k < t.l c := by have := HTs.out.lo k hkl; omega
              clear hx hC hcl HCl HO HLe HTs HEO HLi HNl
              generalize xs[k] = o at *
              go_upto_region 29 with (first
                | (go_at_call 27; refine Calls.mono (HC1.out _) ?_; rintro e w3 ⟨rfl, b3⟩; have HY3 : Hid (Fs w w3 t hb nb ab xs.length H g A B a1 c1 es) := HY.out.next b3; clear b3 HC1 HY q0 hz2))
              have tc := HY3.out.t.cl c hc4
              have tz := HY3.out.t.lt
              have hc := HY3.out.hr.c k hkl
              have hl := HY3.out.hr.lt
              have HYn : Hid (∀ q, Fs w (w3.drewN q) t hb nb ab xs.length H g A B a1 c1 es) := fun q => HY3.out.next ⟨rfl, rfl, rfl, Nat.le_refl _, fun _ _ => rfl⟩
              clear HY3
              generalize t.l c = lv at *
              generalize H k = hv at *
              go_quiet (fail)
              go_wp2_with fail
              go_roundw
              case rel => exact ⟨k + 1, by omega, by first | rfl | go_num, HYn.out _⟩
              case measure => simp [intOf]; omega
            · have j1 : ¬ (k : Int) < (xs.length : Int) := by omega
              go_wp2_with (first | (go_at_call 19; refine Calls.mono (HW.out _ HY.out.up) ?_; rintro e wv ⟨rfl, bv⟩; have HV9 : Hid (Below w.heap.size w wv) := (HY.out.up).trans (bv.mono (HY.out.up).size); clear bv HW))
              go_ret
              exact ⟨rfl, HV9.out⟩
set_option maxHeartbeats 4000000 in
theorem law_falls (ao : Option Addr) (cap : Nat) (xs : List O) (t : Tab) (w : World) (h : OpsAt w ao xs) (hcap : xs.length ≤ cap) (hG : Bnds w) :
    Calls Tryd.prog 7 #[.slice ao xs.length cap, t.val] w fun e w' => e = .returned (.bool true) ∧ Below w.heap.size w w' := by
  have HW : Hid (∀ W, Below w.heap.size w W → Calls Tryd.prog 19 #[] W fun e w' => e = .returned (.bool true) ∧ Below W.heap.size W w') := fun W hb => wakes12_any W (hG.below hb hG.big)
  by_cases hn : 200 < xs.length
  · have hi : (200 : Int) < (xs.length : Int) := by omega
    clear h hcap hG hn
    unfold Tab.val
    go_enter Tryd.func7, Tryd.ntmps7
    go_wp2_with (first | (go_at_call 19; refine Calls.mono (HW.out _ (by go_grown)) ?_; rintro e w3 ⟨rfl, hb⟩; have HB3 : Hid (Below w.heap.size w w3) := Below.trans (by go_grown) (hb.mono (by simp)); clear hb HW))
    go_ret
    exact ⟨rfl, HB3.out⟩
  · have hi : ¬ (200 : Int) < (xs.length : Int) := by omega
    by_cases he : lisE t xs = 0
    · exact falls_main ao cap xs t w h hcap hG (by omega) he
    · have HOf : Hid (∀ W, Below w.heap.size w W → Calls Tryd.prog 9 #[.slice ao xs.length cap, t.val] W fun e w' => ∃ a c, e = .returned (.tuple #[.slice a 0 c, .int .i64 (lisE t xs)]) ∧ Below W.heap.size W w') := fun W hb => (of_any ao cap xs t W (h.below hb) hcap (hG.below hb hG.big)).mono fun e w' h' => by
        unfold erE at h'
        rw [if_neg he] at h'
        obtain ⟨a, c, rfl, -, hb2⟩ := h'
        exact ⟨a, c, rfl, hb2⟩
      have HHo : Hid (∀ W, Below w.heap.size w W → Calls Tryd.prog 21 #[.slice ao xs.length cap, t.val] W fun e w' => e = .returned (.tuple #[.slice none 0 0, .int .i64 (lisE t xs)]) ∧ Below W.heap.size W w') := fun W hb => hof_no ao cap xs t W (h.below hb) hcap (hG.below hb hG.big) he
      have HOr : Hid (∀ W, Below w.heap.size w W → Calls Tryd.prog 23 #[.slice ao xs.length cap, t.val] W fun e w' => e = .returned (.tuple #[.slice none 0 0, .int .i64 (lisE t xs)]) ∧ Below W.heap.size W w') := fun W hb => hord_no ao cap xs.length t _ W he fun W' hb' => HHo.out W' (hb.trans (hb'.mono hb.size))
      clear h hcap hG hn
      generalize lisE t xs = er at *
      have he2 : (er != 0) = true := by simpa using he
      unfold Tab.val at *
      go_enter Tryd.func7, Tryd.ntmps7
      go_wp2_with (first
        | (go_at_call 9; refine Calls.mono (HOf.out _ (by go_grown)) ?_; rintro e w1 ⟨a1, c1, rfl, b1⟩; have HT1 : Hid (Tc w w1 t) := Tc.start w t rfl b1; clear b1 HOf; have k2 := HT1.out.t; have tu0 := k2.cu 0 (by decide); have tu1 := k2.cu 1 (by decide); have tu2 := k2.cu 2 (by decide); have tu3 := k2.cu 3 (by decide); have tl0 := k2.cl 0 (by decide); have tl1 := k2.cl 1 (by decide); have tl2 := k2.cl 2 (by decide); have tl3 := k2.cl 3 (by decide); have tb0 := k2.cb 0 (by decide); have tb1 := k2.cb 1 (by decide); have tb2 := k2.cb 2 (by decide); have tb3 := k2.cb 3 (by decide); have td := k2.cd; have tz := k2.lt; clear k2)
        | (go_at_call 21; refine Calls.mono (HHo.out _ HT1.out.up) ?_; rintro e w2 ⟨rfl, b2⟩; have HT2 : Hid (Tc w w2 t) := ⟨HT1.out.t.below b2 HT1.out.t.lt, HT1.out.up.trans (b2.mono HT1.out.up.size)⟩; clear b2 HHo HT1 tu0 tu1 tu2 tu3 tl0 tl1 tl2 tl3 tb0 tb1 tb2 tb3 td tz; have k2 := HT2.out.t; have tu0 := k2.cu 0 (by decide); have tu1 := k2.cu 1 (by decide); have tu2 := k2.cu 2 (by decide); have tu3 := k2.cu 3 (by decide); have tl0 := k2.cl 0 (by decide); have tl1 := k2.cl 1 (by decide); have tl2 := k2.cl 2 (by decide); have tl3 := k2.cl 3 (by decide); have tb0 := k2.cb 0 (by decide); have tb1 := k2.cb 1 (by decide); have tb2 := k2.cb 2 (by decide); have tb3 := k2.cb 3 (by decide); have td := k2.cd; have tz := k2.lt; clear k2)
        | (go_at_call 23; refine Calls.mono (HOr.out _ HT2.out.up) ?_; rintro e w3 ⟨rfl, b3⟩; have HT3 : Hid (Below w.heap.size w w3) := HT2.out.up.trans (b3.mono HT2.out.up.size); clear b3 HOr HT2 tu0 tu1 tu2 tu3 tl0 tl1 tl2 tl3 tb0 tb1 tb2 tb3 td tz)
        | (go_at_call 19; refine Calls.mono (HW.out _ HT3.out) ?_; rintro e wv ⟨rfl, bv⟩; have HV9 : Hid (Below w.heap.size w wv) := (HT3.out).trans (bv.mono (HT3.out).size); clear bv HW))
      go_ret
      exact ⟨rfl, HV9.out⟩
end Go.Proofs.YtccakjijoadjkaaDoor.Dp

namespace Go.Proofs.YtccakjijoadjkaaDoor.Hc
open Go.ChangeShapes Go.WideShapes Go.ChangeAt Go.RowKit
open _root_.Go.Proofs.YtccakjijoadjkaaDoor.Op

set_option maxRecDepth 100000 in
theorem falls_wit (os : Os) (H : Type) (enc : TypeId × Value → H) : ∃ (w : World) (tape : Tape) (i : Input), w.os = os ∧ (w.forCall tape i).Shaped Tryd.prog ∧ i.vars = [] ∧ Input.okWide Tryd.prog (w.forCall tape i) .any w.heap.size 7 i ∧
      ((Rows.heightFallsSpec.pre enc Tryd.prog Tryd.f7 [] false (w.forCall tape i).memory i.args ∧ laidMetH Tryd.prog Rows.heightFallsRow.laid (w.forCall tape i).memory) ∧ sizedMet enc Tryd.prog Tryd.f7 (OpenSpec.ofChange Rows.heightFallsSpec) false (w.forCall tape i).memory i.args) ∧ Assume.holds {} Tryd.prog (lone (Frame.enter Tryd.prog 7 i.args .normal) [] (w.forCall tape i)) :=
  ChangeSpec.witness_shaped (enc := enc) (C := Tryd.checked) (os := os) (X := fun w _ => laidMetH Tryd.prog Rows.heightFallsRow.laid w) false ((World.holding Tryd.prog os ⟨#[], #[], []⟩).layVars Tryd.prog laid4) #[.slice none 0 0, .agg #[.int .i64 0, .int .i64 0, .int .i64 0, .int .i64 0, .int .i64 0, .int .i64 0, .int .i64 0, .int .i64 0, .int .i64 0, .int .i64 0, .int .i64 0, .int .i64 0, .int .i64 0]] 8 (wit_os4 os)
    (World.shaped_of_ZipB (by kernel_rfl) (by kernel_rfl)) (by kernel_rfl) (by kernel_rfl) (by kernel_rfl) (wit_met4 os _)

set_option maxRecDepth 100000 in
theorem falls_lifted (os : Os) (started : os.Started) (H : Type) (enc : TypeId × Value → H) :
    ReturnsInHanded {} Tryd.checked os 7 .any (fun w args => (Rows.heightFallsSpec.pre enc Tryd.prog Tryd.f7 [] false w args ∧ laidMetH Tryd.prog Rows.heightFallsRow.laid w) ∧ sizedMet enc Tryd.prog Tryd.f7 (OpenSpec.ofChange Rows.heightFallsSpec) false w args)
      (Rows.heightFallsSpec.post enc Tryd.prog Tryd.f7 false true false false) := by
  refine wrap started (by kernel_rfl) Tryd.func7 (falls_wit os H enc) ?_
  intro W base args ds gs before hval0 hW hsz hL hsh
  have hval : ∀ (j : Nat) t v, Tryd.f7.params[j]? = some t → args[j]? = some v → Value.okWide Tryd.prog W .any base t v := hval0
  have hW' := hW
  obtain ⟨p, q, hA0, hV, rfl, _, _⟩ := hW
  have hA : DataW.TrodAll enc Tryd.prog W 0 (fun _ => true) true Tryd.f7.params.toList args.toList ds p := hA0
  rw [Tryd.params7] at hA hval hsz
  obtain ⟨v0, v1, d0, d1, p0, p1, rfl, rfl, rfl, h0, h1⟩ := trodAll_two hA
  obtain ⟨rfl, rfl⟩ := trodVars_none hV
  obtain ⟨ao, cap, xs, rfl, hp, hc⟩ := open_ops (hval 0 22 v0 rfl rfl) h0 fun n hn => by
    have := List.all_eq_true.1 hsz n (DataW.weights_mem_each (j := 0) rfl rfl n hn)
    simpa using this
  obtain ⟨⟨t, rfl⟩, rfl⟩ := open_tab (hval 1 25 v1 rfl rfl) h1
  simp only [List.append_nil] at hW'
  refine (Dp.law_falls ao cap xs t W hp hc (env4 hL hsh)).mono fun e W' ⟨he, hb⟩ => ?_
  subst he
  refine ⟨_, rfl, _, _, _, [], p0 ++ [], [], hW', trodAll_mk1 (shut_bool Tryd.underlying4 _), ?_, rfl, hb.frame _, fun h => by cases h⟩
  rw [Tryd.params7]
  exact trodAll_mk2 (Below.trod laidOut (by kernel_rfl) (by rw [tySize]; decide) h0 hb fun x hx => by obtain ⟨fuel, hf⟩ := h0; exact DataW.trod_lt _ _ _ _ hf x hx) (Below.trod laidOut (by kernel_rfl) (by rw [tySize]; decide) h1 hb (fun x hx => by cases hx))

theorem falls_row : Rows.HeightFallsSaid :=
  OpenClaim.holds_of_wide 7 Tryd.f7 rfl rfl rfl rfl rfl rfl rfl ⟨rfl, rfl, rfl, rfl, rfl⟩ rfl rfl rfl rfl rfl (by kernel_rfl) Tryd.func7 (by kernel_rfl)
    (of_decide_eq_true (by kernel_rfl)) (by unfold Func.isWrapper; first | (rw [if_pos (by decide +kernel)]; kernel_rfl) | (rw [if_neg (by decide +kernel)]; exact ⟨rfl, rfl⟩))
    (fun os started H enc _ => falls_lifted os started H enc)

theorem falls_card : Rows.HeightFallsCardSaid :=
  Claim7.holds_tied_plain_at .later [] [.wider, .wider, .wider, .wider] true (true, "a30ebd5077f33e5cdccaff7d2a4a0209575c01e2b2de5e3f09ea03bda577cf6e") true falls_row (fun _ h => by cases h) (by kernel_rfl) (fun _ h => by cases h) heightFalls_row_tie rfl ⟨rfl, rfl⟩ (by kernel_rfl) rfl
    (fun f fn hf hfn => by
      obtain rfl : f = 7 := Option.some.inj ((show Tryd.prog.funcNamed "hayloft/hayloftlaw12.HeightFalls" = some 7 by kernel_rfl).symm.trans hf) |>.symm
      obtain rfl : fn = Tryd.f7 := (Option.some.inj (Tryd.func7.symm.trans hfn)).symm
      exact ⟨by kernel_rfl, fun j t ht => by
        rw [Tryd.params7] at ht
        have hm : t ∈ [22, 25] := by simpa using Array.mem_of_getElem? ht
        have hall : ([22, 25].all fun u => !Tryd.prog.wantsStandIn u) = true := by kernel_rfl
        exact (show Tryd.prog.wantsStandIn t = false by simpa using List.all_eq_true.1 hall t hm)⟩)
    (by kernel_rfl)
#print axioms falls_card
end Go.Proofs.YtccakjijoadjkaaDoor.Hc
