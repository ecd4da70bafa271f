/- Do longest ways come to an end (the law's ends, the document's goes), read off the program by the walk. Conditions: the dependences lie in memory. -/
import Derived.Test.YthdpgimdakmdgaaDoorZb
import Derived.Test.YthdpgimdakmdgaaDoorZc
import Derived.Deep.WholeRow
namespace Go.Proofs.YthdpgimdakmdgaaDoor.Bn
open Go.ChangeShapes Go.WideShapes Go.ChangeAt Go.RowKit
open _root_.Go.Proofs.YthdpgimdakmdgaaDoor.Op _root_.Go.Proofs.YthdpgimdakmdgaaDoor.So
open _root_.Go.Proofs.YthdpgimdakmdgaaDoor.Dp (Ed)
set_option maxRecDepth 20000

theorem pas_put (q : Int) (l : List Ed) (e : Ed) (g : Nat → Int) : pas q (l ++ [e]) g = rlx q (pas q l g) e := by unfold pas; rw [List.foldl_append]; rfl
theorem chg_put (q : Int) (e : Ed) : ∀ (l : List Ed) (g : Nat → Int), chg q (l ++ [e]) g = (chg q l g || decide (pas q l g e.t.toNat < pas q l g e.f.toNat + wt q e))
  | [], g => by show (decide _ || false) = (false || decide _); rw [Bool.or_false, Bool.false_or]; rfl
  | a :: l, g => by
    show (decide _ || chg q (l ++ [e]) (rlx q g a)) = ((decide _ || chg q l (rlx q g a)) || decide (pas q l (rlx q g a) _ < pas q l (rlx q g a) _ + _))
    rw [chg_put q e l (rlx q g a), Bool.or_assoc]
theorem take_put {es : List Ed} {j : Nat} (h : j < es.length) : es.take (j + 1) = es.take j ++ [es[j]] := List.take_succ_eq_append_getElem h
theorem info3 : (Tryd.prog.info? 3).map (fun i => (i.zero, i.size, i.bytes)) = some (some (.int .i64 0), 1, 8) := by kernel_rfl
theorem iv_made (W : World) (n : Nat) (t : TypeId) : Iv (W.alloc (.cells (madeCells #[.int .i64 0] n) t)) W.heap.size n (fun _ => 0) := by
  have h := At.new W (madeCells #[.int .i64 0] n) t
  refine ⟨fun k hk => h.c k _ ?_, h.f, h.lt⟩
  rw [← Array.getElem?_toList, toList_madeCells_one]
  simp [hk]
/-- Longest ways under way: their row, and the dependences. -/
structure Lw (w W : World) (b n : Nat) (g : Nat → Int) (a : Option Addr) (es : List Ed) : Prop where
  m : Iv W b n g
  e : Es W a es
  up : Below w.heap.size w W
  hb : w.heap.size ≤ b
  ha : ∀ x, a = some x → x.block < w.heap.size
theorem Lw.next {w W W' : World} {b n : Nat} {g : Nat → Int} {a : Option Addr} {es : List Ed} (h : Lw w W b n g a es) (k : Below W.heap.size W W') : Lw w W' b n g a es := ⟨h.m.up k, h.e.up k, h.up.trans (k.mono h.up.size), h.hb, h.ha⟩
theorem Lw.set {w W : World} {b n : Nat} {g : Nat → Int} {a : Option Addr} {es : List Ed} (h : Lw w W b n g a es) {k : Nat} (hk : k < n) (v : Int) : Lw w (W.setCell ⟨b, k, none⟩ (.int .i64 v)) b n (up1 g k v) a es :=
  ⟨h.m.set hk v, h.e.fr ((So.Fr.refl (So.One b) W).setCell (.inr rfl) _ _) fun x hx e => by have := h.ha x hx; have := h.hb; have e : x.block = b := e; omega, h.up.setCell h.hb _, h.hb, h.ha⟩
theorem lw_start {w : World} {n : Nat} {a : Option Addr} {es : List Ed} (he : Es w a es) : Lw w (w.alloc (.cells (madeCells #[.int .i64 0] n) 3)) w.heap.size n (fun _ => 0) a es :=
  ⟨iv_made w n 3, he.up ((Below.refl _ _).alloc (Nat.le_refl _) _), (Below.refl _ _).alloc (Nat.le_refl _) _, Nat.le_refl _, he.1⟩
/-- How long ways can be so far. -/
def Bd (n : Nat) (g : Nat → Int) (M : Int) : Prop := ∀ i, i < n → 0 ≤ g i ∧ g i ≤ M
theorem Bd.rlx {n : Nat} {g : Nat → Int} {M q : Int} {e : Ed} (h : Bd n g M) (he : EIn n e) (hq : 0 ≤ q) : Bd n (rlx q g e) (M + 8) := fun i hi => by
  have h1 := h i hi
  have f0 := he.f0; have fn := he.fn; have t0 := he.t0; have tn := he.tn; have l8 := he.l8
  have h2 := h e.f.toNat (by omega)
  have h3 := h e.t.toNat (by omega)
  have hw : wt q e ≤ 8 := by
    unfold wt
    rcases he.d with ⟨e1, -⟩ | e1 <;> rw [e1] <;> simp <;> omega
  unfold Bn.rlx
  split
  · unfold up1
    split
    · rename_i c; omega
    · omega
  · omega
theorem Bd.up {n : Nat} {g : Nat → Int} {M K : Int} (h : Bd n g M) (hk : M ≤ K) : Bd n g K := fun i hi => by have := h i hi; omega
theorem bf_step {q : Int} {es : List Ed} {r : Nat} {g : Nat → Int} (h : chg q es g = true) : bf q es (r + 1) g = bf q es r (pas q es g) := by
  show (if chg q es g = true then _ else _) = _
  rw [if_pos h]
theorem bf_stop {q : Int} {es : List Ed} {r : Nat} {g : Nat → Int} (h : chg q es g = false) : bf q es (r + 1) g = true := by
  show (if chg q es g = true then _ else _) = _
  rw [if_neg (by rw [h]; decide)]
set_option maxHeartbeats 8000000 in
theorem ends_any (n : Nat) (hn : n ≤ 64) (a : Option Addr) (c N : Nat) (es : List Ed) (hN : es.length = N) (q : Int) (w : World) (he : Es w a es) (hE : EL n es) (hq0 : 0 ≤ q) (hq1 : q ≤ 512) (hl : N ≤ 100000000) :
    Calls Tryd.prog 14 #[.slice a N c, .int .i64 n, .int .i64 q] w fun e w' => e = .returned (.bool (bf q es (n + 1) fun _ => 0)) ∧ Below w.heap.size w w' := by
  obtain ⟨i0, hi, hi2⟩ := Option.map_eq_some_iff.1 info3
  simp only [Prod.mk.injEq] at hi2
  obtain ⟨hz0, hz1, hz2⟩ := hi2
  have HI : Hid (Tryd.prog.info? 3 = some i0 ∧ i0.zero = some (.int .i64 0) ∧ i0.size = 1 ∧ i0.bytes = 8) := ⟨hi, hz0, hz1, hz2⟩
  have HS : Hid (Lw w (w.alloc (.cells (madeCells #[.int .i64 0] n) 3)) w.heap.size n (fun _ => 0) a es) := lw_start he
  have HE : Hid (EL n es ∧ es.length = N ∧ n ≤ 64) := ⟨hE, hN, hn⟩
  have hn' : (n : Int) ≤ 64 := by omega
  have hl' : (N : Int) ≤ 100000000 := by omega
  clear hi hz0 hz1 hz2 he hE hN hl hn
  generalize hr : bf q es (n + 1) (fun _ => 0) = R
  have HR : Hid (bf q es (n + 1) (fun _ => 0) = R) := hr
  clear hr
  go_enter Tryd.func14, Tryd.ntmps14
  go_upto_region 2 with (first
    | (at_make; refine wpList_make_row _ rfl _ _ 49 rfl 3 i0 (.int .i64 0) Tryd.underlying49 HI.out.1 HI.out.2.1 HI.out.2.2.1 rfl .i64 .i64 n rfl rfl (by rw [HI.out.2.2.2]; omega) (by omega) ?_))
  generalize w.alloc (.cells (madeCells #[.int .i64 0] n) 3) = V at *
  have HQ0 : Hid (∃ b, b = w.heap.size ∧ Lw w V b n (fun _ => 0) a es) := ⟨_, rfl, HS.out⟩
  clear HS
  obtain ⟨fb, hfb, hs0⟩ := HQ0.out
  rw [← hfb]
  have HQ1 : Hid (Lw w V fb n (fun _ => 0) a es) := hs0
  clear HQ0 hs0 hfb
  go_wp2_with fail
  go_loopw [16] (fun v wr => ∃ (k : Nat) (g : Nat → Int), k ≤ n + 1 ∧ v = .int .i64 k ∧ bf q es (n + 1 - k) g = R ∧ Bd n g (800000000 * k) ∧ Lw w wr fb n g a es) (fun v _ => n + 1 - (intOf v).toNat)
  case atStart => exact ⟨0, fun _ => 0, by omega, rfl, HR.out, fun i hi => ⟨Int.le_refl _, by show (0 : Int) ≤ 800000000 * (0 : Nat); omega⟩, HQ1.out⟩
  case round =>
    rename World => wr
    obtain ⟨k, g, hk, rfl, hbf, hbd, hs⟩ := hrel
    have HQ : Hid (Lw w wr fb n g a es) := hs
    have HB : Hid (bf q es (n + 1 - k) g = R ∧ Bd n g (800000000 * k)) := ⟨hbf, hbd⟩
    clear hs hbf hbd HQ1 HR
    by_cases hlt : k < n + 1
    · have k0 : (0 : Int) ≤ (k : Int) := by omega
      have k1 : (k : Int) < (n : Int) + 1 := by omega
      have k65 : (k : Int) ≤ 64 := by omega
      have HBf : Hid (∃ r, n + 1 - k = r + 1 ∧ n + 1 - (k + 1) = r) := ⟨n - k, by omega, by omega⟩
      have HP0 : Hid (Lw w wr fb n (pas q (es.take 0) g) a es ∧ Bd n (pas q (es.take 0) g) (800000000 * k + 8 * (0 : Nat))) := ⟨HQ.out, HB.out.2.up (by omega)⟩
      clear HQ
      go_wp2_with fail
      go_loopw [8, 20] (fun u v wz => ∃ j : Nat, j ≤ N ∧ u = .bool (!chg q (es.take j) g) ∧ v = .int .i64 j ∧ Lw w wz fb n (pas q (es.take j) g) a es ∧ Bd n (pas q (es.take j) g) (800000000 * k + 8 * j)) (fun _ v _ => N - (intOf v).toNat)
      case atStart => exact ⟨0, by omega, rfl, rfl, HP0.out⟩
      case round =>
        rename World => wz
        obtain ⟨j, hj, rfl, rfl, hs, hbd⟩ := hrel
        have HZ : Hid (Lw w wz fb n (pas q (es.take j) g) a es ∧ Bd n (pas q (es.take j) g) (800000000 * k + 8 * j)) := ⟨hs, hbd⟩
        clear hs hbd HP0
        by_cases hjt : j < N
        · have j0 : (0 : Int) ≤ (j : Int) := by omega
          have j1 : (j : Int) < (N : Int) := by omega
          have hje : j < es.length := by rw [HE.out.2.1]; exact hjt
          have hm := List.getElem_mem hje
          have e1 := HE.out.1 _ hm
          obtain ⟨eb, rfl, l1, f0, f1, f2, f3, f4⟩ := HZ.out.1.e.2 j hje
          have HNx : Hid (pas q (es.take (j + 1)) g = rlx q (pas q (es.take j) g) es[j] ∧ chg q (es.take (j + 1)) g = (chg q (es.take j) g || decide (pas q (es.take j) g es[j].t.toNat < pas q (es.take j) g es[j].f.toNat + wt q es[j])) ∧ Bd n (pas q (es.take (j + 1)) g) (800000000 * k + 8 * (j + 1 : Nat))) := by
            have h1 : pas q (es.take (j + 1)) g = rlx q (pas q (es.take j) g) es[j] := by rw [take_put hje]; exact pas_put q _ _ g
            refine ⟨h1, by rw [take_put hje]; exact chg_put q _ _ g, ?_⟩
            rw [h1]
            exact (HZ.out.2.rlx e1 hq0).up (by omega)
          have HX2 : Hid (Lw w (wz.alloc (.cells #[.int .i64 es[j].f, .int .i64 es[j].t, .int .i64 es[j].l, .int .i64 es[j].d, .int .i8 es[j].y] 51)) fb n (pas q (es.take j) g) (some ⟨eb, 0, none⟩) es ∧ At (wz.alloc (.cells #[.int .i64 es[j].f, .int .i64 es[j].t, .int .i64 es[j].l, .int .i64 es[j].d, .int .i8 es[j].y] 51)) wz.heap.size #[.int .i64 es[j].f, .int .i64 es[j].t, .int .i64 es[j].l, .int .i64 es[j].d, .int .i8 es[j].y] ∧ fb < wz.heap.size) := ⟨HZ.out.1.next ((Below.refl _ _).alloc (Nat.le_refl _) _), At.new _ _ _, HZ.out.1.m.lt⟩
          have g0 := e1.f0; have g1 := e1.fn; have g2 := e1.t0; have g3 := e1.tn; have g4 := e1.l0; have g5 := e1.l8
          have g6 : es[j].d = 0 ∨ es[j].d = 1 := by rcases e1.d with h | h; · exact .inl h.1
                                                    · exact .inr h
          have hgf := HZ.out.2 es[j].f.toNat (by omega)
          have hgt := HZ.out.2 es[j].t.toNat (by omega)
          clear hm e1
          generalize es[j] = x at *
          obtain ⟨xf, xt, xl, xd, xy⟩ := x
          dsimp only at g0 g1 g2 g3 g4 g5 g6 f0 f1 f2 f3 f4 hgf hgt
          obtain ⟨fi, rfl⟩ : ∃ fi : Nat, xf = fi := ⟨xf.toNat, by omega⟩
          obtain ⟨ti, rfl⟩ : ∃ ti : Nat, xt = ti := ⟨xt.toNat, by omega⟩
          rw [Int.toNat_natCast] at hgf hgt
          have HNx : Hid (pas q (es.take (j + 1)) g = (if pas q (es.take j) g ti < pas q (es.take j) g fi + (xl - q * xd) then up1 (pas q (es.take j) g) ti (pas q (es.take j) g fi + (xl - q * xd)) else pas q (es.take j) g) ∧ chg q (es.take (j + 1)) g = (chg q (es.take j) g || decide (pas q (es.take j) g ti < pas q (es.take j) g fi + (xl - q * xd))) ∧ Bd n (pas q (es.take (j + 1)) g) (800000000 * k + 8 * (j + 1 : Nat))) := HNx.out
          generalize pas q (es.take j) g = G at *
          generalize chg q (es.take j) g = ch at *
          rcases g6 with rfl | rfl
          · have hwv : G fi + (xl - q * 0) = G fi + xl := by omega
            rw [hwv] at HNx
            go_upto_region 8 with fail
            have HX : Hid (Lw w (wz.alloc (.cells #[.int .i64 (fi : Int), .int .i64 (ti : Int), .int .i64 xl, .int .i64 0, .int .i8 xy] 51)) fb n G (some ⟨eb, 0, none⟩) es ∧ At (wz.alloc (.cells #[.int .i64 (fi : Int), .int .i64 (ti : Int), .int .i64 xl, .int .i64 0, .int .i8 xy] 51)) wz.heap.size #[.int .i64 (fi : Int), .int .i64 (ti : Int), .int .i64 xl, .int .i64 0, .int .i8 xy] ∧ fb < wz.heap.size) := HX2.out
            clear HX2
            generalize (wz.alloc (.cells #[.int .i64 (fi : Int), .int .i64 (ti : Int), .int .i64 xl, .int .i64 0, .int .i8 xy] 51)) = X at *
            have obn : ¬ wz.heap.size = fb := by have := HX.out.2.2; omega
            have obn' : ¬ fb = wz.heap.size := fun e => obn e.symm
            generalize wz.heap.size = ob at *
            clear HZ f0 f1 f2 f3 f4 l1 hwv
            have HXd : Hid (∀ m, Lw w (X.drewN m) fb n G (some ⟨eb, 0, none⟩) es) := fun m => HX.out.1.next ((So.Fr.refl So.Non X).drewN m).non
            have s2 := HX.out.2.1
            have o0 := s2.c 0 _ rfl
            have o1 := s2.c 1 _ rfl
            have o2 := s2.c 2 _ rfl
            have o3 := s2.c 3 _ rfl
            have ol := s2.lt
            have cf := HX.out.1.m.c fi (by omega)
            have ct := HX.out.1.m.c ti (by omega)
            have zt := HX.out.1.m.f ti
            have hl := HX.out.1.m.lt
            have hfi : (fi : Int) < (n : Int) := g1
            have hti : (ti : Int) < (n : Int) := g3
            clear s2
            by_cases hc : G ti < G fi + xl
            · have HN1 : Hid (pas q (es.take (j + 1)) g = up1 G ti (G fi + xl) ∧ chg q (es.take (j + 1)) g = true ∧ Bd n (pas q (es.take (j + 1)) g) (800000000 * k + 8 * (j + 1 : Nat))) := by
                have h := HNx.out
                rw [if_pos hc] at h
                exact ⟨h.1, by rw [h.2.1]; simp [hc], h.2.2⟩
              have HSet : Hid (∀ m, Lw w ((X.drewN m).setCell ⟨fb, ti, none⟩ (.int .i64 (G fi + xl))) fb n (up1 G ti (G fi + xl)) (some ⟨eb, 0, none⟩) es) := fun m => (HXd.out m).set (by omega) _
              generalize G fi = gf at *
              generalize G ti = gt at *
              go_quiet (fail)
              go_wp2_with fail
              go_roundw
              case rel => exact ⟨j + 1, by omega, by rw [HN1.out.2.1]; rfl, by go_num, by rw [HN1.out.1]; exact HSet.out _, HN1.out.2.2⟩
              case measure => simp [intOf]; omega
            · have HN1 : Hid (pas q (es.take (j + 1)) g = G ∧ chg q (es.take (j + 1)) g = ch ∧ Bd n (pas q (es.take (j + 1)) g) (800000000 * k + 8 * (j + 1 : Nat))) := by
                have h := HNx.out
                rw [if_neg hc] at h
                exact ⟨h.1, by rw [h.2.1]; simp [hc], h.2.2⟩
              generalize hgfe : G fi = gf at *
              generalize hgte : G ti = gt at *
              go_quiet (fail)
              go_wp2_with fail
              go_roundw
              case rel => exact ⟨j + 1, by omega, by rw [HN1.out.2.1], by go_num, by rw [HN1.out.1]; exact HXd.out _, HN1.out.2.2⟩
              case measure => simp [intOf]; omega
          · have hwv : G fi + (xl - q * 1) = G fi + xl - q := by omega
            rw [hwv] at HNx
            go_upto_region 8 with fail
            have HX : Hid (Lw w (wz.alloc (.cells #[.int .i64 (fi : Int), .int .i64 (ti : Int), .int .i64 xl, .int .i64 1, .int .i8 xy] 51)) fb n G (some ⟨eb, 0, none⟩) es ∧ At (wz.alloc (.cells #[.int .i64 (fi : Int), .int .i64 (ti : Int), .int .i64 xl, .int .i64 1, .int .i8 xy] 51)) wz.heap.size #[.int .i64 (fi : Int), .int .i64 (ti : Int), .int .i64 xl, .int .i64 1, .int .i8 xy] ∧ fb < wz.heap.size) := HX2.out
            clear HX2
            generalize (wz.alloc (.cells #[.int .i64 (fi : Int), .int .i64 (ti : Int), .int .i64 xl, .int .i64 1, .int .i8 xy] 51)) = X at *
            have obn : ¬ wz.heap.size = fb := by have := HX.out.2.2; omega
            have obn' : ¬ fb = wz.heap.size := fun e => obn e.symm
            generalize wz.heap.size = ob at *
            clear HZ f0 f1 f2 f3 f4 l1 hwv
            have HXd : Hid (∀ m, Lw w (X.drewN m) fb n G (some ⟨eb, 0, none⟩) es) := fun m => HX.out.1.next ((So.Fr.refl So.Non X).drewN m).non
            have s2 := HX.out.2.1
            have o0 := s2.c 0 _ rfl
            have o1 := s2.c 1 _ rfl
            have o2 := s2.c 2 _ rfl
            have o3 := s2.c 3 _ rfl
            have ol := s2.lt
            have cf := HX.out.1.m.c fi (by omega)
            have ct := HX.out.1.m.c ti (by omega)
            have zt := HX.out.1.m.f ti
            have hl := HX.out.1.m.lt
            have hfi : (fi : Int) < (n : Int) := g1
            have hti : (ti : Int) < (n : Int) := g3
            clear s2
            by_cases hc : G ti < G fi + xl - q
            · have HN1 : Hid (pas q (es.take (j + 1)) g = up1 G ti (G fi + xl - q) ∧ chg q (es.take (j + 1)) g = true ∧ Bd n (pas q (es.take (j + 1)) g) (800000000 * k + 8 * (j + 1 : Nat))) := by
                have h := HNx.out
                rw [if_pos hc] at h
                exact ⟨h.1, by rw [h.2.1]; simp [hc], h.2.2⟩
              have HSet : Hid (∀ m, Lw w ((X.drewN m).setCell ⟨fb, ti, none⟩ (.int .i64 (G fi + xl - q))) fb n (up1 G ti (G fi + xl - q)) (some ⟨eb, 0, none⟩) es) := fun m => (HXd.out m).set (by omega) _
              generalize G fi = gf at *
              generalize G ti = gt at *
              go_quiet (fail)
              go_wp2_with fail
              go_roundw
              case rel => exact ⟨j + 1, by omega, by rw [HN1.out.2.1]; rfl, by go_num, by rw [HN1.out.1]; exact HSet.out _, HN1.out.2.2⟩
              case measure => simp [intOf]; omega
            · have HN1 : Hid (pas q (es.take (j + 1)) g = G ∧ chg q (es.take (j + 1)) g = ch ∧ Bd n (pas q (es.take (j + 1)) g) (800000000 * k + 8 * (j + 1 : Nat))) := by
                have h := HNx.out
                rw [if_neg hc] at h
                exact ⟨h.1, by rw [h.2.1]; simp [hc], h.2.2⟩
              generalize hgfe : G fi = gf at *
              generalize hgte : G ti = gt at *
              go_quiet (fail)
              go_wp2_with fail
              go_roundw
              case rel => exact ⟨j + 1, by omega, by rw [HN1.out.2.1], by go_num, by rw [HN1.out.1]; exact HXd.out _, HN1.out.2.2⟩
              case measure => simp [intOf]; omega
        · obtain rfl : j = N := by omega
          have j1 : ¬ (j : Int) < (j : Int) := by omega
          have htk : es.take j = es := List.take_of_length_le (by rw [HE.out.2.1]; omega)
          rw [htk] at HZ
          rw [htk]
          clear htk
          cases hch : chg q es g
          · have HRes : Hid (R = true) := by
              obtain ⟨r, h1, h2⟩ := HBf.out
              have h := HB.out.1
              rw [h1, bf_stop hch] at h
              exact h.symm
            go_wp2_with fail
            go_ret
            exact ⟨by rw [HRes.out]; rfl, HZ.out.1.up⟩
          · have HNb : Hid (bf q es (n + 1 - (k + 1)) (pas q es g) = R) := by
              obtain ⟨r, h1, h2⟩ := HBf.out
              have h := HB.out.1
              rw [h1, bf_step hch] at h
              show bf q es (n + 1 - (k + 1)) (pas q es g) = R
              rw [h2]; exact h
            go_wp2_with fail
            go_roundw
            case rel => exact ⟨k + 1, pas q es g, by omega, by go_num, HNb.out, HZ.out.2.up (by omega), HZ.out.1⟩
            case measure => simp [intOf]; omega
    · obtain rfl : k = n + 1 := by omega
      have k1 : ¬ ((n + 1 : Nat) : Int) < (n : Int) + 1 := by omega
      have HRes : Hid (R = false) := by
        have h := HB.out.1
        rw [Nat.sub_self] at h
        exact h.symm
      go_wp2_with fail
      go_ret
      exact ⟨by rw [HRes.out]; rfl, HQ.out.up⟩
end Go.Proofs.YthdpgimdakmdgaaDoor.Bn
