/- RoundsEach, as the call of the statement walks it: each operation of each round is met once. Conditions: the plan lies in memory. -/
import Derived.Test.YtnfnjhaaaenldaaLt
namespace Go.Proofs.Ytnfnjhaaaenldaa.Ro
open Go.ChangeShapes Go.WideShapes Go.ChangeAt Go.RowKit
open _root_.Go.Proofs.Ytnfnjhaaaenldaa.Op _root_.Go.Proofs.Ytnfnjhaaaenldaa.So
open _root_.Go.Proofs.Ytnfnjhaaaenldaa.Sp (Pr)
set_option maxRecDepth 20000

theorem tmod40 (c : Int) : Int.tmod (Int.tmod c 40 + 40) 40 = c % 40 := by
  have h1 := Int.lt_tmod_of_pos c (show (0 : Int) < 40 by decide)
  have e1 : Int.tmod c 40 = c - 40 * Int.tdiv c 40 := by have := Int.mul_tdiv_add_tmod c 40; omega
  rw [Int.tmod_eq_emod_of_nonneg (by omega), e1, show c - 40 * Int.tdiv c 40 + 40 = c + 40 * (1 - Int.tdiv c 40) by rw [Int.mul_sub, Int.mul_one]; omega, Int.add_mul_emod_self_left]
/-- How many are met in the first k cycles. -/
def smN (f : Nat → Nat) : Nat → Nat
  | 0 => 0
  | k + 1 => smN f k + f k
theorem smN_same {f g : Nat → Nat} : ∀ {k : Nat}, (∀ c, c < k → f c = g c) → smN f k = smN g k
  | 0, _ => rfl
  | k + 1, h => by
    show smN f k + f k = smN g k + g k
    rw [smN_same (k := k) fun c hc => h c (by omega), h k (by omega)]
theorem smN_one {f : Nat → Nat} {d : Nat} : ∀ {k : Nat}, smN (fun c => if c = d then f c + 1 else f c) k = smN f k + if d < k then 1 else 0
  | 0 => by rw [if_neg (by omega)]; rfl
  | k + 1 => by
    show smN _ k + (if k = d then f k + 1 else f k) = smN f k + f k + _
    rw [smN_one (k := k)]
    by_cases h : k = d
    · rw [if_pos h, if_neg (by omega), if_pos (by omega)]; omega
    · by_cases h2 : d < k
      · rw [if_neg h, if_pos h2, if_pos (by omega)]; omega
      · rw [if_neg h, if_neg h2, if_neg (by omega)]; omega
theorem smN_rows {E : Int} {cy : Nat → Int} {N : Nat} : ∀ {ev : List Pr}, (∀ x ∈ ev, ∃ c : Nat, c < N ∧ x.2 * E + cy x.1.toNat = (c : Int)) → smN (fun c => (rowP E cy ev c).length) N = ev.length
  | [], _ => by
    have : ∀ k, smN (fun c => (rowP E cy [] c).length) k = 0 := fun k => by
      induction k with
      | zero => rfl
      | succ k ih => show smN _ k + 0 = 0; rw [ih]
    exact this N
  | x :: ev, h => by
    obtain ⟨d, hd, e⟩ := h x List.mem_cons_self
    have h1 := smN_rows (ev := ev) fun y hy => h y (List.mem_cons_of_mem _ hy)
    have h2 : smN (fun c => (rowP E cy (x :: ev) c).length) N = smN (fun c => if c = d then (rowP E cy ev c).length + 1 else (rowP E cy ev c).length) N := smN_same fun c _ => by
      unfold rowP
      rw [List.filter_cons]
      by_cases hc : c = d
      · have : atc E cy c x = true := decide_eq_true (by omega)
        rw [if_pos this, if_pos hc]; rfl
      · have : atc E cy c x = false := decide_eq_false (by omega)
        rw [this, if_neg hc]; rfl
    rw [h2, smN_one, h1, if_pos hd]; rfl
theorem each_all {L : Nat} {E S : Int} {cy : Nat → Int} {n N : Nat} (hF : Fair L E S cy) (hN : (N : Int) = ((n : Int) - 1 + S) * E) : smN (fun c => (rowP E cy (evR L n) c).length) N = n * L := by
  rw [smN_rows fun x hx => ?_, evR_len]
  obtain ⟨i, r, hi, hr, rfl⟩ := mem_evR.1 hx
  obtain ⟨-, h1, h2⟩ := cyc_lt hF.e1 hr (hF.c0 i hi) (hF.c2 i hi)
  refine ⟨((r : Int) * E + cy i).toNat, by omega, ?_⟩
  show (r : Int) * E + cy (Int.toNat (i : Int)) = _
  rw [Int.toNat_natCast]
  omega
theorem smN_mono (f : Nat → Nat) : ∀ {k N : Nat}, k ≤ N → smN f k ≤ smN f N
  | k, 0, h => by obtain rfl : k = 0 := by omega
                  exact Nat.le_refl _
  | k, N + 1, h => by
    by_cases e : k = N + 1
    · subst e; exact Nat.le_refl _
    · exact Nat.le_trans (smN_mono f (show k ≤ N by omega)) (Nat.le_add_right _ _)
set_option maxHeartbeats 16000000 in
theorem law_each (E S : Int) (pa : Option Addr) (L pc : Nat) (cy : Nat → Int) (n : Int) (w : World) (hA : Nl w w.heap.size pa L cy) (hL : L ≤ 100000000000000) (_hn1 : -9223372036854775808 ≤ n) (_hn2 : n ≤ 9223372036854775807) :
    Calls Try.prog 5 #[.agg #[.int .i64 E, .slice pa L pc, .int .i64 S], .int .i64 n] w fun e w' => e = .returned (.bool true) ∧ Below w.heap.size w w' := by
  have HU : Hid (Below w.heap.size w (w.alloc (.cells #[.int .i64 E, .slice pa L pc, .int .i64 S] 24))) := (Below.refl _ _).alloc (Nat.le_refl _) _
  have HB : Hid (At (w.alloc (.cells #[.int .i64 E, .slice pa L pc, .int .i64 S] 24)) w.heap.size #[.int .i64 E, .slice pa L pc, .int .i64 S]) := At.new _ _ _
  have t0 := Int.lt_tmod_of_pos n (show (0 : Int) < 40 by decide)
  have t1 := Int.tmod_lt_of_pos n (show (0 : Int) < 40 by decide)
  have t2 := tmod40 n
  have t3 : 0 ≤ n % 40 := by omega
  have t4 : n % 40 < 40 := by omega
  obtain ⟨m, hm⟩ : ∃ m : Nat, n % 40 = (m : Int) := ⟨(n % 40).toNat, by omega⟩
  have t5 : (Int.tmod n 40 + 40) % 40 = (m : Int) := by rw [← Int.tmod_eq_emod_of_nonneg (by omega), t2, hm]
  rw [hm] at t2
  have HC : Hid (∀ W, Below w.heap.size w W → Calls Try.prog 6 #[.agg #[.int .i64 E, .slice pa L pc, .int .i64 S], .int .i64 (m : Int)] W (WhOut W L E S cy (m : Int))) := fun W hW => whole_any E S pa L pc cy (m : Int) W (hA.up hW) (by omega) (by omega)
  have HN : Hid (∀ W, Below w.heap.size w W → Nl W W.heap.size pa L cy) := fun W hW => hA.up hW
  have hm40 : m < 40 := by omega
  have hm41 : (m : Int) < 40 := by omega
  generalize ht : Int.tmod n 40 = t at *
  clear hA t3 t4 hm
  by_cases he : whE L E S cy (m : Int) = 0
  · obtain ⟨f1, -, f3⟩ := whE_parts he
    have hF := frB_fair f1
    have HF : Hid (Fair L E S cy) := hF
    have e1 := hF.e1
    have e2 := hF.e2
    have hl := hF.l
    have HE : Hid (whE L E S cy (m : Int) = 0) := he
    have HW : Hid (whN L E S cy (m : Int) ≤ 1000000000 ∧ smN (fun c => (rowP E cy (evR L m) c).length) (whN L E S cy (m : Int)) = m * L) := by
      refine ⟨(wh_small L E S cy (m : Int)).1, ?_⟩
      by_cases h0 : m = 0
      · subst h0
        rw [whN_0 (n := ((0 : Nat) : Int)) rfl, Nat.zero_mul]; rfl
      · exact each_all hF (whN_some he (by omega) hF.s1 hF.e1)
    have htl : m * L ≤ 40 * 64 := Nat.mul_le_mul (by omega) hl
    have hml : (m : Int) * (L : Int) = ((m * L : Nat) : Int) := by rw [Int.natCast_mul]
    generalize hT : m * L = T at *
    clear hT
    have hcc : (WhOut : World → Nat → Int → Int → (Nat → Int) → Int → Ending → World → Prop) = WhOut := rfl
    clear hcc
    go_enter Try.func5, Try.ntmps5
    go_upto_region 1 with fail
    generalize hV : w.alloc (.cells #[.int .i64 E, .slice pa L pc, .int .i64 S] 24) = V at *
    clear hV
    have c0 : V.cell? ⟨w.heap.size, 0, none⟩ = some (.int .i64 E) := HB.out.c 0 _ rfl
    have c1 : V.cell? ⟨w.heap.size, 1, none⟩ = some (.slice pa L pc) := HB.out.c 1 _ rfl
    have c2 : V.cell? ⟨w.heap.size, 2, none⟩ = some (.int .i64 S) := HB.out.c 2 _ rfl
    have cl := HB.out.lt
    go_upto_region 3 with (first
      | (go_at_call 6; refine Calls.mono (HC.out _ HU.out) ?_; rintro e w1 ⟨v1, rfl, hb, hr⟩; rw [HE.out]; rw [Int.toNat_natCast] at hr; have H1 : Hid (Below w.heap.size w w1 ∧ At w1 w.heap.size #[.int .i64 E, .slice pa L pc, .int .i64 S] ∧ Rd w1 v1 (whN L E S cy (m : Int)) (rowP E cy (evR L m))) := ⟨HU.out.trans (hb.mono HU.out.size), HB.out.below hb HB.out.lt, hr⟩; clear hb hr c0 c1 c2 cl HC HU HB))
    generalize whN L E S cy (m : Int) = N at *
    obtain ⟨a, cap, rfl, -, hd⟩ := H1.out.2.2.is
    have HD : Hid (0 < N → ∃ b o, a = some ⟨b, o, none⟩ ∧ b < w1.heap.size ∧ ∀ c, c < N → ∃ u, w1.cell? ⟨b, o + c, none⟩ = some u ∧ Sl w1 u (rowP E cy (evR L m) c)) := hd
    have hN : (N : Int) ≤ 1000000000 := by have := HW.out.1; omega
    have HM : Hid (∀ k, k ≤ N → smN (fun c => (rowP E cy (evR L m) c).length) k ≤ T) := fun k hk => by
      have := smN_mono (fun c => (rowP E cy (evR L m) c).length) hk
      rw [HW.out.2] at this
      exact this
    clear hd
    go_wp2_with fail
    go_loopw [7, 32] (fun u v wr => ∃ k : Nat, k ≤ N ∧ v = .int .i64 k ∧ u = .int .i64 ((smN (fun c => (rowP E cy (evR L m) c).length) k : Nat) : Int) ∧ Below w1.heap.size w1 wr) (fun _ v _ => N - (intOf v).toNat)
    case atStart => exact ⟨0, by omega, rfl, rfl, Below.refl _ _⟩
    case round =>
      rename World => wr
      obtain ⟨k, hk, rfl, rfl, hq⟩ := hrel
      have HQ : Hid (Below w1.heap.size w1 wr) := hq
      clear hq
      by_cases hlt : k < N
      · have k0 : (0 : Int) ≤ (k : Int) := by omega
        have k1 : (k : Int) < (N : Int) := by omega
        obtain ⟨b, o, rfl, hb, hc⟩ := HD.out (by omega)
        obtain ⟨u, hu, hs⟩ := hc k hlt
        have HSm : Hid (smN (fun c => (rowP E cy (evR L m) c).length) (k + 1) = smN (fun c => (rowP E cy (evR L m) c).length) k + (rowP E cy (evR L m) k).length) := rfl
        have hM2 := HM.out (k + 1) (by omega)
        rw [HSm.out] at hM2
        have HX : Hid (∀ x ∈ rowP E cy (evR L m) k, ∃ i r : Nat, i < L ∧ r < m ∧ x = ((i : Int), (r : Int)) ∧ (r : Int) * E + cy i = k) := fun x hx => mem_rowR.1 hx
        generalize hrow : rowP E cy (evR L m) k = l at *
        obtain ⟨ua, uc, rfl, hul⟩ := hs.is
        obtain ⟨M, hM⟩ : ∃ M, l.length = M := ⟨_, rfl⟩
        have HLM : Hid (l.length = M) := hM
        rw [hM] at hu hM2 HSm
        have q1 : wr.cell? ⟨b, o + k, none⟩ = some (.slice ua M uc) := by rw [(bcell HQ.out).1 _ _ hb]; exact hu
        have HP : Hid (0 < M → ∃ p, ua = some ⟨p, 0, none⟩ ∧ ∀ W, Below w1.heap.size w1 W → ∀ (j : Nat) x, l[j]? = some x → W.cell? ⟨p, j * 2, none⟩ = some (.int .i64 x.1) ∧ W.cell? ⟨p, j * 2 + 1, none⟩ = some (.int .i64 x.2)) := fun h0 => by
          obtain ⟨p, e, hp, hc⟩ := hul (by omega)
          refine ⟨p, e, fun W hW j x hx => ?_⟩
          rw [(bcell hW).1 _ _ hp, (bcell hW).1 _ _ hp]
          exact hc j x hx
        generalize smN (fun c => (rowP E cy (evR L m) c).length) k = s0 at *
        have hM3 : (s0 : Int) + (M : Int) ≤ 2560 := by omega
        clear hc hs hul hu hrow hM
        go_wp2_with fail
        clear q1
        go_loopw [7, 39] (fun u v wz => ∃ j : Nat, j ≤ M ∧ v = .int .i64 j ∧ u = .int .i64 ((s0 : Int) + (j : Int)) ∧ Below w1.heap.size w1 wz) (fun _ v _ => M - (intOf v).toNat)
        case atStart => exact ⟨0, by omega, rfl, by simp, HQ.out⟩
        case round =>
          rename World => wz
          obtain ⟨j, hj, rfl, rfl, hz⟩ := hrel
          have HZ : Hid (Below w1.heap.size w1 wz) := hz
          clear hz HQ
          by_cases hjm : j < M
          · have j0 : (0 : Int) ≤ (j : Int) := by omega
            have j1 : (j : Int) < (M : Int) := by omega
            obtain ⟨p, rfl, hp⟩ := HP.out (by omega)
            have hjl : j < l.length := by rw [HLM.out]; exact hjm
            obtain ⟨i, r, hi, hr, hx, hce⟩ := HX.out l[j] (List.getElem_mem hjl)
            obtain ⟨z1, z2⟩ := hp wz HZ.out j l[j] (List.getElem?_eq_getElem hjl)
            rw [hx] at z1 z2
            have HY : Hid (Below w1.heap.size w1 (wz.alloc (.cells #[.int .i64 (i : Int), .int .i64 (r : Int)] 37))) := HZ.out.alloc (HZ.out.size) _
            have HA2 : Hid (At (wz.alloc (.cells #[.int .i64 (i : Int), .int .i64 (r : Int)] 37)) wz.heap.size #[.int .i64 (i : Int), .int .i64 (r : Int)]) := At.new _ _ _
            clear hx hp
            go_upto_region 12 with fail
            generalize hY : wz.alloc (.cells #[.int .i64 (i : Int), .int .i64 (r : Int)] 37) = Y at *
            clear hY z1 z2
            have y0 : Y.cell? ⟨wz.heap.size, 0, none⟩ = some (.int .i64 (i : Int)) := HA2.out.c 0 _ rfl
            have y1 : Y.cell? ⟨wz.heap.size, 1, none⟩ = some (.int .i64 (r : Int)) := HA2.out.c 1 _ rfl
            have yl := HA2.out.lt
            have HB3 := H1.out.2.1.below HY.out H1.out.2.1.lt
            have c0 : Y.cell? ⟨w.heap.size, 0, none⟩ = some (.int .i64 E) := HB3.c 0 _ rfl
            have c1 : Y.cell? ⟨w.heap.size, 1, none⟩ = some (.slice pa L pc) := HB3.c 1 _ rfl
            have c2 : Y.cell? ⟨w.heap.size, 2, none⟩ = some (.int .i64 S) := HB3.c 2 _ rfl
            have cl := HB3.lt
            obtain ⟨pb, pf, rfl, -, px⟩ := (HN.out Y (H1.out.1.trans (HY.out.mono H1.out.1.size))).is (by omega)
            have q2 := px i hi
            obtain ⟨m0, m3⟩ := mul_small (a := (r : Int)) (b := E) (by omega) (by omega) (by omega) (by omega)
            have g1 : ¬ (i : Int) < 0 := by omega
            have g2 : (i : Int) < (L : Int) := by omega
            have g3 : ¬ (r : Int) < 0 := by omega
            have g4 : (r : Int) < (m : Int) := by omega
            have g5 : (0 : Int) ≤ (i : Int) := by omega
            have g6 : decide ((i : Int) < 0) = false := decide_eq_false g1
            have g7 : decide ((i : Int) ≥ (L : Int)) = false := decide_eq_false (by omega)
            have g8 : decide ((r : Int) < 0) = false := decide_eq_false g3
            have g9 : decide ((r : Int) ≥ (m : Int)) = false := decide_eq_false (by omega)
            have hcy : cy i ≤ 65536 ∧ 0 ≤ cy i := ⟨HF.out.c1 i hi, HF.out.c0 i hi⟩
            obtain ⟨hcy1, hcy2⟩ := hcy
            clear px HB3
            generalize cy i = zc at *
            generalize hrE : (r : Int) * E = re at *
            have ga : decide (L ≤ i) = false := decide_eq_false (by omega)
            have gb : decide (m ≤ r) = false := decide_eq_false (by omega)
            have gc : IntKind.i64.wrap re = re := by rw [IntKind.wrap_i64]; omega
            have gd : IntKind.i64.wrap (re + zc) = (k : Int) := by rw [IntKind.wrap_i64]; omega
            go_quiet (fail)
            have HZ2 : Hid (Below w1.heap.size w1 (Y.drewN nq)) := HY.out.trans ⟨rfl, rfl, rfl, by simp, fun _ _ => rfl⟩
            clear y0 y1 yl c0 c1 c2 cl q2 HY HA2 HZ
            generalize Y.drewN nq = Z at *
            go_wp2_with fail
            go_roundw
            case rel => exact ⟨j + 1, by omega, by go_num, by first | go_num | (congr 1; omega), HZ2.out⟩
            case measure => simp [intOf]; omega
          · obtain rfl : j = M := by omega
            have j1 : ¬ (j : Int) < (j : Int) := by omega
            go_wp2_with fail
            go_roundw
            case rel => exact ⟨k + 1, by omega, by go_num, by rw [HSm.out]; first | rfl | (congr 1), HZ.out⟩
            case measure => simp [intOf]; omega
      · obtain rfl : k = N := by omega
        have k1 : ¬ (k : Int) < (k : Int) := by omega
        have hsm := HW.out.2
        rw [hsm]
        have HB3 := H1.out.2.1.below HQ.out H1.out.2.1.lt
        have c1 : wr.cell? ⟨w.heap.size, 1, none⟩ = some (.slice pa L pc) := HB3.c 1 _ rfl
        have cl := HB3.lt
        clear HB3 hsm
        go_wp2_with (first
          | (go_at_call 11; refine Calls.mono (wakes_any _) ?_; rintro e w9 ⟨rfl, hb⟩; have B9 : Hid (Below w.heap.size w w9) := (H1.out.1.trans (HQ.out.mono H1.out.1.size)).trans (hb.mono (Nat.le_trans H1.out.1.size HQ.out.size)); clear hb))
        go_ret
        exact ⟨rfl, B9.out⟩
  · have HE : Hid (¬ whE L E S cy (m : Int) = 0 ∧ whN L E S cy (m : Int) = 0) := ⟨he, if_neg fun h => he h.1⟩
    obtain ⟨x, hx⟩ : ∃ x, whE L E S cy (m : Int) = x := ⟨_, rfl⟩
    have HX : Hid (whE L E S cy (m : Int) = x) := hx
    rw [hx] at he
    have hx2 : (x == 0) = false := by simpa using he
    clear hx
    go_enter Try.func5, Try.ntmps5
    go_upto_region 1 with fail
    generalize hV : w.alloc (.cells #[.int .i64 E, .slice pa L pc, .int .i64 S] 24) = V at *
    clear hV
    have c0 : V.cell? ⟨w.heap.size, 0, none⟩ = some (.int .i64 E) := HB.out.c 0 _ rfl
    have c1 : V.cell? ⟨w.heap.size, 1, none⟩ = some (.slice pa L pc) := HB.out.c 1 _ rfl
    have c2 : V.cell? ⟨w.heap.size, 2, none⟩ = some (.int .i64 S) := HB.out.c 2 _ rfl
    have cl := HB.out.lt
    go_upto_region 3 with (first
      | (go_at_call 6; refine Calls.mono (HC.out _ HU.out) ?_; rintro e w1 ⟨v1, rfl, hb, hr⟩; rw [HX.out]; rw [HE.out.2] at hr; have H1 : Hid (Below w.heap.size w w1) := HU.out.trans (hb.mono HU.out.size); obtain ⟨a, cap, rfl, -, -⟩ := hr.is; clear hb hr c0 c1 c2 cl HC HU HB))
    go_wp2_with (first
      | (go_at_call 11; refine Calls.mono (wakes_any _) ?_; rintro e w9 ⟨rfl, hb⟩; have B9 : Hid (Below w.heap.size w w9) := H1.out.trans (hb.mono H1.out.size); clear hb))
    go_ret
    exact ⟨rfl, B9.out⟩
end Go.Proofs.Ytnfnjhaaaenldaa.Ro
