/- The plan whose rounds do not overlap is always right: plain mathematics. Conditions: said at each. ModuloThere over the program: the plan whose rounds do not overlap is always right. Conditions: the list lies in memory, the variables as the program lays them. -/
import Derived.Test.YteccifanbgcakaaGreatDoorM39
import Derived.Test.YteccifanbgcakaaGreatDoorM40
namespace Go.Proofs.YteccifanbgcakaaGreatDoor.Mo
open Go.ChangeShapes Go.WideShapes Go.ChangeAt Go.RowKit
open _root_.Go.Proofs.YteccifanbgcakaaGreatDoor.Op _root_.Go.Proofs.YteccifanbgcakaaGreatDoor.So _root_.Go.Proofs.YteccifanbgcakaaGreatDoor.Dp _root_.Go.Proofs.YteccifanbgcakaaGreatDoor.Bn
open _root_.Go.Proofs.YteccifanbgcakaaGreatDoor.Ls (clN clN_at clN_lt Nl arC arC_all arC_yes arC_no areCycles_any)
open _root_.Go.Proofs.YteccifanbgcakaaGreatDoor.Rv (RAt Few frB tkF tk_few take_any evOk NwOut ring_ok tn addK)
open _root_.Go.Proofs.YteccifanbgcakaaGreatDoor.Tb (Tab TabAt Bnds)
set_option maxRecDepth 20000

open _root_.Go.Proofs.YteccifanbgcakaaGreatDoor.Ls (cyL cyL_is hvU sysL clV_D eg)
theorem lat_cls {t : Tab} {xs : List O} (hok : ∀ o ∈ xs, okL o = true) {i : Nat} (hi : i < xs.length) : latN t xs i = t.l (clN xs i) := by
  rw [latN_at t hi, latV_class t (hok _ (List.getElem_mem hi)), (clV_D (hok _ (List.getElem_mem hi))).1, clN_at hi, Int.toNat_natCast]
theorem su_busy (t : Tab) (xs : List O) (es : List Ed) {g : Nat → Int} {D : Int} {c : Nat} (hc : c < 4) (z : Int) : ∀ {n : Nat}, (∀ k, k < n → 0 ≤ g k ∧ (clN xs k = c → g k + (t.b c).toNat ≤ D)) → su (fun a => if clN xs a = c then rg D (g a) z (t.b c).toNat else 0) n = ListWay.cnt (ListWay.bsy (sysL t xs es) g c z) n
  | 0, _ => rfl
  | n + 1, h => by
    have ih := su_busy t xs es hc z (n := n) fun k hk => h k (by omega)
    obtain ⟨h0, h1⟩ := h n (by omega)
    unfold su ListWay.cnt
    rw [ih]
    congr 1
    have hb : (sysL t xs es).b c = (t.b c).toNat := by show (if c < 4 then _ else _) = _; rw [if_pos hc]
    unfold ListWay.bsy
    show (if clN xs n = c then rg D (g n) z (t.b c).toNat else 0) = if (decide (clN xs n = c) && (decide (0 ≤ g n) && (decide (g n ≤ z) && decide (z < g n + (sysL t xs es).b c)))) = true then 1 else 0
    rw [hb]
    by_cases e : clN xs n = c
    · rw [if_pos e, rg_row h0 (h1 e)]
      by_cases q : g n ≤ z ∧ z < g n + (t.b c).toNat
      · rw [if_pos q, if_pos (by simp only [Bool.and_eq_true, decide_eq_true_eq]; exact ⟨e, h0, q⟩)]
      · rw [if_neg q, if_neg (by simp only [Bool.and_eq_true, decide_eq_true_eq]; exact fun hh => q hh.2.2)]
    · rw [if_neg e, if_neg (by simp [e])]
theorem there_ok {w : World} {ao : Option Addr} {xs : List O} {t : Tab} (h : OpsAt w ao xs) (he : rgE t xs = 0) : mcB t xs xs.length (cyL t xs) (drn t xs (cyL t xs) xs.length) 1 = true := by
  obtain ⟨ht, hn, hl, hu⟩ := rg_ok he
  obtain ⟨hok, hd1, hd2, hcr⟩ := body_ok h he
  obtain ⟨hv, hu3⟩ := hu_hv hu
  have hti := (tab_in ht).2
  have htd := (tab_in ht).1
  have hall := (lis_all hl).2.2
  obtain ⟨q1, q2, q3, -⟩ := cyL_is h.ok hl hv
  have hdl : ∀ i, i < xs.length → cyL t xs i + t.l (clN xs i) ≤ drn t xs (cyL t xs) xs.length ∧ cyL t xs i + t.b (clN xs i) ≤ drn t xs (cyL t xs) xs.length := fun i hi => drn_at hi
  generalize hD : drn t xs (cyL t xs) xs.length = D at *
  have hm : mxN (cyL t xs) xs.length ≤ D - 1 := mxN_le (by omega) fun k hk => by have := (hdl k hk).1; have := (hti _ (clN_lt xs k)).2.1; omega
  have hst : (1 : Int) = stg xs.length (cyL t xs) D := by
    unfold stg
    rw [Int.ediv_eq_zero_of_lt (mxN_ge _ _) (by omega)]
    rfl
  have har : arC xs.length (cyL t xs) = true := (arC_yes fun k hk => hok.g k hk).symm
  have hkp : kpB (loopE t xs) (cyL t xs) D = true := kpB_iff.2 (drained_kept (pts_ok t xs (fun o ho => ⟨h.ok o ho, okL_okO (hall o ho)⟩) ht) hall (fun e hm => q2 (eg e) (List.mem_map_of_mem hm)) (fun i hi => (q1 i hi).1) fun i hi => by rw [lat_cls hall hi]; exact (hdl i hi).1)
  have hku : kuB t xs (cyL t xs) D = true := by
    refine (kuB_iff (by omega) (by omega) fun c hc => (hti c hc).1.1).2 fun c z hc => ?_
    rw [toF_su]
    have hsb := su_busy t xs (ofE t xs) (g := cyL t xs) (D := D) hc z (n := xs.length) fun k hk => ⟨(q1 k hk).1, fun e => by
      have := (hdl k hk).2
      rw [e] at this
      have := (hti c hc).2.2.1
      omega⟩
    have h0 := (hti c hc).1.1
    have hs : su (fun a => if clN xs a = c then rg D (cyL t xs a) z (t.b c).toNat else 0) xs.length ≤ (t.u c).toNat := by
      by_cases ex : ∃ i, i < xs.length ∧ clN xs i = c
      · obtain ⟨i, hi, e⟩ := ex
        have := q3 i hi z
        rw [e] at this
        rw [hsb]
        exact this
      · have : su (fun a => if clN xs a = c then rg D (cyL t xs a) z (t.b c).toNat else 0) xs.length = 0 := (su_congr (g := fun _ => 0) fun a ha => by rw [if_neg fun e => ex ⟨a, ha, e⟩]).trans (su_zero _)
        omega
    by_cases e : c = 3
    · subst e
      rw [if_pos rfl]
      have hz : su (fun a => if clN xs a = 3 then rg D (cyL t xs a) z (t.b 3).toNat else 0) xs.length = 0 := (su_congr (g := fun _ => 0) fun a ha => by
        rw [if_neg fun e => by rw [clN_at ha, clD_same] at e; have := Bn.clD_lt xs[a].op; omega]).trans (su_zero _)
      have hr : rg D (D - 1 - t.d) z (t.b 3).toNat ≤ 1 := rg_le (by omega) (by have := (drn_ge t xs (cyL t xs) xs.length).2; have := (hti 3 (by omega)).2.2.1; omega)
      omega
    · rw [if_neg e]
      omega
  rw [mc_last he hd1 (by omega) rfl har (by omega) hst, hkp, hku]
  rfl
end Go.Proofs.YteccifanbgcakaaGreatDoor.Mo

namespace Go.Proofs.YteccifanbgcakaaGreatDoor.Mo
open Go.ChangeShapes Go.WideShapes Go.ChangeAt Go.RowKit
open _root_.Go.Proofs.YteccifanbgcakaaGreatDoor.Op _root_.Go.Proofs.YteccifanbgcakaaGreatDoor.So _root_.Go.Proofs.YteccifanbgcakaaGreatDoor.Dp _root_.Go.Proofs.YteccifanbgcakaaGreatDoor.Bn
open _root_.Go.Proofs.YteccifanbgcakaaGreatDoor.Ls (clN clN_at clN_lt Nl arC arC_all arC_yes arC_no areCycles_any)
open _root_.Go.Proofs.YteccifanbgcakaaGreatDoor.Rv (RAt Few frB tkF tk_few take_any evOk NwOut ring_ok tn addK)
open _root_.Go.Proofs.YteccifanbgcakaaGreatDoor.Tb (Tab TabAt Bnds)
set_option maxRecDepth 20000

open _root_.Go.Proofs.YteccifanbgcakaaGreatDoor.Ls (cyL cyL_is cycles_ok cycles_no cycles_unit hvU cy_nl clV_D)
theorem tq_new (w : World) (t : Tab) : Tq w (w.alloc (.cells t.cells 25)) t := ⟨Tb.tabAt_new w t 25, by go_grown⟩
set_option maxHeartbeats 16000000 in
theorem law_there (ao : Option Addr) (cap : Nat) (xs : List O) (t : Tab) (w : World) (h : OpsAt w ao xs) (hcap : xs.length ≤ cap) (hG : Bnds w) :
    Calls Tryz.prog 5 #[.slice ao xs.length cap, t.val] w fun e w' => e = .returned (.bool true) ∧ Below w.heap.size w w' := by
  have HW : Hid (∀ W, Below w.heap.size w W → Calls Tryz.prog 8 #[] W fun e w' => e = .returned (.bool true) ∧ Below W.heap.size W w') := fun W hb => wakes_any W (hG.below hb hG.big)
  have HT0 : Hid (Tq w (w.alloc (.cells #[.int .i64 (t.u 0), .int .i64 (t.u 1), .int .i64 (t.u 2), .int .i64 (t.u 3), .int .i64 (t.l 0), .int .i64 (t.l 1), .int .i64 (t.l 2), .int .i64 (t.l 3), .int .i64 (t.b 0), .int .i64 (t.b 1), .int .i64 (t.b 2), .int .i64 (t.b 3), .int .i64 t.d] 25)) t) := tq_new w t
  have hlen := h.len
  have hli : (xs.length : Int) ≤ 8796093022208 := by omega
  by_cases hl : 60 < xs.length
  · have hl' : (60 : Int) < (xs.length : Int) := by omega
    clear h hcap hG
    unfold Tab.val
    go_enter Tryz.func5, Tryz.ntmps5
    go_wp2_with (first
      | (go_at_call 8; refine Calls.mono (HW.out _ HT0.out.up) ?_; rintro e w9 ⟨rfl, b9⟩; have HB9 : Hid (Below w.heap.size w w9) := (HT0.out.next b9).up; clear b9 HW HT0))
    go_ret
    exact ⟨rfl, HB9.out⟩
  · have hl' : ¬ (60 : Int) < (xs.length : Int) := by omega
    have HLe : Hid (∀ W, Below w.heap.size w W → Calls Tryz.prog 16 #[.slice ao xs.length cap, .agg #[.int .i64 (t.u 0), .int .i64 (t.u 1), .int .i64 (t.u 2), .int .i64 (t.u 3), .int .i64 (t.l 0), .int .i64 (t.l 1), .int .i64 (t.l 2), .int .i64 (t.l 3), .int .i64 (t.b 0), .int .i64 (t.b 1), .int .i64 (t.b 2), .int .i64 (t.b 3), .int .i64 t.d]] W fun e w' => e = .returned (.tuple #[.int .i64 (leE t xs), .int .i64 (rgE t xs)]) ∧ Below W.heap.size W w') := fun W hb => least_any ao cap xs t W (h.below hb) hcap (hG.below hb hG.big)
    have tf := HT0.out.t
    have k2 := tf
    have qu0 := k2.cu 0 (by decide)
    have qu1 := k2.cu 1 (by decide)
    have qu2 := k2.cu 2 (by decide)
    have qu3 := k2.cu 3 (by decide)
    have ql0 := k2.cl 0 (by decide)
    have ql1 := k2.cl 1 (by decide)
    have ql2 := k2.cl 2 (by decide)
    have ql3 := k2.cl 3 (by decide)
    have qb0 := k2.cb 0 (by decide)
    have qb1 := k2.cb 1 (by decide)
    have qb2 := k2.cb 2 (by decide)
    have qb3 := k2.cb 3 (by decide)
    have qd := k2.cd
    have qz := k2.lt
    clear k2
    clear tf
    by_cases he : rgE t xs = 0
    · obtain ⟨ht, hn64, hlis, hu⟩ := rg_ok he
      obtain ⟨hv, hu3⟩ := hu_hv hu
      obtain ⟨hok, hd1, hd2, hcr⟩ := body_ok h he
      have HC : Hid (∀ W, Below w.heap.size w W → Calls Tryz.prog 17 #[.slice ao xs.length cap, .agg #[.int .i64 (t.u 0), .int .i64 (t.u 1), .int .i64 (t.u 2), .int .i64 (t.u 3), .int .i64 (t.l 0), .int .i64 (t.l 1), .int .i64 (t.l 2), .int .i64 (t.l 3), .int .i64 (t.b 0), .int .i64 (t.b 1), .int .i64 (t.b 2), .int .i64 (t.b 3), .int .i64 t.d]] W fun e w' => ∃ hb, e = .returned (.tuple #[.slice (some ⟨hb, 0, none⟩) xs.length xs.length, .int .i64 0]) ∧ Nl w' (some ⟨hb, 0, none⟩) xs.length (cyL t xs) ∧ Below W.heap.size W w') := fun W hb => by
        refine (cycles_ok ao cap xs t W (h.below hb) hcap (hG.below hb hG.big) hlis hv).mono ?_
        rintro e w' ⟨hb, rfl, hi, hz, hb2⟩
        exact ⟨hb, rfl, cy_nl h.ok hlis hv hi, hb2⟩
      have HCk : Hid (∀ W hb, Below w.heap.size w W → Nl W (some ⟨hb, 0, none⟩) xs.length (cyL t xs) → Calls Tryz.prog 10 #[.slice ao xs.length cap, .agg #[.int .i64 (t.u 0), .int .i64 (t.u 1), .int .i64 (t.u 2), .int .i64 (t.u 3), .int .i64 (t.l 0), .int .i64 (t.l 1), .int .i64 (t.l 2), .int .i64 (t.l 3), .int .i64 (t.b 0), .int .i64 (t.b 1), .int .i64 (t.b 2), .int .i64 (t.b 3), .int .i64 t.d], .agg #[.int .i64 (drn t xs (cyL t xs) xs.length), .slice (some ⟨hb, 0, none⟩) xs.length xs.length, .int .i64 1]] W fun e w' => e = .returned (.bool true) ∧ Below W.heap.size W w') := fun W hb hbe hN => by
        have := check_any (some ⟨hb, 0, none⟩) ao xs.length xs.length cap xs t (cyL t xs) (drn t xs (cyL t xs) xs.length) 1 W hN (h.below hbe) hcap (hG.below hbe hG.big) (by omega)
        rw [there_ok h he] at this
        exact this
      have HCl : Hid (∀ (k : Nat) (hk : k < xs.length) Z, Calls Tryz.prog 18 #[.int .i8 xs[k].op] Z fun e w' => e = .returned (.tuple #[.int .i64 (clN xs k : Int), .bool true]) ∧ Below Z.heap.size Z w') := fun k hk Z => by
        have hw := h.ok xs[k] (List.getElem_mem hk)
        have := class_any xs[k].op Z hw.op0 hw.op1
        obtain ⟨c1, c2⟩ := clV_D ((lis_all hlis).2.2 _ (List.getElem_mem hk))
        rw [c1, c2] at this
        rw [clN_at hk]
        exact this
      have HO : Hid (OpsAt w ao xs ∧ ∀ k, k < xs.length → 0 ≤ cyL t xs k ∧ cyL t xs k + 8 ≤ 8 * (xs.length : Int)) := ⟨h, hcr⟩
      have HTi : Hid (∀ k, k < 4 → (0 ≤ t.u k ∧ t.u k ≤ 8) ∧ (1 ≤ t.l k ∧ t.l k ≤ 8) ∧ (1 ≤ t.b k ∧ t.b k ≤ 4)) := (tab_in ht).2
      have HDr : Hid (∀ k, k ≤ xs.length → 1 ≤ drn t xs (cyL t xs) k ∧ drn t xs (cyL t xs) k ≤ 512) := fun k hk => by
        have h1 := drn_ge t xs (cyL t xs) k
        have h2 := (tab_in ht).1
        refine ⟨by omega, drn_le ht (by omega) fun j hj => ?_⟩
        have := hcr j (by omega)
        omega
      obtain ⟨d0, d4⟩ := (tab_in ht).1
      obtain ⟨b0, b4⟩ := ((tab_in ht).2 3 (by omega)).2.2
      rw [he] at HLe
      clear h hcap hG he ht hn64 hlis hu hv hu3 hok hd1 hd2 hcr
      generalize leE t xs = le at *
      generalize hcc : cyL t xs = g at *
      clear hcc
      obtain ⟨n, hN⟩ : ∃ n, xs.length = n := ⟨_, rfl⟩
      have HN : Hid (xs.length = n) := hN
      rw [hN] at HC HCk HLe HDr hl hl' hlen hli ⊢
      clear hN
      have hn' : (n : Int) ≤ 60 := by omega
      obtain ⟨mx, hmx⟩ : ∃ m, drn t xs g 0 = m := ⟨_, rfl⟩
      have HMx : Hid (drn t xs g 0 = mx) := hmx
      have hmx2 : max (1 + t.d) (t.b 3) = mx := hmx
      clear hmx
      unfold Tab.val
      go_enter Tryz.func5, Tryz.ntmps5
      go_wp2_with (first
        | (go_at_call 17; refine Calls.mono (HC.out _ HT0.out.up) ?_; rintro e w1 ⟨cb, rfl, n1, b1⟩; have HT : Hid (Tq w w1 t ∧ Nl w1 (some ⟨cb, 0, none⟩) n g) := ⟨HT0.out.next b1, n1⟩; clear b1 n1 HC HT0 qu0 qu1 qu2 qu3 ql0 ql1 ql2 ql3 qb0 qb1 qb2 qb3 qd qz; have k2 := HT.out.1.t; have qu0 := k2.cu 0 (by decide); have qu1 := k2.cu 1 (by decide); have qu2 := k2.cu 2 (by decide); have qu3 := k2.cu 3 (by decide); have ql0 := k2.cl 0 (by decide); have ql1 := k2.cl 1 (by decide); have ql2 := k2.cl 2 (by decide); have ql3 := k2.cl 3 (by decide); have qb0 := k2.cb 0 (by decide); have qb1 := k2.cb 1 (by decide); have qb2 := k2.cb 2 (by decide); have qb3 := k2.cb 3 (by decide); have qd := k2.cd; have qz := k2.lt; clear k2)
        | (go_at_call 16; refine Calls.mono (HLe.out _ HT.out.1.up) ?_; rintro e w2 ⟨rfl, b2⟩; have HT2 : Hid (Tq w w2 t ∧ Nl w2 (some ⟨cb, 0, none⟩) n g) := ⟨HT.out.1.next b2, HT.out.2.up b2⟩; clear b2 HLe HT qu0 qu1 qu2 qu3 ql0 ql1 ql2 ql3 qb0 qb1 qb2 qb3 qd qz; have k2 := HT2.out.1.t; have qu0 := k2.cu 0 (by decide); have qu1 := k2.cu 1 (by decide); have qu2 := k2.cu 2 (by decide); have qu3 := k2.cu 3 (by decide); have ql0 := k2.cl 0 (by decide); have ql1 := k2.cl 1 (by decide); have ql2 := k2.cl 2 (by decide); have ql3 := k2.cl 3 (by decide); have qb0 := k2.cb 0 (by decide); have qb1 := k2.cb 1 (by decide); have qb2 := k2.cb 2 (by decide); have qb3 := k2.cb 3 (by decide); have qd := k2.cd; have qz := k2.lt; clear k2))
      go_loopw [9, 10] (fun u v wr => ∃ k : Nat, k ≤ n ∧ v = .int .i64 k ∧ u = .int .i64 (drn t xs g k) ∧ Tq w wr t ∧ Nl wr (some ⟨cb, 0, none⟩) n g) (fun _ v _ => n - (intOf v).toNat)
      case atStart =>
        refine ⟨0, by omega, rfl, ?_, HT2.out⟩
        rw [HMx.out, ← hmx2]
      case round =>
        rename World => wr
        obtain ⟨k, hk, rfl, rfl, hq⟩ := hrel
        have HQ : Hid (Tq w wr t ∧ Nl wr (some ⟨cb, 0, none⟩) n g) := hq
        clear hq HT2 qu0 qu1 qu2 qu3 ql0 ql1 ql2 ql3 qb0 qb1 qb2 qb3 qd qz
        by_cases hlt : k < n
        · have k0 : (0 : Int) ≤ (k : Int) := by omega
          have k1 : (k : Int) < (n : Int) := by omega
          have hkx : k < xs.length := by rw [HN.out]; exact hlt
          obtain ⟨ob, of, rfl, hz2, hx⟩ := (HO.out.1.below HQ.out.1.up).is (by omega)
          obtain ⟨q0, -, -, -, -⟩ := hx k hkx
          obtain ⟨cb', cf, hce, hcl, hcx⟩ := HQ.out.2.is (by omega)
          injection hce with hce
          injection hce with hc1 hc2 _
          subst hc1 hc2
          have HCc : Hid (∀ Z, Below wr.heap.size wr Z → Z.cell? ⟨cb, 0 + k, none⟩ = some (.int .i64 (g k)) ∧ cb < Z.heap.size) := fun Z hZ => ⟨by rw [(bcell hZ).1 _ _ hcl]; exact hcx k hlt, Nat.lt_of_lt_of_le hcl hZ.size⟩
          obtain ⟨g1, g2⟩ := HO.out.2 k hkx
          have g3 : g k ≤ 512 := by have := HN.out; omega
          have HC1 : Hid (∀ Z, Calls Tryz.prog 18 #[.int .i8 xs[k].op] Z fun e w' => e = .returned (.tuple #[.int .i64 (clN xs k : Int), .bool true]) ∧ Below Z.heap.size Z w') := HCl.out k hkx
          obtain ⟨d1, d2⟩ := HDr.out k (by omega)
          have hcl4 := clN_lt xs k
          obtain ⟨-, ⟨l1, l2⟩, b1, b2⟩ := HTi.out _ hcl4
          have HSt : Hid (drn t xs g (k + 1) = max (drn t xs g k) (g k + max (t.l (clN xs k)) (t.b (clN xs k)))) := rfl
          obtain ⟨o, hoe⟩ : ∃ o, xs[k]'hkx = o := ⟨_, rfl⟩
          rw [hoe] at HC1 q0
          obtain ⟨gk, hgk⟩ : ∃ v, g k = v := ⟨_, rfl⟩
          rw [hgk] at HCc HSt g1 g3
          obtain ⟨dk, hdk⟩ : ∃ v, drn t xs g k = v := ⟨_, rfl⟩
          rw [hdk] at HSt d1 d2 ⊢
          clear hx hcx hoe hgk hdk hcl g2
          obtain ⟨cl, hcl2⟩ : ∃ cl, clN xs k = cl := ⟨_, rfl⟩
          rw [hcl2] at HC1 HSt hcl4 l1 l2 b1 b2
          clear hcl2
          have HTl : Hid (∀ Z, TabAt Z w.heap.size t → Z.cell? ⟨w.heap.size, 4 + cl, none⟩ = some (.int .i64 (t.l cl)) ∧ Z.cell? ⟨w.heap.size, 8 + cl, none⟩ = some (.int .i64 (t.b cl))) := fun Z hZ => ⟨hZ.cl cl hcl4, hZ.cb cl hcl4⟩
          obtain ⟨mb, hmb⟩ : ∃ m, max (t.l cl) (t.b cl) = m := ⟨_, rfl⟩
          obtain ⟨nd, hnd⟩ : ∃ m, max dk (gk + mb) = m := ⟨_, rfl⟩
          rw [hmb, hnd] at HSt
          have hc4 : (cl : Int) < 4 := by omega
          have hc0 : (0 : Int) ≤ (cl : Int) := by omega
          go_upto_region 12 with (first
            | (go_at_call 18; refine Calls.mono (HC1.out _) ?_; rintro e w3 ⟨rfl, b3⟩; have HX3 : Hid (Tq w w3.drew t ∧ Nl w3.drew (some ⟨cb, 0, none⟩) n g ∧ w3.drew.cell? ⟨cb, 0 + k, none⟩ = some (.int .i64 gk) ∧ cb < w3.drew.heap.size) := ⟨(HQ.out.1.next b3).next (drew_up _), (HQ.out.2.up b3).up (drew_up _), HCc.out _ (b3.trans ((drew_up _).mono b3.size))⟩; clear b3 HC1 HQ HCc))
          clear q0 hz2
          rw [Nat.zero_add] at HX3
          refine wp_region_held_drew (S := fun Z => TabAt Z w.heap.size t ∧ Z.cell? ⟨cb, k, none⟩ = some (.int .i64 gk) ∧ cb < Z.heap.size) (by kernel_rfl) ⟨HX3.out.1.t, HX3.out.2.2⟩ (fun hHeld => ?_)
          refine wpAnyH_take (i := 0) (v := .int .i64 dk) rfl (by kernel_rfl) (by kernel_rfl) (by kernel_rfl) (fun _ _ _ h => h) (Or.inl ⟨by rfl, fun w' hSw => by (go_simp)⟩) hHeld ?_
          simp only [Act.put, List.setIfInBounds_toArray, List.set_cons_zero, List.set_cons_succ, List.getElem_cons_zero, List.getElem_toArray]
          refine wpAnyH_take (i := 1) (v := .slice (some ⟨cb, 0, none⟩) n n) rfl (by kernel_rfl) (by kernel_rfl) (by kernel_rfl) (fun _ _ _ h => h) (Or.inl ⟨by rfl, fun w' hSw => by (go_simp)⟩) hHeld ?_
          simp only [Act.put, List.setIfInBounds_toArray, List.set_cons_zero, List.set_cons_succ, List.getElem_cons_zero, List.getElem_cons_succ, List.getElem_toArray]
          refine wpAnyH_take (i := 2) (v := .int .i64 (k : Int)) rfl (by kernel_rfl) (by kernel_rfl) (by kernel_rfl) (fun _ _ _ h => h) (Or.inl ⟨by rfl, fun w' hSw => by (go_simp)⟩) hHeld ?_
          simp only [Act.put, List.setIfInBounds_toArray, List.set_cons_zero, List.set_cons_succ, List.getElem_cons_zero, List.getElem_cons_succ, List.getElem_toArray]
          refine wpAnyH_take (i := 3) (v := .pointer (some ⟨cb, k, none⟩)) rfl (by kernel_rfl) (by kernel_rfl) (by kernel_rfl) (fun _ _ _ h => h) (Or.inl ⟨by rfl, fun w' hSw => by (go_simp)⟩) hHeld ?_
          simp only [Act.put, List.setIfInBounds_toArray, List.set_cons_zero, List.set_cons_succ, List.getElem_cons_zero, List.getElem_cons_succ, List.getElem_toArray]
          refine wpAnyH_take (i := 4) (v := .int .i64 gk) rfl (by kernel_rfl) (by kernel_rfl) (by kernel_rfl) (fun _ _ _ h => h) (Or.inl ⟨by rfl, fun w' hSw => by (have y0 := hSw.2.1; have yl := hSw.2.2; go_simp)⟩) hHeld ?_
          simp only [Act.put, List.setIfInBounds_toArray, List.set_cons_zero, List.set_cons_succ, List.getElem_cons_zero, List.getElem_cons_succ, List.getElem_toArray]
          refine wpAnyH_take (i := 5) (v := .int .i64 (cl : Int)) rfl (by kernel_rfl) (by kernel_rfl) (by kernel_rfl) (fun _ _ _ h => h) (Or.inl ⟨by rfl, fun w' hSw => by (go_simp)⟩) hHeld ?_
          simp only [Act.put, List.setIfInBounds_toArray, List.set_cons_zero, List.set_cons_succ, List.getElem_cons_zero, List.getElem_cons_succ, List.getElem_toArray]
          refine wpAnyH_take (i := 6) (v := .pointer (some ⟨w.heap.size, 4, none⟩)) rfl (by kernel_rfl) (by kernel_rfl) (by kernel_rfl) (fun _ _ _ h => h) (Or.inl ⟨by rfl, fun w' hSw => by (go_simp)⟩) hHeld ?_
          simp only [Act.put, List.setIfInBounds_toArray, List.set_cons_zero, List.set_cons_succ, List.getElem_cons_zero, List.getElem_cons_succ, List.getElem_toArray]
          refine wpAnyH_take (i := 7) (v := .pointer (some ⟨w.heap.size, 4 + cl, none⟩)) rfl (by kernel_rfl) (by kernel_rfl) (by kernel_rfl) (fun _ _ _ h => h) (Or.inl ⟨by rfl, fun w' hSw => by (go_simp)⟩) hHeld ?_
          simp only [Act.put, List.setIfInBounds_toArray, List.set_cons_zero, List.set_cons_succ, List.getElem_cons_zero, List.getElem_cons_succ, List.getElem_toArray]
          refine wpAnyH_take (i := 8) (v := .int .i64 (t.l cl)) rfl (by kernel_rfl) (by kernel_rfl) (by kernel_rfl) (fun _ _ _ h => h) (Or.inl ⟨by rfl, fun w' hSw => by (have y0 := (HTl.out _ hSw.1).1; have yl := hSw.1.lt; go_simp)⟩) hHeld ?_
          simp only [Act.put, List.setIfInBounds_toArray, List.set_cons_zero, List.set_cons_succ, List.getElem_cons_zero, List.getElem_cons_succ, List.getElem_toArray]
          refine wpAnyH_take (i := 9) (v := .int .i64 (cl : Int)) rfl (by kernel_rfl) (by kernel_rfl) (by kernel_rfl) (fun _ _ _ h => h) (Or.inl ⟨by rfl, fun w' hSw => by (go_simp)⟩) hHeld ?_
          simp only [Act.put, List.setIfInBounds_toArray, List.set_cons_zero, List.set_cons_succ, List.getElem_cons_zero, List.getElem_cons_succ, List.getElem_toArray]
          refine wpAnyH_take (i := 10) (v := .pointer (some ⟨w.heap.size, 8, none⟩)) rfl (by kernel_rfl) (by kernel_rfl) (by kernel_rfl) (fun _ _ _ h => h) (Or.inl ⟨by rfl, fun w' hSw => by (go_simp)⟩) hHeld ?_
          simp only [Act.put, List.setIfInBounds_toArray, List.set_cons_zero, List.set_cons_succ, List.getElem_cons_zero, List.getElem_cons_succ, List.getElem_toArray]
          refine wpAnyH_take (i := 11) (v := .pointer (some ⟨w.heap.size, 8 + cl, none⟩)) rfl (by kernel_rfl) (by kernel_rfl) (by kernel_rfl) (fun _ _ _ h => h) (Or.inl ⟨by rfl, fun w' hSw => by (go_simp)⟩) hHeld ?_
          simp only [Act.put, List.setIfInBounds_toArray, List.set_cons_zero, List.set_cons_succ, List.getElem_cons_zero, List.getElem_cons_succ, List.getElem_toArray]
          refine wpAnyH_take (i := 12) (v := .int .i64 (t.b cl)) rfl (by kernel_rfl) (by kernel_rfl) (by kernel_rfl) (fun _ _ _ h => h) (Or.inl ⟨by rfl, fun w' hSw => by (have y0 := (HTl.out _ hSw.1).2; have yl := hSw.1.lt; go_simp)⟩) hHeld ?_
          simp only [Act.put, List.setIfInBounds_toArray, List.set_cons_zero, List.set_cons_succ, List.getElem_cons_zero, List.getElem_cons_succ, List.getElem_toArray]
          refine wpAnyH_take (i := 13) (v := .int .i64 mb) rfl (by kernel_rfl) (by kernel_rfl) (by kernel_rfl) (fun _ _ _ h => h) (Or.inl ⟨by rfl, fun w' hSw => by (go_simp; first | done | (split <;> omega) | omega)⟩) hHeld ?_
          simp only [Act.put, List.setIfInBounds_toArray, List.set_cons_zero, List.set_cons_succ, List.getElem_cons_zero, List.getElem_cons_succ, List.getElem_toArray]
          refine wpAnyH_take (i := 14) (v := .int .i64 (gk + mb)) rfl (by kernel_rfl) (by kernel_rfl) (by kernel_rfl) (fun _ _ _ h => h) (Or.inl ⟨by rfl, fun w' hSw => by (go_simp; rw [IntKind.wrap_i64]; omega)⟩) hHeld ?_
          simp only [Act.put, List.setIfInBounds_toArray, List.set_cons_zero, List.set_cons_succ, List.getElem_cons_zero, List.getElem_cons_succ, List.getElem_toArray]
          refine wpAnyH_take (i := 15) (v := .int .i64 nd) rfl (by kernel_rfl) (by kernel_rfl) (by kernel_rfl) (fun _ _ _ h => h) (Or.inl ⟨by rfl, fun w' hSw => by (go_simp; first | done | (split <;> omega) | omega)⟩) hHeld ?_
          simp only [Act.put, List.setIfInBounds_toArray, List.set_cons_zero, List.set_cons_succ, List.getElem_cons_zero, List.getElem_cons_succ, List.getElem_toArray]
          refine wpAnyH_take (i := 16) (v := .int .i64 nd) rfl (by kernel_rfl) (by kernel_rfl) (by kernel_rfl) (fun _ _ _ h => h) (Or.inl ⟨by rfl, fun w' hSw => by (go_simp)⟩) hHeld ?_
          simp only [Act.put, List.setIfInBounds_toArray, List.set_cons_zero, List.set_cons_succ, List.getElem_cons_zero, List.getElem_cons_succ, List.getElem_toArray]
          refine wpAnyH_done (by kernel_rfl) ?_ _
          clear hHeld
          go_wp2_with fail
          go_roundw
          case rel => exact ⟨k + 1, by omega, by go_num, by rw [HSt.out], HX3.out.1, HX3.out.2.1⟩
          case measure => simp [intOf]; omega
        · obtain rfl : k = n := by omega
          have k1 : ¬ (k : Int) < (k : Int) := by omega
          have tf := HQ.out.1.t
          have k2 := tf
          have qu0 := k2.cu 0 (by decide)
          have qu1 := k2.cu 1 (by decide)
          have qu2 := k2.cu 2 (by decide)
          have qu3 := k2.cu 3 (by decide)
          have ql0 := k2.cl 0 (by decide)
          have ql1 := k2.cl 1 (by decide)
          have ql2 := k2.cl 2 (by decide)
          have ql3 := k2.cl 3 (by decide)
          have qb0 := k2.cb 0 (by decide)
          have qb1 := k2.cb 1 (by decide)
          have qb2 := k2.cb 2 (by decide)
          have qb3 := k2.cb 3 (by decide)
          have qd := k2.cd
          have qz := k2.lt
          clear k2
          clear tf
          generalize drn t xs g k = D at *
          go_wp2_with (first
            | (go_at_call 10; refine Calls.mono (HCk.out _ _ HQ.out.1.up HQ.out.2) ?_; rintro e w4 ⟨rfl, b4⟩; have HT4 : Hid (Tq w w4 t) := HQ.out.1.next b4; clear b4 HCk HQ qu0 qu1 qu2 qu3 ql0 ql1 ql2 ql3 qb0 qb1 qb2 qb3 qd qz)
            | (go_at_call 8; refine Calls.mono (HW.out _ HT4.out.up) ?_; rintro e w9 ⟨rfl, b9⟩; have HB9 : Hid (Below w.heap.size w w9) := (HT4.out.next b9).up; clear b9 HW HT4))
          go_ret
          exact ⟨rfl, HB9.out⟩
    · have he' : (rgE t xs != 0) = true := by simpa using he
      by_cases h1 : lisE t xs = 0
      · cases h2 : hvU t xs
        · have HC : Hid (∀ W, Below w.heap.size w W → Calls Tryz.prog 17 #[.slice ao xs.length cap, .agg #[.int .i64 (t.u 0), .int .i64 (t.u 1), .int .i64 (t.u 2), .int .i64 (t.u 3), .int .i64 (t.l 0), .int .i64 (t.l 1), .int .i64 (t.l 2), .int .i64 (t.l 3), .int .i64 (t.b 0), .int .i64 (t.b 1), .int .i64 (t.b 2), .int .i64 (t.b 3), .int .i64 t.d]] W fun e w' => ∃ (ca : Option Addr) (cn : Nat), e = .returned (.tuple #[.slice ca cn cn, .int .i64 21]) ∧ Below W.heap.size W w') := fun W hb => (cycles_unit ao cap xs t W (h.below hb) hcap (hG.below hb hG.big) h1 h2).mono fun e w' hq => ⟨none, 0, hq.1, hq.2⟩
          clear h hcap hG h1 h2
          generalize rgE t xs = er at *
          generalize leE t xs = le at *
          unfold Tab.val
          go_enter Tryz.func5, Tryz.ntmps5
          go_wp2_with (first
            | (go_at_call 17; refine Calls.mono (HC.out _ HT0.out.up) ?_; rintro e w1 ⟨ca, cn, rfl, b1⟩; have HT : Hid (Tq w w1 t) := HT0.out.next b1; clear b1 HC HT0; have k2 := HT.out.t; have qu0 := k2.cu 0 (by decide); have qu1 := k2.cu 1 (by decide); have qu2 := k2.cu 2 (by decide); have qu3 := k2.cu 3 (by decide); have ql0 := k2.cl 0 (by decide); have ql1 := k2.cl 1 (by decide); have ql2 := k2.cl 2 (by decide); have ql3 := k2.cl 3 (by decide); have qb0 := k2.cb 0 (by decide); have qb1 := k2.cb 1 (by decide); have qb2 := k2.cb 2 (by decide); have qb3 := k2.cb 3 (by decide); have qd := k2.cd; have qz := k2.lt; clear k2)
            | (go_at_call 16; refine Calls.mono (HLe.out _ HT.out.up) ?_; rintro e w2 ⟨rfl, b2⟩; have HT2 : Hid (Tq w w2 t) := HT.out.next b2; clear b2 HLe HT qu0 qu1 qu2 qu3 ql0 ql1 ql2 ql3 qb0 qb1 qb2 qb3 qd qz)
            | (go_at_call 8; refine Calls.mono (HW.out _ HT2.out.up) ?_; rintro e w9 ⟨rfl, b9⟩; have HB9 : Hid (Below w.heap.size w w9) := (HT2.out.next b9).up; clear b9 HW HT2))
          go_ret
          exact ⟨rfl, HB9.out⟩
        · have HC : Hid (∀ W, Below w.heap.size w W → Calls Tryz.prog 17 #[.slice ao xs.length cap, .agg #[.int .i64 (t.u 0), .int .i64 (t.u 1), .int .i64 (t.u 2), .int .i64 (t.u 3), .int .i64 (t.l 0), .int .i64 (t.l 1), .int .i64 (t.l 2), .int .i64 (t.l 3), .int .i64 (t.b 0), .int .i64 (t.b 1), .int .i64 (t.b 2), .int .i64 (t.b 3), .int .i64 t.d]] W fun e w' => ∃ (ca : Option Addr) (cn : Nat), e = .returned (.tuple #[.slice ca cn cn, .int .i64 0]) ∧ Below W.heap.size W w') := fun W hb => (cycles_ok ao cap xs t W (h.below hb) hcap (hG.below hb hG.big) h1 h2).mono fun e w' hq => by
            obtain ⟨hb, rfl, -, -, hb2⟩ := hq
            exact ⟨_, _, rfl, hb2⟩
          clear h hcap hG h1 h2
          generalize rgE t xs = er at *
          generalize leE t xs = le at *
          unfold Tab.val
          go_enter Tryz.func5, Tryz.ntmps5
          go_wp2_with (first
            | (go_at_call 17; refine Calls.mono (HC.out _ HT0.out.up) ?_; rintro e w1 ⟨ca, cn, rfl, b1⟩; have HT : Hid (Tq w w1 t) := HT0.out.next b1; clear b1 HC HT0; have k2 := HT.out.t; have qu0 := k2.cu 0 (by decide); have qu1 := k2.cu 1 (by decide); have qu2 := k2.cu 2 (by decide); have qu3 := k2.cu 3 (by decide); have ql0 := k2.cl 0 (by decide); have ql1 := k2.cl 1 (by decide); have ql2 := k2.cl 2 (by decide); have ql3 := k2.cl 3 (by decide); have qb0 := k2.cb 0 (by decide); have qb1 := k2.cb 1 (by decide); have qb2 := k2.cb 2 (by decide); have qb3 := k2.cb 3 (by decide); have qd := k2.cd; have qz := k2.lt; clear k2)
            | (go_at_call 16; refine Calls.mono (HLe.out _ HT.out.up) ?_; rintro e w2 ⟨rfl, b2⟩; have HT2 : Hid (Tq w w2 t) := HT.out.next b2; clear b2 HLe HT qu0 qu1 qu2 qu3 ql0 ql1 ql2 ql3 qb0 qb1 qb2 qb3 qd qz)
            | (go_at_call 8; refine Calls.mono (HW.out _ HT2.out.up) ?_; rintro e w9 ⟨rfl, b9⟩; have HB9 : Hid (Below w.heap.size w w9) := (HT2.out.next b9).up; clear b9 HW HT2))
          go_ret
          exact ⟨rfl, HB9.out⟩
      · have HC : Hid (∀ W, Below w.heap.size w W → Calls Tryz.prog 17 #[.slice ao xs.length cap, .agg #[.int .i64 (t.u 0), .int .i64 (t.u 1), .int .i64 (t.u 2), .int .i64 (t.u 3), .int .i64 (t.l 0), .int .i64 (t.l 1), .int .i64 (t.l 2), .int .i64 (t.l 3), .int .i64 (t.b 0), .int .i64 (t.b 1), .int .i64 (t.b 2), .int .i64 (t.b 3), .int .i64 t.d]] W fun e w' => ∃ (ca : Option Addr) (cn : Nat), e = .returned (.tuple #[.slice ca cn cn, .int .i64 (lisE t xs)]) ∧ Below W.heap.size W w') := fun W hb => (cycles_no ao cap xs t W (h.below hb) hcap (hG.below hb hG.big) h1).mono fun e w' hq => ⟨none, 0, hq.1, hq.2⟩
        have h1' : (lisE t xs != 0) = true := by simpa using h1
        clear h hcap hG
        generalize lisE t xs = er2 at *
        generalize rgE t xs = er at *
        generalize leE t xs = le at *
        unfold Tab.val
        go_enter Tryz.func5, Tryz.ntmps5
        go_wp2_with (first
          | (go_at_call 17; refine Calls.mono (HC.out _ HT0.out.up) ?_; rintro e w1 ⟨ca, cn, rfl, b1⟩; have HT : Hid (Tq w w1 t) := HT0.out.next b1; clear b1 HC HT0; have k2 := HT.out.t; have qu0 := k2.cu 0 (by decide); have qu1 := k2.cu 1 (by decide); have qu2 := k2.cu 2 (by decide); have qu3 := k2.cu 3 (by decide); have ql0 := k2.cl 0 (by decide); have ql1 := k2.cl 1 (by decide); have ql2 := k2.cl 2 (by decide); have ql3 := k2.cl 3 (by decide); have qb0 := k2.cb 0 (by decide); have qb1 := k2.cb 1 (by decide); have qb2 := k2.cb 2 (by decide); have qb3 := k2.cb 3 (by decide); have qd := k2.cd; have qz := k2.lt; clear k2)
          | (go_at_call 16; refine Calls.mono (HLe.out _ HT.out.up) ?_; rintro e w2 ⟨rfl, b2⟩; have HT2 : Hid (Tq w w2 t) := HT.out.next b2; clear b2 HLe HT qu0 qu1 qu2 qu3 ql0 ql1 ql2 ql3 qb0 qb1 qb2 qb3 qd qz)
          | (go_at_call 8; refine Calls.mono (HW.out _ HT2.out.up) ?_; rintro e w9 ⟨rfl, b9⟩; have HB9 : Hid (Below w.heap.size w w9) := (HT2.out.next b9).up; clear b9 HW HT2))
        go_ret
        exact ⟨rfl, HB9.out⟩
end Go.Proofs.YteccifanbgcakaaGreatDoor.Mo
