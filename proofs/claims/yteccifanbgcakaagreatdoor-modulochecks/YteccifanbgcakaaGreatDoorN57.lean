/- The document's Ring and Check, read off the program by the walk. Conditions: the lists lie in memory. -/
import Derived.Test.YteccifanbgcakaaGreatDoorN56
import Derived.Test.YteccifanbgcakaaGreatDoorN52
namespace Go.Proofs.YteccifanbgcakaaGreatDoor.Mo
open Go.ChangeShapes Go.WideShapes Go.ChangeAt Go.RowKit
open _root_.Go.Proofs.YteccifanbgcakaaGreatDoor.Op _root_.Go.Proofs.YteccifanbgcakaaGreatDoor.So _root_.Go.Proofs.YteccifanbgcakaaGreatDoor.Dp _root_.Go.Proofs.YteccifanbgcakaaGreatDoor.Bn
open _root_.Go.Proofs.YteccifanbgcakaaGreatDoor.Ls (clN clN_at clN_lt Nl arC arC_all arC_yes arC_no areCycles_any)
open _root_.Go.Proofs.YteccifanbgcakaaGreatDoor.Rv (RAt Few frB tkF tk_few take_any evOk NwOut ring_ok tn addK)
open _root_.Go.Proofs.YteccifanbgcakaaGreatDoor.Tb (Tab TabAt Bnds)
set_option maxRecDepth 20000

theorem toF_out {t : Tab} {xs : List O} {g : Nat → Int} {E : Int} (hE : 1 ≤ E) {c : Nat} {z : Int} (hz : z < 0 ∨ E ≤ z) : toF t xs g E c z = 0 := by
  have key : ∀ (x : Int) (B : Nat), rg E x z B = 0 := fun x B => by
    unfold rg
    rw [cnt_su]
    exact (su_congr (g := fun _ => 0) fun s _ => by
      have h1 := Int.emod_nonneg (x + (s : Int)) (show E ≠ 0 by omega)
      have h2 := Int.emod_lt_of_pos (x + (s : Int)) (show 0 < E by omega)
      rw [if_neg (by simp; omega)]).trans (su_zero B)
  rw [toF_su]
  have h1 : su (fun a => if clN xs a = c then rg E (g a) z (t.b c).toNat else 0) xs.length = 0 := (su_congr (g := fun _ => 0) fun a _ => by rw [key]; split <;> rfl).trans (su_zero _)
  rw [h1, key]
  split <;> rfl
theorem rq_all {t : Tab} {xs : List O} {g : Nat → Int} {E : Int} (ht : t.ok = true) (hE : 1 ≤ E) (hE2 : E ≤ 65536) (h : ∀ c, c < 4 → rqB t xs g E c = true) : true = kuB t xs g E := by
  symm
  refine (kuB_iff hE hE2 fun c hc => ((tab_in ht).2 c hc).1.1).2 fun c z hc => ?_
  by_cases hz : z < 0 ∨ E ≤ z
  · rw [toF_out hE hz]; exact ((tab_in ht).2 c hc).1.1
  · have := List.all_eq_true.1 (h c hc) z.toNat (List.mem_range.2 (by omega))
    rw [Int.toNat_of_nonneg (by omega)] at this
    simpa using this
theorem rq_one {t : Tab} {xs : List O} {g : Nat → Int} {E : Int} (ht : t.ok = true) (hE : 1 ≤ E) (hE2 : E ≤ 65536) {c : Nat} (hc : c < 4) (h : rqB t xs g E c = false) : false = kuB t xs g E := by
  cases e : kuB t xs g E
  · rfl
  · have := (kuB_iff hE hE2 fun c hc => ((tab_in ht).2 c hc).1.1).1 e
    rw [← rq_yes fun z => this c z hc] at h
    cases h
set_option maxHeartbeats 8000000 in
theorem refRing_any (a ao : Option Addr) (ccap cap : Nat) (xs : List O) (t : Tab) (g : Nat → Int) (E S : Int) (w : World) (hg : Nl w a xs.length g) (hr : ∀ k, k < xs.length → 0 ≤ g k ∧ g k ≤ 65536) (h : OpsAt w ao xs) (hok : ∀ o ∈ xs, okL o = true) (hn : xs.length ≤ 1024) (ht : t.ok = true) (hE : 1 + t.d ≤ E) (hE2 : E ≤ 65536) :
    Calls Tryz.prog 31 #[.slice ao xs.length cap, t.val, .agg #[.int .i64 E, .slice a xs.length ccap, .int .i64 S]] w fun e w' => e = .returned (.bool (kuB t xs g E)) ∧ Below w.heap.size w w' := by
  have hd := (tab_in ht).1
  have HR : Hid (∀ W c, Below w.heap.size w W → c < 4 → Calls Tryz.prog 59 #[.slice ao xs.length cap, .agg #[.int .i64 (t.u 0), .int .i64 (t.u 1), .int .i64 (t.u 2), .int .i64 (t.u 3), .int .i64 (t.l 0), .int .i64 (t.l 1), .int .i64 (t.l 2), .int .i64 (t.l 3), .int .i64 (t.b 0), .int .i64 (t.b 1), .int .i64 (t.b 2), .int .i64 (t.b 3), .int .i64 t.d], .agg #[.int .i64 E, .slice a xs.length ccap, .int .i64 S], .int .i64 ((c : Nat) : Int)] W fun e w' => e = .returned (.bool (rqB t xs g E c)) ∧ Below W.heap.size W w') := fun W c hb hc => refring_any a ao ccap cap xs t g E S c W (hg.up hb) hr (h.below hb) hok hn ht hE hE2 hc
  have HYs : Hid ((∀ c, c < 4 → rqB t xs g E c = true) → true = kuB t xs g E) := fun q => rq_all ht (by omega) hE2 q
  have HNo : Hid (∀ c, c < 4 → rqB t xs g E c = false → false = kuB t xs g E) := fun c hc q => rq_one ht (by omega) hE2 hc q
  have HT0 : Hid (Cx w ((w.alloc (.cells #[.int .i64 (t.u 0), .int .i64 (t.u 1), .int .i64 (t.u 2), .int .i64 (t.u 3), .int .i64 (t.l 0), .int .i64 (t.l 1), .int .i64 (t.l 2), .int .i64 (t.l 3), .int .i64 (t.b 0), .int .i64 (t.b 1), .int .i64 (t.b 2), .int .i64 (t.b 3), .int .i64 t.d] 25)).alloc (.cells #[.int .i64 E, .slice a xs.length ccap, .int .i64 S] 28)) t E a xs.length ccap S) := cx_new w t E S a xs.length ccap
  clear hg hr h hok hn ht hE hE2 hd
  generalize xs.length = n at *
  unfold Tab.val
  go_enter Tryz.func31, Tryz.ntmps31
  go_wp2_with fail
  go_loopw [7] (fun v wr => ∃ k : Nat, k ≤ 4 ∧ v = .int .i64 k ∧ Cx w wr t E a n ccap S ∧ ∀ c, c < k → rqB t xs g E c = true) (fun v _ => 4 - (intOf v).toNat)
  case atStart => exact ⟨0, by omega, rfl, HT0.out, fun c hc => by omega⟩
  case round =>
    rename World => wr
    obtain ⟨k, hk, rfl, hq, hall⟩ := hrel
    have HQ : Hid (Cx w wr t E a n ccap S ∧ ∀ c, c < k → rqB t xs g E c = true) := ⟨hq, hall⟩
    clear hq hall HT0
    by_cases hlt : k < 4
    · have k1 : (k : Int) < 4 := by omega
      have HC : Hid (Calls Tryz.prog 59 #[.slice ao n cap, .agg #[.int .i64 (t.u 0), .int .i64 (t.u 1), .int .i64 (t.u 2), .int .i64 (t.u 3), .int .i64 (t.l 0), .int .i64 (t.l 1), .int .i64 (t.l 2), .int .i64 (t.l 3), .int .i64 (t.b 0), .int .i64 (t.b 1), .int .i64 (t.b 2), .int .i64 (t.b 3), .int .i64 t.d], .agg #[.int .i64 E, .slice a n ccap, .int .i64 S], .int .i64 (k : Int)] wr fun e w' => e = .returned (.bool (rqB t xs g E k)) ∧ Below wr.heap.size wr w') := HR.out wr k HQ.out.1.up hlt
      have tf := HQ.out.1.t
      have k2 := tf
      have qu0 := k2.cu 0 (by decide)
      have qu1 := k2.cu 1 (by decide)
      have qu2 := k2.cu 2 (by decide)
      have qu3 := k2.cu 3 (by decide)
      have ql0 := k2.cl 0 (by decide)
      have ql1 := k2.cl 1 (by decide)
      have ql2 := k2.cl 2 (by decide)
      have ql3 := k2.cl 3 (by decide)
      have qb0 := k2.cb 0 (by decide)
      have qb1 := k2.cb 1 (by decide)
      have qb2 := k2.cb 2 (by decide)
      have qb3 := k2.cb 3 (by decide)
      have qd := k2.cd
      have qz := k2.lt
      clear k2
      clear tf
      have p0 := HQ.out.1.p.c 0 _ rfl
      have p1 := HQ.out.1.p.c 1 _ rfl
      have p2 := HQ.out.1.p.c 2 _ rfl
      have pz := HQ.out.1.p.lt
      cases hb : rqB t xs g E k
      · have HN2 : Hid (false = kuB t xs g E) := HNo.out k hlt hb
        rw [hb] at HC
        clear hb
        go_wp2_with (first
          | (go_at_call 59; refine Calls.mono HC.out ?_; rintro e w2 ⟨rfl, b2⟩; have HT2 : Hid (Cx w w2 t E a n ccap S) := HQ.out.1.next b2; clear b2 HC HQ qu0 qu1 qu2 qu3 ql0 ql1 ql2 ql3 qb0 qb1 qb2 qb3 qd qz p0 p1 p2 pz))
        go_ret
        exact ⟨ret_bool HN2.out, HT2.out.up⟩
      · have HA : Hid (∀ c, c < k + 1 → rqB t xs g E c = true) := fun c hc => by
          rcases Nat.lt_or_ge c k with q | q
          · exact HQ.out.2 c q
          · obtain rfl : c = k := by omega
            exact hb
        rw [hb] at HC
        clear hb
        go_wp2_with (first
          | (go_at_call 59; refine Calls.mono HC.out ?_; rintro e w2 ⟨rfl, b2⟩; have HT2 : Hid (Cx w w2 t E a n ccap S) := HQ.out.1.next b2; clear b2 HC HQ qu0 qu1 qu2 qu3 ql0 ql1 ql2 ql3 qb0 qb1 qb2 qb3 qd qz p0 p1 p2 pz))
        go_roundw
        case rel => exact ⟨k + 1, by omega, by go_num, HT2.out, HA.out⟩
        case measure => simp [intOf]; omega
    · obtain rfl : k = 4 := by omega
      have HY2 : Hid (true = kuB t xs g E) := HYs.out HQ.out.2
      go_wp2_with fail
      go_ret
      exact ⟨ret_bool HY2.out, HQ.out.1.up⟩
set_option maxHeartbeats 16000000 in
theorem refCheck_any (a ao : Option Addr) (n ccap cap : Nat) (xs : List O) (t : Tab) (g : Nat → Int) (E S : Int) (w : World) (hg : Nl w a n g) (h : OpsAt w ao xs) (hnn : n ≤ 9000000000000000000) :
    Calls Tryz.prog 11 #[.slice ao xs.length cap, t.val, .agg #[.int .i64 E, .slice a n ccap, .int .i64 S]] w fun e w' => e = .returned (.bool (mcB t xs n g E S)) ∧ Below w.heap.size w w' := by
  have HU : Hid (∀ W, Below w.heap.size w W → Calls Tryz.prog 28 #[.slice ao xs.length cap, .agg #[.int .i64 (t.u 0), .int .i64 (t.u 1), .int .i64 (t.u 2), .int .i64 (t.u 3), .int .i64 (t.l 0), .int .i64 (t.l 1), .int .i64 (t.l 2), .int .i64 (t.l 3), .int .i64 (t.b 0), .int .i64 (t.b 1), .int .i64 (t.b 2), .int .i64 (t.b 3), .int .i64 t.d]] W fun e w' => e = .returned (.tuple #[.int .i64 (leE t xs), .int .i64 (rgE t xs)]) ∧ Below W.heap.size W w') := fun W hb => refLeast_any ao cap xs t W (h.below hb)
  have hlen := h.len
  have hni : (n : Int) ≤ 9000000000000000000 := by omega
  have hli : (xs.length : Int) ≤ 8796093022208 := by omega
  by_cases he : rgE t xs = 0
  · obtain ⟨ht, hn64, hlis, hhu⟩ := rg_ok he
    obtain ⟨⟨d0, d4⟩, -⟩ := tab_in ht
    rw [he] at HU
    generalize leE t xs = un at HU
    by_cases c1 : E < 1 + t.d
    · rw [mc_no fun q => by omega]
      clear h hg he
      unfold Tab.val
      go_enter Tryz.func11, Tryz.ntmps11
      go_wp2_with (first
        | (go_at_call 28; refine Calls.mono (HU.out _ (by go_grown)) ?_; rintro e w1 ⟨rfl, b1⟩; have HT : Hid (Cx w w1 t E a n ccap S) := cx_start w t E S a n ccap b1; clear b1 HU; have k2 := HT.out.t; have qu0 := k2.cu 0 (by decide); have qu1 := k2.cu 1 (by decide); have qu2 := k2.cu 2 (by decide); have qu3 := k2.cu 3 (by decide); have ql0 := k2.cl 0 (by decide); have ql1 := k2.cl 1 (by decide); have ql2 := k2.cl 2 (by decide); have ql3 := k2.cl 3 (by decide); have qb0 := k2.cb 0 (by decide); have qb1 := k2.cb 1 (by decide); have qb2 := k2.cb 2 (by decide); have qb3 := k2.cb 3 (by decide); have qd := k2.cd; have qz := k2.lt; clear k2; have p0 := HT.out.p.c 0 _ rfl; have p1 := HT.out.p.c 1 _ rfl; have p2 := HT.out.p.c 2 _ rfl; have pz := HT.out.p.lt))
      go_ret
      exact ⟨rfl, HT.out.up⟩
    · have c1' : 1 + t.d ≤ E := by omega
      by_cases c2 : 65536 < E
      · rw [mc_no fun q => by omega]
        clear h hg he
        unfold Tab.val
        go_enter Tryz.func11, Tryz.ntmps11
        go_wp2_with (first
          | (go_at_call 28; refine Calls.mono (HU.out _ (by go_grown)) ?_; rintro e w1 ⟨rfl, b1⟩; have HT : Hid (Cx w w1 t E a n ccap S) := cx_start w t E S a n ccap b1; clear b1 HU; have k2 := HT.out.t; have qu0 := k2.cu 0 (by decide); have qu1 := k2.cu 1 (by decide); have qu2 := k2.cu 2 (by decide); have qu3 := k2.cu 3 (by decide); have ql0 := k2.cl 0 (by decide); have ql1 := k2.cl 1 (by decide); have ql2 := k2.cl 2 (by decide); have ql3 := k2.cl 3 (by decide); have qb0 := k2.cb 0 (by decide); have qb1 := k2.cb 1 (by decide); have qb2 := k2.cb 2 (by decide); have qb3 := k2.cb 3 (by decide); have qd := k2.cd; have qz := k2.lt; clear k2; have p0 := HT.out.p.c 0 _ rfl; have p1 := HT.out.p.c 1 _ rfl; have p2 := HT.out.p.c 2 _ rfl; have pz := HT.out.p.lt))
        go_ret
        exact ⟨rfl, HT.out.up⟩
      · have c2' : E ≤ 65536 := by omega
        by_cases c3 : n = xs.length
        · subst c3
          have HNoA : Hid (arC xs.length g = false → mcB t xs xs.length g E S = false) := fun q => mc_no fun p => by rw [p.2.2.2.2.1] at q; cases q
          have HNo : Hid (¬ (S ≤ 31 ∧ S = stg xs.length g E) → mcB t xs xs.length g E S = false) := fun q => mc_no fun p => q p.2.2.2.2.2
          have HLs : Hid (arC xs.length g = true → S ≤ 31 → S = stg xs.length g E → mcB t xs xs.length g E S = (kpB (loopE t xs) g E && kuB t xs g E)) := fun q0 q1 q2 => mc_last he c1' c2' rfl q0 q1 q2
          have hok := (lis_all hlis).2.2
          have HS : Hid (∀ W, Below w.heap.size w W → arC xs.length g = true → Calls Tryz.prog 29 #[.slice a xs.length ccap, .int .i64 E] W fun e w' => e = .returned (.int .i64 (stg xs.length g E)) ∧ Below W.heap.size W w') := fun W hb q => refStages_any a xs.length ccap g E W (hg.up hb) (by omega) (arC_all q) (by omega) c2'
          have HEg : Hid (∀ W, Below w.heap.size w W → Calls Tryz.prog 30 #[.slice ao xs.length cap, .agg #[.int .i64 (t.u 0), .int .i64 (t.u 1), .int .i64 (t.u 2), .int .i64 (t.u 3), .int .i64 (t.l 0), .int .i64 (t.l 1), .int .i64 (t.l 2), .int .i64 (t.l 3), .int .i64 (t.b 0), .int .i64 (t.b 1), .int .i64 (t.b 2), .int .i64 (t.b 3), .int .i64 t.d]] W (EdOut W 0 (loopE t xs))) := fun W hb => by
            have := refLoop_any ao cap xs t W (h.below hb) fun _ => by omega
            unfold erE at this
            have hA : Lall xs := fun o ho => ⟨h.ok o ho, hok o ho⟩
            have e : ofD t xs xs.length ++ roundD t xs xs.length = loopE t xs := by
              show _ = ofE t xs ++ acrossE xs (ptsL t xs) xs.length
              rw [ofD_eq t hA, roundD_eq t hA]
            rw [if_pos hlis, hlis, e] at this
            exact this
          have HKu : Hid (∀ W, Below w.heap.size w W → arC xs.length g = true → Calls Tryz.prog 31 #[.slice ao xs.length cap, .agg #[.int .i64 (t.u 0), .int .i64 (t.u 1), .int .i64 (t.u 2), .int .i64 (t.u 3), .int .i64 (t.l 0), .int .i64 (t.l 1), .int .i64 (t.l 2), .int .i64 (t.l 3), .int .i64 (t.b 0), .int .i64 (t.b 1), .int .i64 (t.b 2), .int .i64 (t.b 3), .int .i64 t.d], .agg #[.int .i64 E, .slice a xs.length ccap, .int .i64 S]] W fun e w' => e = .returned (.bool (kuB t xs g E)) ∧ Below W.heap.size W w') := fun W hb q => refRing_any a ao ccap cap xs t g E S W (hg.up hb) (arC_all q) (h.below hb) hok (by omega) ht c1' c2'
          have HEL : Hid (EL xs.length (loopE t xs)) := loopE_ok h he
          have hML := loopE_len (t := t) (xs := xs) (by omega)
          have HNl : Hid (Nl w a xs.length g) := hg
          have HYA : Hid ((∀ k, k < xs.length → 0 ≤ g k ∧ g k ≤ 65536) → arC xs.length g = true) := fun q => (arC_yes q).symm
          have HNA : Hid (∀ k, k < xs.length → g k < 0 ∨ 65536 < g k → arC xs.length g = false) := fun k hk q => (arC_no hk q).symm
          clear h hg he hhu hlis ht hok hnn hni
          obtain ⟨R, hR⟩ : ∃ R, mcB t xs xs.length g E S = R := ⟨_, rfl⟩
          rw [hR] at HNoA HNo HLs ⊢
          clear hR
          generalize hes : loopE t xs = es at *
          clear hes
          obtain ⟨M, hM⟩ : ∃ M, es.length = M := ⟨_, rfl⟩
          have HM : Hid (es.length = M) := hM
          have hM' : (M : Int) ≤ 100000000 := by omega
          unfold EdOut at HEg
          rw [hM] at HEg
          clear hM hML
          generalize kuB t xs g E = bu at *
          generalize xs.length = n at *
          have hn' : (n : Int) ≤ 64 := by omega
          unfold Tab.val
          go_enter Tryz.func11, Tryz.ntmps11
          go_wp2_with (first
            | (go_at_call 28; refine Calls.mono (HU.out _ (by go_grown)) ?_; rintro e w1 ⟨rfl, b1⟩; have HT : Hid (Cx w w1 t E a n ccap S) := cx_start w t E S a n ccap b1; clear b1 HU; have k2 := HT.out.t; have qu0 := k2.cu 0 (by decide); have qu1 := k2.cu 1 (by decide); have qu2 := k2.cu 2 (by decide); have qu3 := k2.cu 3 (by decide); have ql0 := k2.cl 0 (by decide); have ql1 := k2.cl 1 (by decide); have ql2 := k2.cl 2 (by decide); have ql3 := k2.cl 3 (by decide); have qb0 := k2.cb 0 (by decide); have qb1 := k2.cb 1 (by decide); have qb2 := k2.cb 2 (by decide); have qb3 := k2.cb 3 (by decide); have qd := k2.cd; have qz := k2.lt; clear k2; have p0 := HT.out.p.c 0 _ rfl; have p1 := HT.out.p.c 1 _ rfl; have p2 := HT.out.p.c 2 _ rfl; have pz := HT.out.p.lt))
          clear qu0 qu1 qu2 qu3 ql0 ql1 ql2 ql3 qb0 qb1 qb2 qb3 qd qz p0 p1 p2 pz
          go_loopw [9] (fun v wr => ∃ k : Nat, k ≤ n ∧ v = .int .i64 k ∧ Cx w wr t E a n ccap S ∧ ∀ j, j < k → 0 ≤ g j ∧ g j ≤ 65536) (fun v _ => n - (intOf v).toNat)
          case atStart => exact ⟨0, by omega, rfl, HT.out, fun j hj => by omega⟩
          case round =>
            rename World => wr
            obtain ⟨k, hk, rfl, hq, hall⟩ := hrel
            have HQ : Hid (Cx w wr t E a n ccap S ∧ ∀ j, j < k → 0 ≤ g j ∧ g j ≤ 65536) := ⟨hq, hall⟩
            clear hq hall HT
            by_cases hlt : k < n
            · have k0 : (0 : Int) ≤ (k : Int) := by omega
              have k1 : (k : Int) < (n : Int) := by omega
              obtain ⟨b, f, rfl, hz2, hx⟩ := (HNl.out.up HQ.out.1.up).is (by omega)
              have q0 := hx k hlt
              clear hx
              have p0 := HQ.out.1.p.c 0 _ rfl
              have p1 := HQ.out.1.p.c 1 _ rfl
              have p2 := HQ.out.1.p.c 2 _ rfl
              have pz := HQ.out.1.p.lt
              by_cases g0 : g k < 0
              · have HR : Hid (false = R) := (HNoA.out (HNA.out k hlt (.inl g0))).symm
                generalize g k = x at *
                go_wp2_with fail
                go_ret
                exact ⟨ret_bool HR.out, HQ.out.1.up⟩
              · by_cases g6 : 65536 < g k
                · have HR : Hid (false = R) := (HNoA.out (HNA.out k hlt (.inr g6))).symm
                  generalize g k = x at *
                  go_wp2_with fail
                  go_ret
                  exact ⟨ret_bool HR.out, HQ.out.1.up⟩
                · have HA : Hid (∀ j, j < k + 1 → 0 ≤ g j ∧ g j ≤ 65536) := fun j hj => by
                    rcases Nat.lt_or_ge j k with q | q
                    · exact HQ.out.2 j q
                    · obtain rfl : j = k := by omega
                      omega
                  generalize g k = x at *
                  go_wp2_with fail
                  go_roundw
                  case rel => exact ⟨k + 1, by omega, by go_num, HQ.out.1, HA.out⟩
                  case measure => simp [intOf]; omega
            · obtain rfl : k = n := by omega
              have k1 : ¬ (k : Int) < (k : Int) := by omega
              have HRg : Hid (∀ j, j < k → 0 ≤ g j ∧ g j ≤ 65536) := HQ.out.2
              have hA := HYA.out HRg.out
              have HS2 : Hid (∀ W, Below w.heap.size w W → Calls Tryz.prog 29 #[.slice a k ccap, .int .i64 E] W fun e w' => e = .returned (.int .i64 (stg k g E)) ∧ Below W.heap.size W w') := fun W hb => HS.out W hb hA
              have HKu2 : Hid (∀ W, Below w.heap.size w W → Calls Tryz.prog 31 #[.slice ao k cap, .agg #[.int .i64 (t.u 0), .int .i64 (t.u 1), .int .i64 (t.u 2), .int .i64 (t.u 3), .int .i64 (t.l 0), .int .i64 (t.l 1), .int .i64 (t.l 2), .int .i64 (t.l 3), .int .i64 (t.b 0), .int .i64 (t.b 1), .int .i64 (t.b 2), .int .i64 (t.b 3), .int .i64 t.d], .agg #[.int .i64 E, .slice a k ccap, .int .i64 S]] W fun e w' => e = .returned (.bool bu) ∧ Below W.heap.size W w') := fun W hb => HKu.out W hb hA
              have HLs2 : Hid (S ≤ 31 → S = stg k g E → R = (kpB es g E && bu)) := HLs.out hA
              have hst : 1 ≤ stg k g E ∧ stg k g E ≤ 65537 := by
                have m0 := mxN_ge g k
                have m1 : mxN g k ≤ 65536 := mxN_le (by omega) fun j hj => (HRg.out j hj).2
                have := Int.ediv_nonneg m0 (show (0 : Int) ≤ E by omega)
                have := Int.ediv_le_self E m0
                unfold stg
                omega
              have HT2 : Hid (Cx w wr.drew t E a k ccap S) := HQ.out.1.next (drew_up _)
              clear hA HS HKu HLs HQ HYA HNA HNoA
              generalize stg k g E = st at *
              obtain ⟨st0, st1⟩ := hst
              go_upto_region 9 with fail
              refine wp_region_held_drew (S := fun Z => Cx w Z t E a k ccap S) (by kernel_rfl) HT2.out (fun hHeld => ?_)
              refine wpAnyH_take (i := 0) (v := .pointer (some ⟨w.heap.size + 1, 2, none⟩)) rfl (by kernel_rfl) (by kernel_rfl) (by kernel_rfl) (fun _ _ _ h => h) (Or.inl ⟨by rfl, fun w' hSw => by (go_simp)⟩) hHeld ?_
              simp only [Act.put, List.setIfInBounds_toArray, List.set_cons_zero, List.set_cons_succ, List.getElem_cons_zero, List.getElem_toArray]
              refine wpAnyH_take (i := 1) (v := .int .i64 S) rfl (by kernel_rfl) (by kernel_rfl) (by kernel_rfl) (fun _ _ _ h => h) (Or.inl ⟨by rfl, fun w' hSw => by (have hSw : Cx w w' t E a k ccap S := hSw; have y2 := hSw.p.c 2 _ rfl; have yl := hSw.p.lt; go_simp)⟩) hHeld ?_
              simp only [Act.put, List.setIfInBounds_toArray, List.set_cons_zero, List.set_cons_succ, List.getElem_cons_zero, List.getElem_cons_succ, List.getElem_toArray]
              refine wpAnyH_take (i := 2) (v := .pointer (some ⟨w.heap.size + 1, 1, none⟩)) rfl (by kernel_rfl) (by kernel_rfl) (by kernel_rfl) (fun _ _ _ h => h) (Or.inl ⟨by rfl, fun w' hSw => by (go_simp)⟩) hHeld ?_
              simp only [Act.put, List.setIfInBounds_toArray, List.set_cons_zero, List.set_cons_succ, List.getElem_cons_zero, List.getElem_cons_succ, List.getElem_toArray]
              refine wpAnyH_take (i := 3) (v := .slice a k ccap) rfl (by kernel_rfl) (by kernel_rfl) (by kernel_rfl) (fun _ _ _ h => h) (Or.inl ⟨by rfl, fun w' hSw => by (have hSw : Cx w w' t E a k ccap S := hSw; have y1 := hSw.p.c 1 _ rfl; have yl := hSw.p.lt; go_simp)⟩) hHeld ?_
              simp only [Act.put, List.setIfInBounds_toArray, List.set_cons_zero, List.set_cons_succ, List.getElem_cons_zero, List.getElem_cons_succ, List.getElem_toArray]
              refine wpAnyH_take (i := 4) (v := .pointer (some ⟨w.heap.size + 1, 0, none⟩)) rfl (by kernel_rfl) (by kernel_rfl) (by kernel_rfl) (fun _ _ _ h => h) (Or.inl ⟨by rfl, fun w' hSw => by (go_simp)⟩) hHeld ?_
              simp only [Act.put, List.setIfInBounds_toArray, List.set_cons_zero, List.set_cons_succ, List.getElem_cons_zero, List.getElem_cons_succ, List.getElem_toArray]
              refine wpAnyH_take (i := 5) (v := .int .i64 E) rfl (by kernel_rfl) (by kernel_rfl) (by kernel_rfl) (fun _ _ _ h => h) (Or.inl ⟨by rfl, fun w' hSw => by (have hSw : Cx w w' t E a k ccap S := hSw; have y0 := hSw.p.c 0 _ rfl; have yl := hSw.p.lt; go_simp)⟩) hHeld ?_
              simp only [Act.put, List.setIfInBounds_toArray, List.set_cons_zero, List.set_cons_succ, List.getElem_cons_zero, List.getElem_cons_succ, List.getElem_toArray]
              refine wpAnyH_ready (rs := [6]) (by kernel_rfl) (by simp) ?_
              refine AllReadyH.cons rfl (fun K hK => ?_) AllReadyH.nil
              go_simp
              refine Calls.mono (HS2.out _ HT2.out.up) ?_
              rintro e w3 ⟨rfl, b3⟩
              have HT3 : Hid (Cx w w3 t E a k ccap S) := HT2.out.next b3; clear b3 HS2 HT2
              refine hK.out _ _ HT3.out (fun hHeld => ?_)
              clear hK K
              by_cases c6 : S = st
              · subst c6
                refine wpAnyH_take (i := 7) (v := .bool false) rfl (by kernel_rfl) (by kernel_rfl) (by kernel_rfl) (fun _ _ _ h => h) (Or.inl ⟨by rfl, fun w' hSw => by (go_simp)⟩) hHeld ?_
                simp only [Act.put, List.setIfInBounds_toArray, List.set_cons_zero, List.set_cons_succ, List.getElem_cons_zero, List.getElem_cons_succ, List.getElem_toArray]
                refine wpAnyH_take (i := 8) (v := .bool false) rfl (by kernel_rfl) (by kernel_rfl) (by kernel_rfl) (fun _ _ _ h => h) (Or.inl ⟨by rfl, fun w' hSw => by (go_simp)⟩) hHeld ?_
                simp only [Act.put, List.setIfInBounds_toArray, List.set_cons_zero, List.set_cons_succ, List.getElem_cons_zero, List.getElem_cons_succ, List.getElem_toArray]
                refine wpAnyH_take (i := 9) (v := .pointer (some ⟨w.heap.size + 1, 2, none⟩)) rfl (by kernel_rfl) (by kernel_rfl) (by kernel_rfl) (fun _ _ _ h => h) (Or.inl ⟨by rfl, fun w' hSw => by (go_simp)⟩) hHeld ?_
                simp only [Act.put, List.setIfInBounds_toArray, List.set_cons_zero, List.set_cons_succ, List.getElem_cons_zero, List.getElem_cons_succ, List.getElem_toArray]
                refine wpAnyH_take (i := 10) (v := .int .i64 S) rfl (by kernel_rfl) (by kernel_rfl) (by kernel_rfl) (fun _ _ _ h => h) (Or.inl ⟨by rfl, fun w' hSw => by (have hSw : Cx w w' t E a k ccap S := hSw; have y2 := hSw.p.c 2 _ rfl; have yl := hSw.p.lt; go_simp)⟩) hHeld ?_
                simp only [Act.put, List.setIfInBounds_toArray, List.set_cons_zero, List.set_cons_succ, List.getElem_cons_zero, List.getElem_cons_succ, List.getElem_toArray]
                by_cases c5 : 31 < S
                · have HR : Hid (false = R) := (HNo.out (by omega)).symm
                  have c5d : decide (31 < S) = true := decide_eq_true c5
                  refine wpAnyH_take (i := 11) (v := .bool true) rfl (by kernel_rfl) (by kernel_rfl) (by kernel_rfl) (fun _ _ _ h => h) (Or.inl ⟨by rfl, fun w' hSw => by (go_simp)⟩) hHeld ?_
                  simp only [Act.put, List.setIfInBounds_toArray, List.set_cons_zero, List.set_cons_succ, List.getElem_cons_zero, List.getElem_cons_succ, List.getElem_toArray]
                  refine wpAnyH_take (i := 12) (v := .bool true) rfl (by kernel_rfl) (by kernel_rfl) (by kernel_rfl) (fun _ _ _ h => h) (Or.inl ⟨by rfl, fun w' hSw => by (go_simp)⟩) hHeld ?_
                  simp only [Act.put, List.setIfInBounds_toArray, List.set_cons_zero, List.set_cons_succ, List.getElem_cons_zero, List.getElem_cons_succ, List.getElem_toArray]
                  refine wpAnyH_done (by kernel_rfl) ?_ _
                  clear hHeld
                  go_wp2_with fail
                  go_ret
                  exact ⟨ret_bool HR.out, HT3.out.up⟩
                · have c5d : decide (31 < S) = false := decide_eq_false c5
                  have HRe : Hid (R = (kpB es g E && bu)) := HLs2.out (by omega) rfl
                  refine wpAnyH_take (i := 11) (v := .bool false) rfl (by kernel_rfl) (by kernel_rfl) (by kernel_rfl) (fun _ _ _ h => h) (Or.inl ⟨by rfl, fun w' hSw => by (go_simp)⟩) hHeld ?_
                  simp only [Act.put, List.setIfInBounds_toArray, List.set_cons_zero, List.set_cons_succ, List.getElem_cons_zero, List.getElem_cons_succ, List.getElem_toArray]
                  refine wpAnyH_take (i := 12) (v := .bool false) rfl (by kernel_rfl) (by kernel_rfl) (by kernel_rfl) (fun _ _ _ h => h) (Or.inl ⟨by rfl, fun w' hSw => by (go_simp)⟩) hHeld ?_
                  simp only [Act.put, List.setIfInBounds_toArray, List.set_cons_zero, List.set_cons_succ, List.getElem_cons_zero, List.getElem_cons_succ, List.getElem_toArray]
                  refine wpAnyH_done (by kernel_rfl) ?_ _
                  clear hHeld
                  have tf := HT3.out.t
                  have k2 := tf
                  have qu0 := k2.cu 0 (by decide)
                  have qu1 := k2.cu 1 (by decide)
                  have qu2 := k2.cu 2 (by decide)
                  have qu3 := k2.cu 3 (by decide)
                  have ql0 := k2.cl 0 (by decide)
                  have ql1 := k2.cl 1 (by decide)
                  have ql2 := k2.cl 2 (by decide)
                  have ql3 := k2.cl 3 (by decide)
                  have qb0 := k2.cb 0 (by decide)
                  have qb1 := k2.cb 1 (by decide)
                  have qb2 := k2.cb 2 (by decide)
                  have qb3 := k2.cb 3 (by decide)
                  have qd := k2.cd
                  have qz := k2.lt
                  clear k2
                  clear tf
                  go_wp2_with (first
                    | (go_at_call 30; refine Calls.mono (HEg.out _ HT3.out.up) ?_; rintro e w4 ⟨ea, ec, rfl, o4, b4⟩; have HT4 : Hid (Cx w w4 t E a k ccap S ∧ Es w4 ea es) := ⟨HT3.out.next b4, es_of o4⟩; clear b4 o4 HEg HT3 qu0 qu1 qu2 qu3 ql0 ql1 ql2 ql3 qb0 qb1 qb2 qb3 qd qz))
                  go_loopw [12] (fun v wy => ∃ k2 : Nat, k2 ≤ M ∧ v = .int .i64 k2 ∧ (Cx w wy t E a k ccap S ∧ Es wy ea es) ∧ ∀ (j : Nat) (hj : j < es.length), j < k2 → g es[j].f.toNat + es[j].l ≤ g es[j].t.toNat + es[j].d * E) (fun v _ => M - (intOf v).toNat)
                  case atStart => exact ⟨0, by omega, rfl, HT4.out, fun j _ hj => by omega⟩
                  case round =>
                    rename World => wy
                    obtain ⟨k2, hk2, rfl, hq, hok⟩ := hrel
                    have HK : Hid (∀ (j : Nat) (hj : j < es.length), j < k2 → g es[j].f.toNat + es[j].l ≤ g es[j].t.toNat + es[j].d * E) := hok
                    have HB : Hid (Cx w wy t E a k ccap S ∧ Es wy ea es) := hq
                    clear hok hq HT4
                    by_cases hl2 : k2 < M
                    · have k20 : (0 : Int) ≤ (k2 : Int) := by omega
                      have k21 : (k2 : Int) < (M : Int) := by omega
                      have hke : k2 < es.length := by rw [HM.out]; exact hl2
                      obtain ⟨eb, rfl, l1, f0, f1, f2, f3, f4⟩ := HB.out.2.2 k2 hke
                      have hm := HEL.out _ (List.getElem_mem hke)
                      have g1 := hm.f0
                      have g2 := hm.fn
                      have g3 := hm.t0
                      have g4 := hm.tn
                      have g5 := hm.l0
                      have g6 := hm.l8
                      have g7 : es[k2].d = 0 ∨ es[k2].d = 1 := by rcases hm.d with ⟨h, -⟩ | h; exact .inl h; exact .inr h
                      have HNo2 : Hid (g es[k2].t.toNat + es[k2].d * E < g es[k2].f.toNat + es[k2].l → false = kpB es g E) := fun e => kpB_no hke e
                      have HNx : Hid (g es[k2].f.toNat + es[k2].l ≤ g es[k2].t.toNat + es[k2].d * E → ∀ (j : Nat) (hj : j < es.length), j < k2 + 1 → g es[j].f.toNat + es[j].l ≤ g es[j].t.toNat + es[j].d * E) := fun e j hj hjk => by
                        rcases Nat.lt_or_ge j k2 with h | h
                        · exact HK.out j hj h
                        · obtain rfl : j = k2 := by omega
                          exact e
                      have HX : Hid ((Cx w (wy.alloc (.cells #[.int .i64 es[k2].f, .int .i64 es[k2].t, .int .i64 es[k2].l, .int .i64 es[k2].d, .int .i8 es[k2].y] 51)) t E a k ccap S ∧ Es (wy.alloc (.cells #[.int .i64 es[k2].f, .int .i64 es[k2].t, .int .i64 es[k2].l, .int .i64 es[k2].d, .int .i8 es[k2].y] 51)) (some ⟨eb, 0, none⟩) es) ∧ At (wy.alloc (.cells #[.int .i64 es[k2].f, .int .i64 es[k2].t, .int .i64 es[k2].l, .int .i64 es[k2].d, .int .i8 es[k2].y] 51)) wy.heap.size #[.int .i64 es[k2].f, .int .i64 es[k2].t, .int .i64 es[k2].l, .int .i64 es[k2].d, .int .i8 es[k2].y]) := by
                        have gg : Below wy.heap.size wy (wy.alloc (.cells #[.int .i64 es[k2].f, .int .i64 es[k2].t, .int .i64 es[k2].l, .int .i64 es[k2].d, .int .i8 es[k2].y] 51)) := (Below.refl _ _).alloc (Nat.le_refl _) _
                        exact ⟨⟨HB.out.1.next gg, HB.out.2.up gg⟩, At.new _ _ _⟩
                      clear hm
                      generalize es[k2] = x at *
                      obtain ⟨xf, xt, xl, xd, xy⟩ := x
                      obtain ⟨fi, rfl⟩ : ∃ fi : Nat, xf = fi := ⟨xf.toNat, by have g1 : 0 ≤ xf := g1; omega⟩
                      obtain ⟨ti, rfl⟩ : ∃ ti : Nat, xt = ti := ⟨xt.toNat, by have g3 : 0 ≤ xt := g3; omega⟩
                      have g2 : (fi : Int) < (k : Int) := g2
                      have g4 : (ti : Int) < (k : Int) := g4
                      have g5 : 0 ≤ xl := g5
                      have g6 : xl ≤ 8 := g6
                      have g7 : xd = 0 ∨ xd = 1 := g7
                      have g8 : (0 : Int) ≤ (fi : Int) := by omega
                      have g9 : (0 : Int) ≤ (ti : Int) := by omega
                      obtain ⟨h1, h2⟩ := HRg.out fi (by omega)
                      obtain ⟨h3, h4⟩ := HRg.out ti (by omega)
                      clear g1 g3
                      have HNo2 : Hid (g ti + xd * E < g fi + xl → false = kpB es g E) := HNo2.out
                      have HNx : Hid (g fi + xl ≤ g ti + xd * E → ∀ (j : Nat) (hj : j < es.length), j < k2 + 1 → g es[j].f.toNat + es[j].l ≤ g es[j].t.toNat + es[j].d * E) := HNx.out
                      go_upto_region 16 with fail
                      generalize (wy.alloc (.cells #[.int .i64 (fi : Int), .int .i64 (ti : Int), .int .i64 xl, .int .i64 xd, .int .i8 xy] 51)) = X at *
                      generalize wy.heap.size = ob at *
                      clear f0 f1 f2 f3 f4 l1 HB
                      have s2 := HX.out.2
                      have o0 := s2.c 0 _ rfl
                      have o1 := s2.c 1 _ rfl
                      have o2 := s2.c 2 _ rfl
                      have o3 := s2.c 3 _ rfl
                      have ol := s2.lt
                      have s3 := HX.out.1.1.p
                      have p0 := s3.c 0 _ rfl
                      have p1 := s3.c 1 _ rfl
                      have pl := s3.lt
                      obtain ⟨b, f, rfl, hz2, hx⟩ := (HNl.out.up HX.out.1.1.up).is (by omega)
                      have cf := hx fi (by omega)
                      have ct := hx ti (by omega)
                      clear hx s2 s3
                      obtain ⟨vf, hvf⟩ : ∃ v, g fi = v := ⟨_, rfl⟩
                      obtain ⟨vt, hvt⟩ : ∃ v, g ti = v := ⟨_, rfl⟩
                      rw [hvf] at HNo2 HNx h1 h2 cf
                      rw [hvt] at HNo2 HNx h3 h4 ct
                      clear hvf hvt
                      obtain ⟨q, hq⟩ : ∃ q, xd * E = q := ⟨_, rfl⟩
                      have q0 : 0 ≤ q ∧ q ≤ 65536 := by rcases g7 with rfl | rfl <;> omega
                      obtain ⟨q1, q2⟩ := q0
                      rw [hq] at HNo2 HNx
                      have hqw : IntKind.i64.wrap (xd * E) = q := by rw [hq, IntKind.wrap_i64]; omega
                      clear g7 hq
                      by_cases hc : vt + q < vf + xl
                      · have HR : Hid (false = R) := by rw [HRe.out, ← HNo2.out hc]; rfl
                        go_quiet (fail)
                        go_wp2_with fail
                        go_ret
                        exact ⟨ret_bool HR.out, ⟨HX.out.1.1.up.os, HX.out.1.1.up.tape, HX.out.1.1.up.output, HX.out.1.1.up.size, HX.out.1.1.up.block⟩⟩
                      · have HR : Hid _ := HNx.out (by omega)
                        have hc' : vf + xl ≤ vt + q := by omega
                        go_quiet (fail)
                        go_wp2_with fail
                        go_roundw
                        case rel => exact ⟨k2 + 1, by omega, by go_num, ⟨HX.out.1.1.next ⟨rfl, rfl, rfl, Nat.le_refl _, fun _ _ => rfl⟩, HX.out.1.2.up ⟨rfl, rfl, rfl, Nat.le_refl _, fun _ _ => rfl⟩⟩, HR.out⟩
                        case measure => simp [intOf]; omega
                    · obtain rfl : k2 = M := by omega
                      have k21 : ¬ (k2 : Int) < (k2 : Int) := by omega
                      have HR : Hid (bu = R) := by
                        rw [HRe.out, ← kpB_yes fun j hj => HK.out j hj (by rw [← HM.out]; exact hj)]
                        cases bu <;> rfl
                      have tf := HB.out.1.t
                      have k2 := tf
                      have qu0 := k2.cu 0 (by decide)
                      have qu1 := k2.cu 1 (by decide)
                      have qu2 := k2.cu 2 (by decide)
                      have qu3 := k2.cu 3 (by decide)
                      have ql0 := k2.cl 0 (by decide)
                      have ql1 := k2.cl 1 (by decide)
                      have ql2 := k2.cl 2 (by decide)
                      have ql3 := k2.cl 3 (by decide)
                      have qb0 := k2.cb 0 (by decide)
                      have qb1 := k2.cb 1 (by decide)
                      have qb2 := k2.cb 2 (by decide)
                      have qb3 := k2.cb 3 (by decide)
                      have qd := k2.cd
                      have qz := k2.lt
                      clear k2
                      clear tf
                      have p0 := HB.out.1.p.c 0 _ rfl
                      have p1 := HB.out.1.p.c 1 _ rfl
                      have p2 := HB.out.1.p.c 2 _ rfl
                      have pz := HB.out.1.p.lt
                      go_wp2_with (first
                        | (go_at_call 31; refine Calls.mono (HKu2.out _ HB.out.1.up) ?_; rintro e w5 ⟨rfl, b5⟩; have HB5 : Hid (Below w.heap.size w w5) := (HB.out.1.next b5).up; clear b5 HKu2 HB qu0 qu1 qu2 qu3 ql0 ql1 ql2 ql3 qb0 qb1 qb2 qb3 qd qz p0 p1 p2 pz))
                      go_ret
                      exact ⟨ret_bool HR.out, HB5.out⟩
              · have HR : Hid (false = R) := (HNo.out fun q => c6 q.2).symm
                have c6' : (S != st) = true := by simpa using c6
                refine wpAnyH_take (i := 7) (v := .bool true) rfl (by kernel_rfl) (by kernel_rfl) (by kernel_rfl) (fun _ _ _ h => h) (Or.inl ⟨by rfl, fun w' hSw => by (go_simp)⟩) hHeld ?_
                simp only [Act.put, List.setIfInBounds_toArray, List.set_cons_zero, List.set_cons_succ, List.getElem_cons_zero, List.getElem_cons_succ, List.getElem_toArray]
                refine wpAnyH_take (i := 8) (v := .bool true) rfl (by kernel_rfl) (by kernel_rfl) (by kernel_rfl) (fun _ _ _ h => h) (Or.inl ⟨by rfl, fun w' hSw => by (go_simp)⟩) hHeld ?_
                simp only [Act.put, List.setIfInBounds_toArray, List.set_cons_zero, List.set_cons_succ, List.getElem_cons_zero, List.getElem_cons_succ, List.getElem_toArray]
                refine wpAnyH_take (i := 9) (v := undef) rfl (by kernel_rfl) (by kernel_rfl) (by kernel_rfl) (fun _ _ _ h => h) (Or.inr ⟨by rfl, rfl⟩) hHeld ?_
                simp only [Act.put, List.setIfInBounds_toArray, List.set_cons_zero, List.set_cons_succ, List.getElem_cons_zero, List.getElem_cons_succ, List.getElem_toArray]
                refine wpAnyH_take (i := 10) (v := undef) rfl (by kernel_rfl) (by kernel_rfl) (by kernel_rfl) (fun _ _ _ h => h) (Or.inr ⟨by rfl, rfl⟩) hHeld ?_
                simp only [Act.put, List.setIfInBounds_toArray, List.set_cons_zero, List.set_cons_succ, List.getElem_cons_zero, List.getElem_cons_succ, List.getElem_toArray]
                refine wpAnyH_take (i := 11) (v := undef) rfl (by kernel_rfl) (by kernel_rfl) (by kernel_rfl) (fun _ _ _ h => h) (Or.inr ⟨by rfl, rfl⟩) hHeld ?_
                simp only [Act.put, List.setIfInBounds_toArray, List.set_cons_zero, List.set_cons_succ, List.getElem_cons_zero, List.getElem_cons_succ, List.getElem_toArray]
                refine wpAnyH_take (i := 12) (v := .bool true) rfl (by kernel_rfl) (by kernel_rfl) (by kernel_rfl) (fun _ _ _ h => h) (Or.inl ⟨by rfl, fun w' hSw => by (go_simp)⟩) hHeld ?_
                simp only [Act.put, List.setIfInBounds_toArray, List.set_cons_zero, List.set_cons_succ, List.getElem_cons_zero, List.getElem_cons_succ, List.getElem_toArray]
                refine wpAnyH_done (by kernel_rfl) ?_ _
                clear hHeld
                go_wp2_with fail
                go_ret
                exact ⟨ret_bool HR.out, HT3.out.up⟩
        · rw [mc_no fun q => c3 q.2.2.2.1]
          have c3' : ((n : Int) != (xs.length : Int)) = true := by simp; omega
          clear h hg he
          unfold Tab.val
          go_enter Tryz.func11, Tryz.ntmps11
          go_wp2_with (first
            | (go_at_call 28; refine Calls.mono (HU.out _ (by go_grown)) ?_; rintro e w1 ⟨rfl, b1⟩; have HT : Hid (Cx w w1 t E a n ccap S) := cx_start w t E S a n ccap b1; clear b1 HU; have k2 := HT.out.t; have qu0 := k2.cu 0 (by decide); have qu1 := k2.cu 1 (by decide); have qu2 := k2.cu 2 (by decide); have qu3 := k2.cu 3 (by decide); have ql0 := k2.cl 0 (by decide); have ql1 := k2.cl 1 (by decide); have ql2 := k2.cl 2 (by decide); have ql3 := k2.cl 3 (by decide); have qb0 := k2.cb 0 (by decide); have qb1 := k2.cb 1 (by decide); have qb2 := k2.cb 2 (by decide); have qb3 := k2.cb 3 (by decide); have qd := k2.cd; have qz := k2.lt; clear k2; have p0 := HT.out.p.c 0 _ rfl; have p1 := HT.out.p.c 1 _ rfl; have p2 := HT.out.p.c 2 _ rfl; have pz := HT.out.p.lt))
          go_ret
          exact ⟨rfl, HT.out.up⟩
  · rw [mc_no fun q => he q.1]
    have he' : (rgE t xs != 0) = true := by simpa using he
    clear h hg
    generalize rgE t xs = er at *
    generalize leE t xs = un at HU
    unfold Tab.val
    go_enter Tryz.func11, Tryz.ntmps11
    go_wp2_with (first
      | (go_at_call 28; refine Calls.mono (HU.out _ (by go_grown)) ?_; rintro e w1 ⟨rfl, b1⟩; have HT : Hid (Cx w w1 t E a n ccap S) := cx_start w t E S a n ccap b1; clear b1 HU))
    go_ret
    exact ⟨rfl, HT.out.up⟩
end Go.Proofs.YteccifanbgcakaaGreatDoor.Mo
