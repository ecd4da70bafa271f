/- Package modulo: a body's dependences, whether a plan is right (edgesOf, Check), read off the program by the walk. Conditions: the lists lie in memory, the variables as the program lays them. -/
import Derived.Test.YteccifanbgcakaaGreatDoorN34
namespace Go.Proofs.YteccifanbgcakaaGreatDoor.Mo
open Go.ChangeShapes Go.WideShapes Go.ChangeAt Go.RowKit
open _root_.Go.Proofs.YteccifanbgcakaaGreatDoor.Op _root_.Go.Proofs.YteccifanbgcakaaGreatDoor.So _root_.Go.Proofs.YteccifanbgcakaaGreatDoor.Dp _root_.Go.Proofs.YteccifanbgcakaaGreatDoor.Bn
open _root_.Go.Proofs.YteccifanbgcakaaGreatDoor.Ls (clN clN_at clN_lt Nl arC arC_all arC_yes arC_no areCycles_any)
open _root_.Go.Proofs.YteccifanbgcakaaGreatDoor.Rv (RAt Few frB tkF tk_few take_any evOk NwOut ring_ok tn addK)
open _root_.Go.Proofs.YteccifanbgcakaaGreatDoor.Tb (Tab TabAt Bnds)
set_option maxRecDepth 20000

set_option maxHeartbeats 2000000 in
theorem edges_any (ao : Option Addr) (cap : Nat) (xs : List O) (t : Tab) (w : World) (h : OpsAt w ao xs) (hcap : xs.length ≤ cap) (hG : Bnds w) (he : lisE t xs = 0) :
    Calls Tryz.prog 26 #[.slice ao xs.length cap, t.val] w fun e w' => ∃ a c, e = .returned (.slice a (loopE t xs).length c) ∧ EOwn w.heap.size w' a c (loopE t xs) ∧ Below w.heap.size w w' := by
  have HL : Hid (∀ W, Below w.heap.size w W → Calls Tryz.prog 20 #[.slice ao xs.length cap, t.val] W (EdOut W 0 (loopE t xs))) := fun W hb => by
    have := loop_any ao cap xs t W (h.below hb) hcap (hG.below hb hG.big)
    unfold erE at this
    rw [if_pos he, he] at this
    exact this
  have hlen := h.len
  clear h hcap hG he
  unfold EdOut at HL
  generalize loopE t xs = es at *
  unfold Tab.val at *
  go_enter Tryz.func26, Tryz.ntmps26
  go_wp2_with (first
    | (go_at_call 20; refine Calls.mono (HL.out _ (by go_grown)) ?_; rintro e w2 ⟨ea, ec, rfl, ho, hb⟩; have HT : Hid (EOwn w.heap.size w2 ea ec es ∧ Below w.heap.size w w2) := ⟨rowB ho (by simp), Below.trans (by go_grown) (hb.mono (by simp))⟩; clear ho hb HL))
  go_ret
  exact ⟨ea, ec, rfl, HT.out.1, HT.out.2⟩
/-- What Check answers. -/
def mcB (t : Tab) (xs : List O) (n : Nat) (g : Nat → Int) (E S : Int) : Bool := decide (rgE t xs = 0) && decide (1 + t.d ≤ E) && decide (E ≤ 65536) && decide (n = xs.length) && arC n g && decide (S ≤ 31) && decide (S = stg n g E) && (kpB (loopE t xs) g E && kuB t xs g E)
theorem mc_parts {t : Tab} {xs : List O} {n : Nat} {g : Nat → Int} {E S : Int} (h : mcB t xs n g E S = true) : rgE t xs = 0 ∧ 1 + t.d ≤ E ∧ E ≤ 65536 ∧ n = xs.length ∧ arC n g = true ∧ S ≤ 31 ∧ S = stg n g E ∧ kpB (loopE t xs) g E = true ∧ kuB t xs g E = true := by
  unfold mcB at h
  simp only [Bool.and_eq_true, decide_eq_true_eq] at h
  obtain ⟨⟨⟨⟨⟨⟨⟨h1, h2⟩, h3⟩, h4⟩, h5⟩, h6⟩, h7⟩, h8, h9⟩ := h
  exact ⟨h1, h2, h3, h4, h5, h6, h7, h8, h9⟩
theorem mc_no {t : Tab} {xs : List O} {n : Nat} {g : Nat → Int} {E S : Int} (h : ¬ (rgE t xs = 0 ∧ 1 + t.d ≤ E ∧ E ≤ 65536 ∧ n = xs.length ∧ arC n g = true ∧ S ≤ 31 ∧ S = stg n g E)) : mcB t xs n g E S = false := by
  cases e : mcB t xs n g E S
  · rfl
  · obtain ⟨h1, h2, h3, h4, h5, h6, h7, -, -⟩ := mc_parts e
    exact absurd ⟨h1, h2, h3, h4, h5, h6, h7⟩ h
theorem mc_last {t : Tab} {xs : List O} {n : Nat} {g : Nat → Int} {E S : Int} (h1 : rgE t xs = 0) (h2 : 1 + t.d ≤ E) (h3 : E ≤ 65536) (h4 : n = xs.length) (h5 : arC n g = true) (h6 : S ≤ 31) (h7 : S = stg n g E) : mcB t xs n g E S = (kpB (loopE t xs) g E && kuB t xs g E) := by
  unfold mcB
  rw [decide_eq_true h1, decide_eq_true h2, decide_eq_true h3, decide_eq_true h4, h5, decide_eq_true h6, decide_eq_true h7]
  rfl
/-- Where Check has come to: its table and its plan in their boxes. -/
structure Cx (w W : World) (t : Tab) (E : Int) (a : Option Addr) (n ccap : Nat) (S : Int) : Prop where
  t : TabAt W w.heap.size t
  p : At W (w.heap.size + 1) #[.int .i64 E, .slice a n ccap, .int .i64 S]
  up : Below w.heap.size w W
theorem Cx.next {w W W' : World} {t : Tab} {E : Int} {a : Option Addr} {n ccap : Nat} {S : Int} (h : Cx w W t E a n ccap S) (g : Below W.heap.size W W') : Cx w W' t E a n ccap S := ⟨h.t.below g h.t.lt, h.p.below g h.p.lt, h.up.trans (g.mono h.up.size)⟩
theorem cx_new (w : World) (t : Tab) (E S : Int) (a : Option Addr) (n ccap : Nat) : Cx w ((w.alloc (.cells t.cells 25)).alloc (.cells #[.int .i64 E, .slice a n ccap, .int .i64 S] 28)) t E a n ccap S := by
  have a1 := Tb.tabAt_new w t 25
  have a2 := At.new (w.alloc (.cells t.cells 25)) #[.int .i64 E, .slice a n ccap, .int .i64 S] 28
  rw [show (w.alloc (.cells t.cells 25)).heap.size = w.heap.size + 1 by simp] at a2
  exact ⟨a1.below ((Below.refl _ _).alloc (Nat.le_refl _) _) a1.lt, a2, by go_grown⟩
theorem cx_start (w : World) (t : Tab) (E S : Int) (a : Option Addr) (n ccap : Nat) {W : World} (hb : Below ((w.alloc (.cells t.cells 25)).alloc (.cells #[.int .i64 E, .slice a n ccap, .int .i64 S] 28)).heap.size ((w.alloc (.cells t.cells 25)).alloc (.cells #[.int .i64 E, .slice a n ccap, .int .i64 S] 28)) W) : Cx w W t E a n ccap S := (cx_new w t E S a n ccap).next hb
set_option maxHeartbeats 16000000 in
theorem check_any (a ao : Option Addr) (n ccap cap : Nat) (xs : List O) (t : Tab) (g : Nat → Int) (E S : Int) (w : World) (hg : Nl w a n g) (h : OpsAt w ao xs) (hcap : xs.length ≤ cap) (hG : Bnds w) (hnn : n ≤ 9000000000000000000) :
    Calls Tryz.prog 10 #[.slice ao xs.length cap, t.val, .agg #[.int .i64 E, .slice a n ccap, .int .i64 S]] w fun e w' => e = .returned (.bool (mcB t xs n g E S)) ∧ Below w.heap.size w w' := by
  have HU : Hid (∀ W, Below w.heap.size w W → Calls Tryz.prog 22 #[.slice ao xs.length cap, .agg #[.int .i64 (t.u 0), .int .i64 (t.u 1), .int .i64 (t.u 2), .int .i64 (t.u 3), .int .i64 (t.l 0), .int .i64 (t.l 1), .int .i64 (t.l 2), .int .i64 (t.l 3), .int .i64 (t.b 0), .int .i64 (t.b 1), .int .i64 (t.b 2), .int .i64 (t.b 3), .int .i64 t.d]] W fun e w' => e = .returned (.tuple #[.int .i64 (unE t xs), .int .i64 (rgE t xs)]) ∧ Below W.heap.size W w') := fun W hb => units_any ao cap xs t W (h.below hb) hcap (hG.below hb hG.big)
  have hlen := h.len
  have hni : (n : Int) ≤ 9000000000000000000 := by omega
  have hli : (xs.length : Int) ≤ 8796093022208 := by omega
  by_cases he : rgE t xs = 0
  · obtain ⟨ht, hn64, hlis, hhu⟩ := rg_ok he
    obtain ⟨⟨d0, d4⟩, -⟩ := tab_in ht
    rw [he] at HU
    generalize unE t xs = un at HU
    by_cases c1 : E < 1 + t.d
    · rw [mc_no fun q => by omega]
      clear h hcap hG hg he
      unfold Tab.val
      go_enter Tryz.func10, Tryz.ntmps10
      go_wp2_with (first
        | (go_at_call 22; refine Calls.mono (HU.out _ (by go_grown)) ?_; rintro e w1 ⟨rfl, b1⟩; have HT : Hid (Cx w w1 t E a n ccap S) := cx_start w t E S a n ccap b1; clear b1 HU; have k2 := HT.out.t; have qu0 := k2.cu 0 (by decide); have qu1 := k2.cu 1 (by decide); have qu2 := k2.cu 2 (by decide); have qu3 := k2.cu 3 (by decide); have ql0 := k2.cl 0 (by decide); have ql1 := k2.cl 1 (by decide); have ql2 := k2.cl 2 (by decide); have ql3 := k2.cl 3 (by decide); have qb0 := k2.cb 0 (by decide); have qb1 := k2.cb 1 (by decide); have qb2 := k2.cb 2 (by decide); have qb3 := k2.cb 3 (by decide); have qd := k2.cd; have qz := k2.lt; clear k2; have p0 := HT.out.p.c 0 _ rfl; have p1 := HT.out.p.c 1 _ rfl; have p2 := HT.out.p.c 2 _ rfl; have pz := HT.out.p.lt))
      go_ret
      exact ⟨rfl, HT.out.up⟩
    · have c1' : 1 + t.d ≤ E := by omega
      by_cases c2 : 65536 < E
      · rw [mc_no fun q => by omega]
        clear h hcap hG hg he
        unfold Tab.val
        go_enter Tryz.func10, Tryz.ntmps10
        go_wp2_with (first
          | (go_at_call 22; refine Calls.mono (HU.out _ (by go_grown)) ?_; rintro e w1 ⟨rfl, b1⟩; have HT : Hid (Cx w w1 t E a n ccap S) := cx_start w t E S a n ccap b1; clear b1 HU; have k2 := HT.out.t; have qu0 := k2.cu 0 (by decide); have qu1 := k2.cu 1 (by decide); have qu2 := k2.cu 2 (by decide); have qu3 := k2.cu 3 (by decide); have ql0 := k2.cl 0 (by decide); have ql1 := k2.cl 1 (by decide); have ql2 := k2.cl 2 (by decide); have ql3 := k2.cl 3 (by decide); have qb0 := k2.cb 0 (by decide); have qb1 := k2.cb 1 (by decide); have qb2 := k2.cb 2 (by decide); have qb3 := k2.cb 3 (by decide); have qd := k2.cd; have qz := k2.lt; clear k2; have p0 := HT.out.p.c 0 _ rfl; have p1 := HT.out.p.c 1 _ rfl; have p2 := HT.out.p.c 2 _ rfl; have pz := HT.out.p.lt))
        go_ret
        exact ⟨rfl, HT.out.up⟩
      · have c2' : E ≤ 65536 := by omega
        by_cases c3 : n = xs.length
        · subst c3
          have HA : Hid (∀ W, Below w.heap.size w W → Calls Tryz.prog 23 #[.slice a xs.length ccap] W fun e w' => e = .returned (.bool (arC xs.length g)) ∧ Below W.heap.size W w') := fun W hb => areCycles_any a xs.length ccap g W (hg.up hb) (by omega)
          cases c4 : arC xs.length g
          · rw [mc_no fun q => by rw [q.2.2.2.2.1] at c4; cases c4]
            rw [c4] at HA
            clear h hcap hG hg he
            generalize xs.length = n at *
            unfold Tab.val
            go_enter Tryz.func10, Tryz.ntmps10
            go_wp2_with (first
              | (go_at_call 22; refine Calls.mono (HU.out _ (by go_grown)) ?_; rintro e w1 ⟨rfl, b1⟩; have HT : Hid (Cx w w1 t E a n ccap S) := cx_start w t E S a n ccap b1; clear b1 HU; have k2 := HT.out.t; have qu0 := k2.cu 0 (by decide); have qu1 := k2.cu 1 (by decide); have qu2 := k2.cu 2 (by decide); have qu3 := k2.cu 3 (by decide); have ql0 := k2.cl 0 (by decide); have ql1 := k2.cl 1 (by decide); have ql2 := k2.cl 2 (by decide); have ql3 := k2.cl 3 (by decide); have qb0 := k2.cb 0 (by decide); have qb1 := k2.cb 1 (by decide); have qb2 := k2.cb 2 (by decide); have qb3 := k2.cb 3 (by decide); have qd := k2.cd; have qz := k2.lt; clear k2; have p0 := HT.out.p.c 0 _ rfl; have p1 := HT.out.p.c 1 _ rfl; have p2 := HT.out.p.c 2 _ rfl; have pz := HT.out.p.lt)
              | (go_at_call 23; refine Calls.mono (HA.out _ HT.out.up) ?_; rintro e w2 ⟨rfl, b2⟩; have HT2 : Hid (Cx w w2 t E a n ccap S) := HT.out.next b2; clear b2 HA HT qu0 qu1 qu2 qu3 ql0 ql1 ql2 ql3 qb0 qb1 qb2 qb3 qd qz p0 p1 p2 pz))
            go_ret
            exact ⟨rfl, HT2.out.up⟩
          · rw [c4] at HA
            have hgr := arC_all c4
            have hwr1 : IntKind.i64.wrap (1 + t.d) = 1 + t.d := by rw [IntKind.wrap_i64]; omega
            have HS : Hid (∀ W, Below w.heap.size w W → Calls Tryz.prog 24 #[.slice a xs.length ccap, .int .i64 E] W fun e w' => e = .returned (.int .i64 (stg xs.length g E)) ∧ Below W.heap.size W w') := fun W hb => stages_any a xs.length ccap g E W (hg.up hb) (by omega) hgr (by omega) c2'
            have HEg : Hid (∀ W, Below w.heap.size w W → Calls Tryz.prog 26 #[.slice ao xs.length cap, .agg #[.int .i64 (t.u 0), .int .i64 (t.u 1), .int .i64 (t.u 2), .int .i64 (t.u 3), .int .i64 (t.l 0), .int .i64 (t.l 1), .int .i64 (t.l 2), .int .i64 (t.l 3), .int .i64 (t.b 0), .int .i64 (t.b 1), .int .i64 (t.b 2), .int .i64 (t.b 3), .int .i64 t.d]] W fun e w' => ∃ a c, e = .returned (.slice a (loopE t xs).length c) ∧ EOwn W.heap.size w' a c (loopE t xs) ∧ Below W.heap.size W w') := fun W hb => edges_any ao cap xs t W (h.below hb) hcap (hG.below hb hG.big) hlis
            have HKe : Hid (∀ W ea ec, Below w.heap.size w W → Es W ea (loopE t xs) → Calls Tryz.prog 25 #[.agg #[.int .i64 E, .slice a xs.length ccap, .int .i64 S], .slice ea (loopE t xs).length ec] W fun e w' => e = .returned (.bool (kpB (loopE t xs) g E)) ∧ Below W.heap.size W w') := fun W ea ec hb hs => keepEdges_any a xs.length ccap g E S ea ec _ W (hg.up hb) hgr hs (loopE_ok h he) (loopE_len (by omega)) (by omega) (by omega) c2'
            have HKu : Hid (∀ W, Below w.heap.size w W → Calls Tryz.prog 27 #[.agg #[.int .i64 E, .slice a xs.length ccap, .int .i64 S], .slice ao xs.length cap, .agg #[.int .i64 (t.u 0), .int .i64 (t.u 1), .int .i64 (t.u 2), .int .i64 (t.u 3), .int .i64 (t.l 0), .int .i64 (t.l 1), .int .i64 (t.l 2), .int .i64 (t.l 3), .int .i64 (t.b 0), .int .i64 (t.b 1), .int .i64 (t.b 2), .int .i64 (t.b 3), .int .i64 t.d]] W fun e w' => e = .returned (.bool (kuB t xs g E)) ∧ Below W.heap.size W w') := fun W hb => keepUnits_any a ao ccap cap xs t g E S W (hg.up hb) hgr (h.below hb) (by omega) (hG.below hb hG.big) ht c1' c2'
            have HNo : Hid (¬ (S ≤ 31 ∧ S = stg xs.length g E) → mcB t xs xs.length g E S = false) := fun q => mc_no fun p => q p.2.2.2.2.2
            have HLs : Hid (S ≤ 31 → S = stg xs.length g E → mcB t xs xs.length g E S = (kpB (loopE t xs) g E && kuB t xs g E)) := fun q1 q2 => mc_last he c1' c2' rfl c4 q1 q2
            have hst : 1 ≤ stg xs.length g E ∧ stg xs.length g E ≤ 65537 := by
              have m0 := mxN_ge g xs.length
              have m1 : mxN g xs.length ≤ 65536 := mxN_le (by omega) fun k hk => (hgr k hk).2
              have := Int.ediv_nonneg m0 (show (0 : Int) ≤ E by omega)
              have := Int.ediv_le_self E m0
              unfold stg
              omega
            clear h hcap hG hg he hgr hhu hlis ht c4 hn64
            generalize mcB t xs xs.length g E S = R at *
            generalize stg xs.length g E = st at *
            generalize kpB (loopE t xs) g E = be at *
            generalize kuB t xs g E = bu at *
            generalize loopE t xs = es at *
            generalize es.length = M at *
            generalize xs.length = n at *
            obtain ⟨st0, st1⟩ := hst
            unfold Tab.val
            go_enter Tryz.func10, Tryz.ntmps10
            go_upto_region 6 with (first
              | (go_at_call 22; refine Calls.mono (HU.out _ (by go_grown)) ?_; rintro e w1 ⟨rfl, b1⟩; have HT : Hid (Cx w w1 t E a n ccap S) := cx_start w t E S a n ccap b1; clear b1 HU; have k2 := HT.out.t; have qu0 := k2.cu 0 (by decide); have qu1 := k2.cu 1 (by decide); have qu2 := k2.cu 2 (by decide); have qu3 := k2.cu 3 (by decide); have ql0 := k2.cl 0 (by decide); have ql1 := k2.cl 1 (by decide); have ql2 := k2.cl 2 (by decide); have ql3 := k2.cl 3 (by decide); have qb0 := k2.cb 0 (by decide); have qb1 := k2.cb 1 (by decide); have qb2 := k2.cb 2 (by decide); have qb3 := k2.cb 3 (by decide); have qd := k2.cd; have qz := k2.lt; clear k2; have p0 := HT.out.p.c 0 _ rfl; have p1 := HT.out.p.c 1 _ rfl; have p2 := HT.out.p.c 2 _ rfl; have pz := HT.out.p.lt)
              | (go_at_call 23; refine Calls.mono (HA.out _ HT.out.up) ?_; rintro e w2 ⟨rfl, b2⟩; have HT2 : Hid (Cx w w2 t E a n ccap S) := HT.out.next b2; clear b2 HA HT qu0 qu1 qu2 qu3 ql0 ql1 ql2 ql3 qb0 qb1 qb2 qb3 qd qz p0 p1 p2 pz))
            by_cases c5 : 31 < S
            · have HR : Hid (false = R) := (HNo.out (by omega)).symm
              have c5d : decide (31 < S) = true := decide_eq_true c5
              refine wp_region_held_drew (S := fun Z => Cx w Z t E a n ccap S) (by kernel_rfl) (HT2.out.next (drew_up _)) (fun hHeld => ?_)
              refine wpAnyH_take (i := 0) (v := .pointer (some ⟨w.heap.size + 1, 2, none⟩)) rfl (by kernel_rfl) (by kernel_rfl) (by kernel_rfl) (fun _ _ _ h => h) (Or.inl ⟨by rfl, fun w' hSw => by (go_simp)⟩) hHeld ?_
              simp only [Act.put, List.setIfInBounds_toArray, List.set_cons_zero, List.set_cons_succ, List.getElem_cons_zero, List.getElem_toArray]
              refine wpAnyH_take (i := 1) (v := .int .i64 S) rfl (by kernel_rfl) (by kernel_rfl) (by kernel_rfl) (fun _ _ _ h => h) (Or.inl ⟨by rfl, fun w' hSw => by (have hSw : Cx w w' t E a n ccap S := hSw; have y2 := hSw.p.c 2 _ rfl; have yl := hSw.p.lt; go_simp)⟩) hHeld ?_
              simp only [Act.put, List.setIfInBounds_toArray, List.set_cons_zero, List.set_cons_succ, List.getElem_cons_zero, List.getElem_cons_succ, List.getElem_toArray]
              refine wpAnyH_take (i := 2) (v := .bool true) rfl (by kernel_rfl) (by kernel_rfl) (by kernel_rfl) (fun _ _ _ h => h) (Or.inl ⟨by rfl, fun w' hSw => by (go_simp)⟩) hHeld ?_
              simp only [Act.put, List.setIfInBounds_toArray, List.set_cons_zero, List.set_cons_succ, List.getElem_cons_zero, List.getElem_cons_succ, List.getElem_toArray]
              refine wpAnyH_take (i := 3) (v := .bool true) rfl (by kernel_rfl) (by kernel_rfl) (by kernel_rfl) (fun _ _ _ h => h) (Or.inl ⟨by rfl, fun w' hSw => by (go_simp)⟩) hHeld ?_
              simp only [Act.put, List.setIfInBounds_toArray, List.set_cons_zero, List.set_cons_succ, List.getElem_cons_zero, List.getElem_cons_succ, List.getElem_toArray]
              refine wpAnyH_take (i := 4) (v := undef) rfl (by kernel_rfl) (by kernel_rfl) (by kernel_rfl) (fun _ _ _ h => h) (Or.inr ⟨by rfl, rfl⟩) hHeld ?_
              simp only [Act.put, List.setIfInBounds_toArray, List.set_cons_zero, List.set_cons_succ, List.getElem_cons_zero, List.getElem_cons_succ, List.getElem_toArray]
              refine wpAnyH_take (i := 5) (v := undef) rfl (by kernel_rfl) (by kernel_rfl) (by kernel_rfl) (fun _ _ _ h => h) (Or.inr ⟨by rfl, rfl⟩) hHeld ?_
              simp only [Act.put, List.setIfInBounds_toArray, List.set_cons_zero, List.set_cons_succ, List.getElem_cons_zero, List.getElem_cons_succ, List.getElem_toArray]
              refine wpAnyH_take (i := 6) (v := undef) rfl (by kernel_rfl) (by kernel_rfl) (by kernel_rfl) (fun _ _ _ h => h) (Or.inr ⟨by rfl, rfl⟩) hHeld ?_
              simp only [Act.put, List.setIfInBounds_toArray, List.set_cons_zero, List.set_cons_succ, List.getElem_cons_zero, List.getElem_cons_succ, List.getElem_toArray]
              refine wpAnyH_take (i := 7) (v := undef) rfl (by kernel_rfl) (by kernel_rfl) (by kernel_rfl) (fun _ _ _ h => h) (Or.inr ⟨by rfl, rfl⟩) hHeld ?_
              simp only [Act.put, List.setIfInBounds_toArray, List.set_cons_zero, List.set_cons_succ, List.getElem_cons_zero, List.getElem_cons_succ, List.getElem_toArray]
              refine wpAnyH_take (i := 8) (v := undef) rfl (by kernel_rfl) (by kernel_rfl) (by kernel_rfl) (fun _ _ _ h => h) (Or.inr ⟨by rfl, rfl⟩) hHeld ?_
              simp only [Act.put, List.setIfInBounds_toArray, List.set_cons_zero, List.set_cons_succ, List.getElem_cons_zero, List.getElem_cons_succ, List.getElem_toArray]
              refine wpAnyH_take (i := 9) (v := undef) rfl (by kernel_rfl) (by kernel_rfl) (by kernel_rfl) (fun _ _ _ h => h) (Or.inr ⟨by rfl, rfl⟩) hHeld ?_
              simp only [Act.put, List.setIfInBounds_toArray, List.set_cons_zero, List.set_cons_succ, List.getElem_cons_zero, List.getElem_cons_succ, List.getElem_toArray]
              refine wpAnyH_take (i := 10) (v := undef) rfl (by kernel_rfl) (by kernel_rfl) (by kernel_rfl) (fun _ _ _ h => h) (Or.inr ⟨by rfl, rfl⟩) hHeld ?_
              simp only [Act.put, List.setIfInBounds_toArray, List.set_cons_zero, List.set_cons_succ, List.getElem_cons_zero, List.getElem_cons_succ, List.getElem_toArray]
              refine wpAnyH_take (i := 11) (v := undef) rfl (by kernel_rfl) (by kernel_rfl) (by kernel_rfl) (fun _ _ _ h => h) (Or.inr ⟨by rfl, rfl⟩) hHeld ?_
              simp only [Act.put, List.setIfInBounds_toArray, List.set_cons_zero, List.set_cons_succ, List.getElem_cons_zero, List.getElem_cons_succ, List.getElem_toArray]
              refine wpAnyH_take (i := 12) (v := .bool true) rfl (by kernel_rfl) (by kernel_rfl) (by kernel_rfl) (fun _ _ _ h => h) (Or.inl ⟨by rfl, fun w' hSw => by (go_simp)⟩) hHeld ?_
              simp only [Act.put, List.setIfInBounds_toArray, List.set_cons_zero, List.set_cons_succ, List.getElem_cons_zero, List.getElem_cons_succ, List.getElem_toArray]
              refine wpAnyH_done (by kernel_rfl) ?_ _
              clear hHeld
              go_wp2_with fail
              go_ret
              exact ⟨ret_bool HR.out, (HT2.out.next (drew_up _)).up⟩
            · have c5d : decide (31 < S) = false := decide_eq_false c5
              refine wp_region_held_drew (S := fun Z => Cx w Z t E a n ccap S) (by kernel_rfl) (HT2.out.next (drew_up _)) (fun hHeld => ?_)
              refine wpAnyH_take (i := 0) (v := .pointer (some ⟨w.heap.size + 1, 2, none⟩)) rfl (by kernel_rfl) (by kernel_rfl) (by kernel_rfl) (fun _ _ _ h => h) (Or.inl ⟨by rfl, fun w' hSw => by (go_simp)⟩) hHeld ?_
              simp only [Act.put, List.setIfInBounds_toArray, List.set_cons_zero, List.set_cons_succ, List.getElem_cons_zero, List.getElem_toArray]
              refine wpAnyH_take (i := 1) (v := .int .i64 S) rfl (by kernel_rfl) (by kernel_rfl) (by kernel_rfl) (fun _ _ _ h => h) (Or.inl ⟨by rfl, fun w' hSw => by (have hSw : Cx w w' t E a n ccap S := hSw; have y2 := hSw.p.c 2 _ rfl; have yl := hSw.p.lt; go_simp)⟩) hHeld ?_
              simp only [Act.put, List.setIfInBounds_toArray, List.set_cons_zero, List.set_cons_succ, List.getElem_cons_zero, List.getElem_cons_succ, List.getElem_toArray]
              refine wpAnyH_take (i := 2) (v := .bool false) rfl (by kernel_rfl) (by kernel_rfl) (by kernel_rfl) (fun _ _ _ h => h) (Or.inl ⟨by rfl, fun w' hSw => by (go_simp)⟩) hHeld ?_
              simp only [Act.put, List.setIfInBounds_toArray, List.set_cons_zero, List.set_cons_succ, List.getElem_cons_zero, List.getElem_cons_succ, List.getElem_toArray]
              refine wpAnyH_take (i := 3) (v := .bool false) rfl (by kernel_rfl) (by kernel_rfl) (by kernel_rfl) (fun _ _ _ h => h) (Or.inl ⟨by rfl, fun w' hSw => by (go_simp)⟩) hHeld ?_
              simp only [Act.put, List.setIfInBounds_toArray, List.set_cons_zero, List.set_cons_succ, List.getElem_cons_zero, List.getElem_cons_succ, List.getElem_toArray]
              refine wpAnyH_take (i := 4) (v := .pointer (some ⟨w.heap.size + 1, 2, none⟩)) rfl (by kernel_rfl) (by kernel_rfl) (by kernel_rfl) (fun _ _ _ h => h) (Or.inl ⟨by rfl, fun w' hSw => by (go_simp)⟩) hHeld ?_
              simp only [Act.put, List.setIfInBounds_toArray, List.set_cons_zero, List.set_cons_succ, List.getElem_cons_zero, List.getElem_cons_succ, List.getElem_toArray]
              refine wpAnyH_take (i := 5) (v := .int .i64 S) rfl (by kernel_rfl) (by kernel_rfl) (by kernel_rfl) (fun _ _ _ h => h) (Or.inl ⟨by rfl, fun w' hSw => by (have hSw : Cx w w' t E a n ccap S := hSw; have y2 := hSw.p.c 2 _ rfl; have yl := hSw.p.lt; go_simp)⟩) hHeld ?_
              simp only [Act.put, List.setIfInBounds_toArray, List.set_cons_zero, List.set_cons_succ, List.getElem_cons_zero, List.getElem_cons_succ, List.getElem_toArray]
              refine wpAnyH_take (i := 6) (v := .pointer (some ⟨w.heap.size + 1, 1, none⟩)) rfl (by kernel_rfl) (by kernel_rfl) (by kernel_rfl) (fun _ _ _ h => h) (Or.inl ⟨by rfl, fun w' hSw => by (go_simp)⟩) hHeld ?_
              simp only [Act.put, List.setIfInBounds_toArray, List.set_cons_zero, List.set_cons_succ, List.getElem_cons_zero, List.getElem_cons_succ, List.getElem_toArray]
              refine wpAnyH_take (i := 7) (v := .slice a n ccap) rfl (by kernel_rfl) (by kernel_rfl) (by kernel_rfl) (fun _ _ _ h => h) (Or.inl ⟨by rfl, fun w' hSw => by (have hSw : Cx w w' t E a n ccap S := hSw; have y1 := hSw.p.c 1 _ rfl; have yl := hSw.p.lt; go_simp)⟩) hHeld ?_
              simp only [Act.put, List.setIfInBounds_toArray, List.set_cons_zero, List.set_cons_succ, List.getElem_cons_zero, List.getElem_cons_succ, List.getElem_toArray]
              refine wpAnyH_take (i := 8) (v := .pointer (some ⟨w.heap.size + 1, 0, none⟩)) rfl (by kernel_rfl) (by kernel_rfl) (by kernel_rfl) (fun _ _ _ h => h) (Or.inl ⟨by rfl, fun w' hSw => by (go_simp)⟩) hHeld ?_
              simp only [Act.put, List.setIfInBounds_toArray, List.set_cons_zero, List.set_cons_succ, List.getElem_cons_zero, List.getElem_cons_succ, List.getElem_toArray]
              refine wpAnyH_take (i := 9) (v := .int .i64 E) rfl (by kernel_rfl) (by kernel_rfl) (by kernel_rfl) (fun _ _ _ h => h) (Or.inl ⟨by rfl, fun w' hSw => by (have hSw : Cx w w' t E a n ccap S := hSw; have y0 := hSw.p.c 0 _ rfl; have yl := hSw.p.lt; go_simp)⟩) hHeld ?_
              simp only [Act.put, List.setIfInBounds_toArray, List.set_cons_zero, List.set_cons_succ, List.getElem_cons_zero, List.getElem_cons_succ, List.getElem_toArray]
              refine wpAnyH_ready (rs := [10]) (by kernel_rfl) (by simp) ?_
              refine AllReadyH.cons rfl (fun K hK => ?_) AllReadyH.nil
              go_simp
              refine Calls.mono (HS.out _ (HT2.out.next (drew_up _)).up) ?_
              rintro e w3 ⟨rfl, b3⟩
              have HT3 : Hid (Cx w w3 t E a n ccap S) := (HT2.out.next (drew_up _)).next b3; clear b3 HS HT2
              refine hK.out _ _ HT3.out (fun hHeld => ?_)
              clear hK K
              by_cases c6 : S = st
              · subst c6
                have HR : Hid (R = (be && bu)) := HLs.out (by omega) rfl
                refine wpAnyH_take (i := 11) (v := .bool false) rfl (by kernel_rfl) (by kernel_rfl) (by kernel_rfl) (fun _ _ _ h => h) (Or.inl ⟨by rfl, fun w' hSw => by (go_simp)⟩) hHeld ?_
                simp only [Act.put, List.setIfInBounds_toArray, List.set_cons_zero, List.set_cons_succ, List.getElem_cons_zero, List.getElem_cons_succ, List.getElem_toArray]
                refine wpAnyH_take (i := 12) (v := .bool false) rfl (by kernel_rfl) (by kernel_rfl) (by kernel_rfl) (fun _ _ _ h => h) (Or.inl ⟨by rfl, fun w' hSw => by (go_simp)⟩) hHeld ?_
                simp only [Act.put, List.setIfInBounds_toArray, List.set_cons_zero, List.set_cons_succ, List.getElem_cons_zero, List.getElem_cons_succ, List.getElem_toArray]
                refine wpAnyH_done (by kernel_rfl) ?_ _
                clear hHeld
                go_upto_region 8 with fail
                refine wp_region_held_drew (S := fun Z => Cx w Z t E a n ccap S) (by kernel_rfl) (HT3.out.next (drew_up _)) (fun hHeld => ?_)
                refine wpAnyH_take (i := 0) (v := .agg #[.int .i64 E, .slice a n ccap, .int .i64 S]) rfl (by kernel_rfl) (by kernel_rfl) (by kernel_rfl) (fun _ _ _ h => h) (Or.inl ⟨by rfl, fun w' hSw => by (have hSw : Cx w w' t E a n ccap S := hSw; have y0 := hSw.p.c 0 _ rfl; have y1 := hSw.p.c 1 _ rfl; have y2 := hSw.p.c 2 _ rfl; have yl := hSw.p.lt; go_simp)⟩) hHeld ?_
                simp only [Act.put, List.setIfInBounds_toArray, List.set_cons_zero, List.set_cons_succ, List.getElem_cons_zero, List.getElem_toArray]
                refine wpAnyH_take (i := 1) (v := .slice ao n cap) rfl (by kernel_rfl) (by kernel_rfl) (by kernel_rfl) (fun _ _ _ h => h) (Or.inl ⟨by rfl, fun w' hSw => by (go_simp)⟩) hHeld ?_
                simp only [Act.put, List.setIfInBounds_toArray, List.set_cons_zero, List.set_cons_succ, List.getElem_cons_zero, List.getElem_cons_succ, List.getElem_toArray]
                refine wpAnyH_take (i := 2) (v := .agg #[.int .i64 (t.u 0), .int .i64 (t.u 1), .int .i64 (t.u 2), .int .i64 (t.u 3), .int .i64 (t.l 0), .int .i64 (t.l 1), .int .i64 (t.l 2), .int .i64 (t.l 3), .int .i64 (t.b 0), .int .i64 (t.b 1), .int .i64 (t.b 2), .int .i64 (t.b 3), .int .i64 t.d]) rfl (by kernel_rfl) (by kernel_rfl) (by kernel_rfl) (fun _ _ _ h => h) (Or.inl ⟨by rfl, fun w' hSw => by (have hSw : Cx w w' t E a n ccap S := hSw; have k2 := hSw.t; have qu0 := k2.cu 0 (by decide); have qu1 := k2.cu 1 (by decide); have qu2 := k2.cu 2 (by decide); have qu3 := k2.cu 3 (by decide); have ql0 := k2.cl 0 (by decide); have ql1 := k2.cl 1 (by decide); have ql2 := k2.cl 2 (by decide); have ql3 := k2.cl 3 (by decide); have qb0 := k2.cb 0 (by decide); have qb1 := k2.cb 1 (by decide); have qb2 := k2.cb 2 (by decide); have qb3 := k2.cb 3 (by decide); have qd := k2.cd; have qz := k2.lt; clear k2; go_simp)⟩) hHeld ?_
                simp only [Act.put, List.setIfInBounds_toArray, List.set_cons_zero, List.set_cons_succ, List.getElem_cons_zero, List.getElem_cons_succ, List.getElem_toArray]
                refine wpAnyH_ready (rs := [3]) (by kernel_rfl) (by simp) ?_
                refine AllReadyH.cons rfl (fun K hK => ?_) AllReadyH.nil
                go_simp
                refine Calls.mono (HEg.out _ (HT3.out.next (drew_up _)).up) ?_
                rintro e w4 ⟨ea, ec, rfl, o4, b4⟩
                have HT4 : Hid (Cx w w4 t E a n ccap S ∧ Es w4 ea es) := ⟨(HT3.out.next (drew_up _)).next b4, es_of o4⟩; clear b4 o4 HEg HT3
                refine hK.out _ _ HT4.out.1 (fun hHeld => ?_)
                clear hK K
                refine wpAnyH_ready (rs := [4]) (by kernel_rfl) (by simp) ?_
                refine AllReadyH.cons rfl (fun K hK => ?_) AllReadyH.nil
                go_simp
                refine Calls.mono (HKe.out _ _ _ HT4.out.1.up HT4.out.2) ?_
                rintro e w5 ⟨rfl, b5⟩
                have HT5 : Hid (Cx w w5 t E a n ccap S) := HT4.out.1.next b5; clear b5 HKe HT4
                refine hK.out _ _ HT5.out (fun hHeld => ?_)
                clear hK K
                cases be
                · have HR2 : Hid (false = R) := by rw [HR.out]; rfl
                  refine wpAnyH_take (i := 5) (v := .bool false) rfl (by kernel_rfl) (by kernel_rfl) (by kernel_rfl) (fun _ _ _ h => h) (Or.inl ⟨by rfl, fun w' hSw => by (go_simp)⟩) hHeld ?_
                  simp only [Act.put, List.setIfInBounds_toArray, List.set_cons_zero, List.set_cons_succ, List.getElem_cons_zero, List.getElem_cons_succ, List.getElem_toArray]
                  refine wpAnyH_take (i := 6) (v := undef) rfl (by kernel_rfl) (by kernel_rfl) (by kernel_rfl) (fun _ _ _ h => h) (Or.inr ⟨by rfl, rfl⟩) hHeld ?_
                  simp only [Act.put, List.setIfInBounds_toArray, List.set_cons_zero, List.set_cons_succ, List.getElem_cons_zero, List.getElem_cons_succ, List.getElem_toArray]
                  refine wpAnyH_take (i := 7) (v := undef) rfl (by kernel_rfl) (by kernel_rfl) (by kernel_rfl) (fun _ _ _ h => h) (Or.inr ⟨by rfl, rfl⟩) hHeld ?_
                  simp only [Act.put, List.setIfInBounds_toArray, List.set_cons_zero, List.set_cons_succ, List.getElem_cons_zero, List.getElem_cons_succ, List.getElem_toArray]
                  refine wpAnyH_take (i := 8) (v := undef) rfl (by kernel_rfl) (by kernel_rfl) (by kernel_rfl) (fun _ _ _ h => h) (Or.inr ⟨by rfl, rfl⟩) hHeld ?_
                  simp only [Act.put, List.setIfInBounds_toArray, List.set_cons_zero, List.set_cons_succ, List.getElem_cons_zero, List.getElem_cons_succ, List.getElem_toArray]
                  refine wpAnyH_take (i := 9) (v := undef) rfl (by kernel_rfl) (by kernel_rfl) (by kernel_rfl) (fun _ _ _ h => h) (Or.inr ⟨by rfl, rfl⟩) hHeld ?_
                  simp only [Act.put, List.setIfInBounds_toArray, List.set_cons_zero, List.set_cons_succ, List.getElem_cons_zero, List.getElem_cons_succ, List.getElem_toArray]
                  refine wpAnyH_take (i := 10) (v := .bool false) rfl (by kernel_rfl) (by kernel_rfl) (by kernel_rfl) (fun _ _ _ h => h) (Or.inl ⟨by rfl, fun w' hSw => by (go_simp)⟩) hHeld ?_
                  simp only [Act.put, List.setIfInBounds_toArray, List.set_cons_zero, List.set_cons_succ, List.getElem_cons_zero, List.getElem_cons_succ, List.getElem_toArray]
                  refine wpAnyH_take (i := 11) (v := .bool false) rfl (by kernel_rfl) (by kernel_rfl) (by kernel_rfl) (fun _ _ _ h => h) (Or.inl ⟨by rfl, fun w' hSw => by (go_simp)⟩) hHeld ?_
                  simp only [Act.put, List.setIfInBounds_toArray, List.set_cons_zero, List.set_cons_succ, List.getElem_cons_zero, List.getElem_cons_succ, List.getElem_toArray]
                  refine wpAnyH_done (by kernel_rfl) ?_ _
                  clear hHeld
                  go_wp2_with fail
                  go_ret
                  exact ⟨ret_bool HR2.out, HT5.out.up⟩
                · have HR2 : Hid (bu = R) := by rw [HR.out]; cases bu <;> rfl
                  refine wpAnyH_take (i := 5) (v := .bool true) rfl (by kernel_rfl) (by kernel_rfl) (by kernel_rfl) (fun _ _ _ h => h) (Or.inl ⟨by rfl, fun w' hSw => by (go_simp)⟩) hHeld ?_
                  simp only [Act.put, List.setIfInBounds_toArray, List.set_cons_zero, List.set_cons_succ, List.getElem_cons_zero, List.getElem_cons_succ, List.getElem_toArray]
                  refine wpAnyH_take (i := 6) (v := .agg #[.int .i64 E, .slice a n ccap, .int .i64 S]) rfl (by kernel_rfl) (by kernel_rfl) (by kernel_rfl) (fun _ _ _ h => h) (Or.inl ⟨by rfl, fun w' hSw => by (have hSw : Cx w w' t E a n ccap S := hSw; have y0 := hSw.p.c 0 _ rfl; have y1 := hSw.p.c 1 _ rfl; have y2 := hSw.p.c 2 _ rfl; have yl := hSw.p.lt; go_simp)⟩) hHeld ?_
                  simp only [Act.put, List.setIfInBounds_toArray, List.set_cons_zero, List.set_cons_succ, List.getElem_cons_zero, List.getElem_cons_succ, List.getElem_toArray]
                  refine wpAnyH_take (i := 7) (v := .slice ao n cap) rfl (by kernel_rfl) (by kernel_rfl) (by kernel_rfl) (fun _ _ _ h => h) (Or.inl ⟨by rfl, fun w' hSw => by (go_simp)⟩) hHeld ?_
                  simp only [Act.put, List.setIfInBounds_toArray, List.set_cons_zero, List.set_cons_succ, List.getElem_cons_zero, List.getElem_cons_succ, List.getElem_toArray]
                  refine wpAnyH_take (i := 8) (v := .agg #[.int .i64 (t.u 0), .int .i64 (t.u 1), .int .i64 (t.u 2), .int .i64 (t.u 3), .int .i64 (t.l 0), .int .i64 (t.l 1), .int .i64 (t.l 2), .int .i64 (t.l 3), .int .i64 (t.b 0), .int .i64 (t.b 1), .int .i64 (t.b 2), .int .i64 (t.b 3), .int .i64 t.d]) rfl (by kernel_rfl) (by kernel_rfl) (by kernel_rfl) (fun _ _ _ h => h) (Or.inl ⟨by rfl, fun w' hSw => by (have hSw : Cx w w' t E a n ccap S := hSw; have k2 := hSw.t; have qu0 := k2.cu 0 (by decide); have qu1 := k2.cu 1 (by decide); have qu2 := k2.cu 2 (by decide); have qu3 := k2.cu 3 (by decide); have ql0 := k2.cl 0 (by decide); have ql1 := k2.cl 1 (by decide); have ql2 := k2.cl 2 (by decide); have ql3 := k2.cl 3 (by decide); have qb0 := k2.cb 0 (by decide); have qb1 := k2.cb 1 (by decide); have qb2 := k2.cb 2 (by decide); have qb3 := k2.cb 3 (by decide); have qd := k2.cd; have qz := k2.lt; clear k2; go_simp)⟩) hHeld ?_
                  simp only [Act.put, List.setIfInBounds_toArray, List.set_cons_zero, List.set_cons_succ, List.getElem_cons_zero, List.getElem_cons_succ, List.getElem_toArray]
                  refine wpAnyH_ready (rs := [9]) (by kernel_rfl) (by simp) ?_
                  refine AllReadyH.cons rfl (fun K hK => ?_) AllReadyH.nil
                  go_simp
                  refine Calls.mono (HKu.out _ HT5.out.up) ?_
                  rintro e w6 ⟨rfl, b6⟩
                  have HT6 : Hid (Cx w w6 t E a n ccap S) := HT5.out.next b6; clear b6 HKu HT5
                  refine hK.out _ _ HT6.out (fun hHeld => ?_)
                  clear hK K
                  refine wpAnyH_take (i := 10) (v := .bool bu) rfl (by kernel_rfl) (by kernel_rfl) (by kernel_rfl) (fun _ _ _ h => h) (Or.inl ⟨by rfl, fun w' hSw => by (go_simp)⟩) hHeld ?_
                  simp only [Act.put, List.setIfInBounds_toArray, List.set_cons_zero, List.set_cons_succ, List.getElem_cons_zero, List.getElem_cons_succ, List.getElem_toArray]
                  refine wpAnyH_take (i := 11) (v := .bool bu) rfl (by kernel_rfl) (by kernel_rfl) (by kernel_rfl) (fun _ _ _ h => h) (Or.inl ⟨by rfl, fun w' hSw => by (go_simp)⟩) hHeld ?_
                  simp only [Act.put, List.setIfInBounds_toArray, List.set_cons_zero, List.set_cons_succ, List.getElem_cons_zero, List.getElem_cons_succ, List.getElem_toArray]
                  refine wpAnyH_done (by kernel_rfl) ?_ _
                  clear hHeld
                  go_wp2_with fail
                  go_ret
                  exact ⟨ret_bool HR2.out, HT6.out.up⟩
              · have HR : Hid (false = R) := (HNo.out fun q => c6 q.2).symm
                have c6' : (S != st) = true := by simpa using c6
                refine wpAnyH_take (i := 11) (v := .bool true) rfl (by kernel_rfl) (by kernel_rfl) (by kernel_rfl) (fun _ _ _ h => h) (Or.inl ⟨by rfl, fun w' hSw => by (go_simp)⟩) hHeld ?_
                simp only [Act.put, List.setIfInBounds_toArray, List.set_cons_zero, List.set_cons_succ, List.getElem_cons_zero, List.getElem_cons_succ, List.getElem_toArray]
                refine wpAnyH_take (i := 12) (v := .bool true) rfl (by kernel_rfl) (by kernel_rfl) (by kernel_rfl) (fun _ _ _ h => h) (Or.inl ⟨by rfl, fun w' hSw => by (go_simp)⟩) hHeld ?_
                simp only [Act.put, List.setIfInBounds_toArray, List.set_cons_zero, List.set_cons_succ, List.getElem_cons_zero, List.getElem_cons_succ, List.getElem_toArray]
                refine wpAnyH_done (by kernel_rfl) ?_ _
                clear hHeld
                go_wp2_with fail
                go_ret
                exact ⟨ret_bool HR.out, HT3.out.up⟩
        · rw [mc_no fun q => c3 q.2.2.2.1]
          have c3' : ((n : Int) != (xs.length : Int)) = true := by simp; omega
          clear h hcap hG hg he
          unfold Tab.val
          go_enter Tryz.func10, Tryz.ntmps10
          go_wp2_with (first
            | (go_at_call 22; refine Calls.mono (HU.out _ (by go_grown)) ?_; rintro e w1 ⟨rfl, b1⟩; have HT : Hid (Cx w w1 t E a n ccap S) := cx_start w t E S a n ccap b1; clear b1 HU; have k2 := HT.out.t; have qu0 := k2.cu 0 (by decide); have qu1 := k2.cu 1 (by decide); have qu2 := k2.cu 2 (by decide); have qu3 := k2.cu 3 (by decide); have ql0 := k2.cl 0 (by decide); have ql1 := k2.cl 1 (by decide); have ql2 := k2.cl 2 (by decide); have ql3 := k2.cl 3 (by decide); have qb0 := k2.cb 0 (by decide); have qb1 := k2.cb 1 (by decide); have qb2 := k2.cb 2 (by decide); have qb3 := k2.cb 3 (by decide); have qd := k2.cd; have qz := k2.lt; clear k2; have p0 := HT.out.p.c 0 _ rfl; have p1 := HT.out.p.c 1 _ rfl; have p2 := HT.out.p.c 2 _ rfl; have pz := HT.out.p.lt))
          go_ret
          exact ⟨rfl, HT.out.up⟩
  · rw [mc_no fun q => he q.1]
    have he' : (rgE t xs != 0) = true := by simpa using he
    clear h hcap hG hg
    generalize rgE t xs = er at *
    generalize unE t xs = un at HU
    unfold Tab.val
    go_enter Tryz.func10, Tryz.ntmps10
    go_wp2_with (first
      | (go_at_call 22; refine Calls.mono (HU.out _ (by go_grown)) ?_; rintro e w1 ⟨rfl, b1⟩; have HT : Hid (Cx w w1 t E a n ccap S) := cx_start w t E S a n ccap b1; clear b1 HU))
    go_ret
    exact ⟨rfl, HT.out.up⟩
end Go.Proofs.YteccifanbgcakaaGreatDoor.Mo
