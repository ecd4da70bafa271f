/- ModuloLeast over the program: no plan that is taken begins rounds more often than the bounds let it, and with rounds further apart dependences are still kept. Conditions: the lists lie in memory, the variables as the program lays them. -/
import Derived.Test.YteccifanbgcakaaGreatDoorM35
import Derived.Test.YteccifanbgcakaaGreatDoorM40
namespace Go.Proofs.YteccifanbgcakaaGreatDoor.Mo
open Go.ChangeShapes Go.WideShapes Go.ChangeAt Go.RowKit
open _root_.Go.Proofs.YteccifanbgcakaaGreatDoor.Op _root_.Go.Proofs.YteccifanbgcakaaGreatDoor.So _root_.Go.Proofs.YteccifanbgcakaaGreatDoor.Dp _root_.Go.Proofs.YteccifanbgcakaaGreatDoor.Bn
open _root_.Go.Proofs.YteccifanbgcakaaGreatDoor.Ls (clN clN_at clN_lt Nl arC arC_all arC_yes arC_no areCycles_any)
open _root_.Go.Proofs.YteccifanbgcakaaGreatDoor.Rv (RAt Few frB tkF tk_few take_any evOk NwOut ring_ok tn addK)
open _root_.Go.Proofs.YteccifanbgcakaaGreatDoor.Tb (Tab TabAt Bnds)
set_option maxRecDepth 20000

set_option maxHeartbeats 16000000 in
theorem law_least (a ao : Option Addr) (n ccap cap : Nat) (xs : List O) (t : Tab) (g : Nat → Int) (E S : Int) (w : World) (hg : Nl w a n g) (h : OpsAt w ao xs) (hcap : xs.length ≤ cap) (hG : Bnds w) (hnn : n ≤ 9000000000000000000) :
    Calls Tryz.prog 7 #[.slice ao xs.length cap, t.val, .agg #[.int .i64 E, .slice a n ccap, .int .i64 S]] w fun e w' => e = .returned (.bool true) ∧ Below w.heap.size w w' := by
  have HW : Hid (∀ W, Below w.heap.size w W → Calls Tryz.prog 8 #[] W fun e w' => e = .returned (.bool true) ∧ Below W.heap.size W w') := fun W hb => wakes_any W (hG.below hb hG.big)
  have HC : Hid (∀ W, Below w.heap.size w W → Calls Tryz.prog 10 #[.slice ao xs.length cap, .agg #[.int .i64 (t.u 0), .int .i64 (t.u 1), .int .i64 (t.u 2), .int .i64 (t.u 3), .int .i64 (t.l 0), .int .i64 (t.l 1), .int .i64 (t.l 2), .int .i64 (t.l 3), .int .i64 (t.b 0), .int .i64 (t.b 1), .int .i64 (t.b 2), .int .i64 (t.b 3), .int .i64 t.d], .agg #[.int .i64 E, .slice a n ccap, .int .i64 S]] W fun e w' => e = .returned (.bool (mcB t xs n g E S)) ∧ Below W.heap.size W w') := fun W hb => check_any a ao n ccap cap xs t g E S W (hg.up hb) (h.below hb) hcap (hG.below hb hG.big) hnn
  have HT0 : Hid (Cx w ((w.alloc (.cells #[.int .i64 (t.u 0), .int .i64 (t.u 1), .int .i64 (t.u 2), .int .i64 (t.u 3), .int .i64 (t.l 0), .int .i64 (t.l 1), .int .i64 (t.l 2), .int .i64 (t.l 3), .int .i64 (t.b 0), .int .i64 (t.b 1), .int .i64 (t.b 2), .int .i64 (t.b 3), .int .i64 t.d] 25)).alloc (.cells #[.int .i64 E, .slice a n ccap, .int .i64 S] 28)) t E a n ccap S) := cx_new w t E S a n ccap
  have hlen := h.len
  have hli : (xs.length : Int) ≤ 8796093022208 := by omega
  have hni : (n : Int) ≤ 9000000000000000000 := by omega
  by_cases hl : 60 < xs.length
  · have hl' : (60 : Int) < (xs.length : Int) := by omega
    clear h hcap hG hg HC
    unfold Tab.val
    go_enter Tryz.func7, Tryz.ntmps7
    go_wp2_with (first
      | (go_at_call 8; refine Calls.mono (HW.out _ HT0.out.up) ?_; rintro e w9 ⟨rfl, b9⟩; have HB9 : Hid (Below w.heap.size w w9) := (HT0.out.next b9).up; clear b9 HW HT0))
    go_ret
    exact ⟨rfl, HB9.out⟩
  · have hl' : ¬ (60 : Int) < (xs.length : Int) := by omega
    cases hm : mcB t xs n g E S
    · rw [hm] at HC
      clear h hcap hG hg hm
      have tk := HT0.out.t
      have pk := HT0.out.p
      unfold Tab.val
      go_enter Tryz.func7, Tryz.ntmps7
      go_wp2_with (first
        | (go_at_call 10; refine Calls.mono (HC.out _ HT0.out.up) ?_; rintro e w1 ⟨rfl, b1⟩; have HT : Hid (Cx w w1 t E a n ccap S) := HT0.out.next b1; clear b1 HC HT0)
        | (go_at_call 8; refine Calls.mono (HW.out _ HT.out.up) ?_; rintro e w9 ⟨rfl, b9⟩; have HB9 : Hid (Below w.heap.size w w9) := (HT.out.next b9).up; clear b9 HW HT))
      go_ret
      exact ⟨rfl, HB9.out⟩
    · obtain ⟨hle, hkp⟩ := mc_least h hm
      obtain ⟨he, q2, q3, q4, q5, -, -, -, -⟩ := mc_parts hm
      subst q4
      obtain ⟨ht, hn64, hlis, -⟩ := rg_ok he
      obtain ⟨⟨d0, d4⟩, -⟩ := tab_in ht
      have hgr := arC_all q5
      have HLe : Hid (∀ W, Below w.heap.size w W → Calls Tryz.prog 16 #[.slice ao xs.length cap, .agg #[.int .i64 (t.u 0), .int .i64 (t.u 1), .int .i64 (t.u 2), .int .i64 (t.u 3), .int .i64 (t.l 0), .int .i64 (t.l 1), .int .i64 (t.l 2), .int .i64 (t.l 3), .int .i64 (t.b 0), .int .i64 (t.b 1), .int .i64 (t.b 2), .int .i64 (t.b 3), .int .i64 t.d]] W fun e w' => e = .returned (.tuple #[.int .i64 (leE t xs), .int .i64 0]) ∧ Below W.heap.size W w') := fun W hb => by
        have := least_any ao cap xs t W (h.below hb) hcap (hG.below hb hG.big)
        rw [he] at this
        exact this
      have HLo : Hid (∀ W, Below w.heap.size w W → Calls Tryz.prog 20 #[.slice ao xs.length cap, .agg #[.int .i64 (t.u 0), .int .i64 (t.u 1), .int .i64 (t.u 2), .int .i64 (t.u 3), .int .i64 (t.l 0), .int .i64 (t.l 1), .int .i64 (t.l 2), .int .i64 (t.l 3), .int .i64 (t.b 0), .int .i64 (t.b 1), .int .i64 (t.b 2), .int .i64 (t.b 3), .int .i64 t.d]] W (EdOut W 0 (loopE t xs))) := fun W hb => by
        have := loop_any ao cap xs t W (h.below hb) hcap (hG.below hb hG.big)
        unfold erE at this
        rw [if_pos hlis, hlis] at this
        exact this
      have HEL : Hid (EL xs.length (loopE t xs) ∧ Kp (loopE t xs) g (E + 1)) := ⟨loopE_ok h he, hkp.more (loopE_ok h he) (by omega)⟩
      have hML := loopE_len (t := t) (xs := xs) (by omega)
      have HNl : Hid (Nl w a xs.length g ∧ ∀ k, k < xs.length → 0 ≤ g k ∧ g k ≤ 65536) := ⟨hg, hgr⟩
      rw [hm] at HC
      clear h hcap hG hg hm hkp he hlis ht q5 hgr
      unfold EdOut at HLo
      generalize leE t xs = le at *
      generalize loopE t xs = es at *
      obtain ⟨M, hM⟩ : ∃ M, es.length = M := ⟨_, rfl⟩
      have HM : Hid (es.length = M) := hM
      have hM' : (M : Int) ≤ 100000000 := by omega
      rw [hM] at HLo
      clear hM hML
      generalize xs.length = n at *
      have hn' : (n : Int) ≤ 60 := by omega
      unfold Tab.val
      go_enter Tryz.func7, Tryz.ntmps7
      go_wp2_with (first
        | (go_at_call 10; refine Calls.mono (HC.out _ HT0.out.up) ?_; rintro e w1 ⟨rfl, b1⟩; have HT : Hid (Cx w w1 t E a n ccap S) := HT0.out.next b1; clear b1 HC HT0; have k2 := HT.out.t; have qu0 := k2.cu 0 (by decide); have qu1 := k2.cu 1 (by decide); have qu2 := k2.cu 2 (by decide); have qu3 := k2.cu 3 (by decide); have ql0 := k2.cl 0 (by decide); have ql1 := k2.cl 1 (by decide); have ql2 := k2.cl 2 (by decide); have ql3 := k2.cl 3 (by decide); have qb0 := k2.cb 0 (by decide); have qb1 := k2.cb 1 (by decide); have qb2 := k2.cb 2 (by decide); have qb3 := k2.cb 3 (by decide); have qd := k2.cd; have qz := k2.lt; clear k2)
        | (go_at_call 16; refine Calls.mono (HLe.out _ HT.out.up) ?_; rintro e w2 ⟨rfl, b2⟩; have HT2 : Hid (Cx w w2 t E a n ccap S) := HT.out.next b2; clear b2 HLe HT qu0 qu1 qu2 qu3 ql0 ql1 ql2 ql3 qb0 qb1 qb2 qb3 qd qz; have k2 := HT2.out.t; have qu0 := k2.cu 0 (by decide); have qu1 := k2.cu 1 (by decide); have qu2 := k2.cu 2 (by decide); have qu3 := k2.cu 3 (by decide); have ql0 := k2.cl 0 (by decide); have ql1 := k2.cl 1 (by decide); have ql2 := k2.cl 2 (by decide); have ql3 := k2.cl 3 (by decide); have qb0 := k2.cb 0 (by decide); have qb1 := k2.cb 1 (by decide); have qb2 := k2.cb 2 (by decide); have qb3 := k2.cb 3 (by decide); have qd := k2.cd; have qz := k2.lt; clear k2)
        | (go_at_call 20; refine Calls.mono (HLo.out _ HT2.out.up) ?_; rintro e w3 ⟨ea, ec, rfl, o3, b3⟩; have HT3 : Hid (Cx w w3 t E a n ccap S ∧ Es w3 ea es) := ⟨HT2.out.next b3, es_of o3⟩; clear b3 o3 HLo HT2 qu0 qu1 qu2 qu3 ql0 ql1 ql2 ql3 qb0 qb1 qb2 qb3 qd qz; have p0 := HT3.out.1.p.c 0 _ rfl; have p1 := HT3.out.1.p.c 1 _ rfl; have p2 := HT3.out.1.p.c 2 _ rfl; have pz := HT3.out.1.p.lt))
      go_loopw [11] (fun v wr => ∃ k : Nat, k ≤ M ∧ v = .int .i64 k ∧ Cx w wr t E a n ccap S ∧ Es wr ea es) (fun v _ => M - (intOf v).toNat)
      case atStart => exact ⟨0, by omega, rfl, HT3.out⟩
      case round =>
        rename World => wr
        obtain ⟨k, hk, rfl, hq⟩ := hrel
        have HQ : Hid (Cx w wr t E a n ccap S ∧ Es wr ea es) := hq
        clear hq HT3 p0 p1 p2 pz
        by_cases hlt : k < M
        · have k0 : (0 : Int) ≤ (k : Int) := by omega
          have k1 : (k : Int) < (M : Int) := by omega
          have hke : k < es.length := by rw [HM.out]; exact hlt
          obtain ⟨eb, rfl, l1, f0, f1, f2, f3, f4⟩ := HQ.out.2.2 k hke
          have hm := HEL.out.1 _ (List.getElem_mem hke)
          have hkp := HEL.out.2 _ (List.getElem_mem hke)
          have g1 := hm.f0
          have g2 := hm.fn
          have g3 := hm.t0
          have g4 := hm.tn
          have g5 := hm.l0
          have g6 := hm.l8
          have g7 : es[k].d = 0 ∨ es[k].d = 1 := by rcases hm.d with ⟨h, -⟩ | h; exact .inl h; exact .inr h
          have HX : Hid ((Cx w (wr.alloc (.cells #[.int .i64 es[k].f, .int .i64 es[k].t, .int .i64 es[k].l, .int .i64 es[k].d, .int .i8 es[k].y] 51)) t E a n ccap S ∧ Es (wr.alloc (.cells #[.int .i64 es[k].f, .int .i64 es[k].t, .int .i64 es[k].l, .int .i64 es[k].d, .int .i8 es[k].y] 51)) (some ⟨eb, 0, none⟩) es) ∧ At (wr.alloc (.cells #[.int .i64 es[k].f, .int .i64 es[k].t, .int .i64 es[k].l, .int .i64 es[k].d, .int .i8 es[k].y] 51)) wr.heap.size #[.int .i64 es[k].f, .int .i64 es[k].t, .int .i64 es[k].l, .int .i64 es[k].d, .int .i8 es[k].y]) := by
            have gg : Below wr.heap.size wr (wr.alloc (.cells #[.int .i64 es[k].f, .int .i64 es[k].t, .int .i64 es[k].l, .int .i64 es[k].d, .int .i8 es[k].y] 51)) := (Below.refl _ _).alloc (Nat.le_refl _) _
            exact ⟨⟨HQ.out.1.next gg, HQ.out.2.up gg⟩, At.new _ _ _⟩
          clear hm
          generalize es[k] = x at *
          obtain ⟨xf, xt, xl, xd, xy⟩ := x
          obtain ⟨fi, rfl⟩ : ∃ fi : Nat, xf = fi := ⟨xf.toNat, by have g1 : 0 ≤ xf := g1; omega⟩
          obtain ⟨ti, rfl⟩ : ∃ ti : Nat, xt = ti := ⟨xt.toNat, by have g3 : 0 ≤ xt := g3; omega⟩
          have g2 : (fi : Int) < (n : Int) := g2
          have g4 : (ti : Int) < (n : Int) := g4
          have g5 : 0 ≤ xl := g5
          have g6 : xl ≤ 8 := g6
          have g7 : xd = 0 ∨ xd = 1 := g7
          have g8 : (0 : Int) ≤ (fi : Int) := by omega
          have g9 : (0 : Int) ≤ (ti : Int) := by omega
          have hkp : g fi + xl ≤ g ti + xd * (E + 1) := hkp
          obtain ⟨h1, h2⟩ := HNl.out.2 fi (by omega)
          obtain ⟨h3, h4⟩ := HNl.out.2 ti (by omega)
          clear g1 g3
          go_upto_region 11 with fail
          generalize (wr.alloc (.cells #[.int .i64 (fi : Int), .int .i64 (ti : Int), .int .i64 xl, .int .i64 xd, .int .i8 xy] 51)) = X at *
          generalize wr.heap.size = ob at *
          clear f0 f1 f2 f3 f4 l1 HQ
          have s2 := HX.out.2
          have o0 := s2.c 0 _ rfl
          have o1 := s2.c 1 _ rfl
          have o2 := s2.c 2 _ rfl
          have o3 := s2.c 3 _ rfl
          have ol := s2.lt
          have s3 := HX.out.1.1.p
          have p0 := s3.c 0 _ rfl
          have p1 := s3.c 1 _ rfl
          have pl := s3.lt
          obtain ⟨b, f, rfl, hz2, hx⟩ := (HNl.out.1.up HX.out.1.1.up).is (by omega)
          have cf := hx fi (by omega)
          have ct := hx ti (by omega)
          clear hx s2 s3
          obtain ⟨vf, hvf⟩ : ∃ v, g fi = v := ⟨_, rfl⟩
          obtain ⟨vt, hvt⟩ : ∃ v, g ti = v := ⟨_, rfl⟩
          rw [hvf] at hkp h1 h2 cf
          rw [hvt] at hkp h3 h4 ct
          clear hvf hvt
          obtain ⟨q, hq⟩ : ∃ q, xd * (E + 1) = q := ⟨_, rfl⟩
          have q0 : 0 ≤ q ∧ q ≤ 65537 := by rcases g7 with rfl | rfl <;> omega
          obtain ⟨q1, q2⟩ := q0
          rw [hq] at hkp
          have hqw : IntKind.i64.wrap (xd * (E + 1)) = q := by rw [hq, IntKind.wrap_i64]; omega
          have hEw : IntKind.i64.wrap (E + 1) = E + 1 := by rw [IntKind.wrap_i64]; omega
          have hc : ¬ vt + q < vf + xl := by omega
          clear g7 hq
          go_quiet (fail)
          go_wp2_with fail
          go_roundw
          case rel => exact ⟨k + 1, by omega, by go_num, HX.out.1.1.next ⟨rfl, rfl, rfl, Nat.le_refl _, fun _ _ => rfl⟩, HX.out.1.2.up ⟨rfl, rfl, rfl, Nat.le_refl _, fun _ _ => rfl⟩⟩
          case measure => simp [intOf]; omega
        · obtain rfl : k = M := by omega
          have k1 : ¬ (k : Int) < (k : Int) := by omega
          have HQ1 : Hid (Cx w wr t E a n ccap S) := HQ.out.1
          go_wp2_with (first
            | (go_at_call 8; refine Calls.mono (HW.out _ HQ1.out.up) ?_; rintro e w9 ⟨rfl, b9⟩; have HB9 : Hid (Below w.heap.size w w9) := (HQ1.out.next b9).up; clear b9 HW HQ1))
          go_ret
          exact ⟨rfl, HB9.out⟩
end Go.Proofs.YteccifanbgcakaaGreatDoor.Mo
