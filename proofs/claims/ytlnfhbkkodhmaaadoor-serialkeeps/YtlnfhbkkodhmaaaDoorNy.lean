/- The statement SerialKeeps where New makes a machine: out of what the callees answer. Conditions: the program and the state lie in memory, and the variable as the program lays it. -/
import Derived.Test.YtlnfhbkkodhmaaaDoorNx
namespace Go.Proofs.YtlnfhbkkodhmaaaDoor.Sm
open Go.ChangeShapes Go.WideShapes Go.ChangeAt Go.RowKit
open _root_.Go.Proofs.YtlnfhbkkodhmaaaDoor.Op _root_.Go.Proofs.YtlnfhbkkodhmaaaDoor.So
set_option maxRecDepth 20000

set_option maxHeartbeats 4000000 in
theorem keeps_main (ao ra ma : Option Addr) (cap rc mc : Nat) (ps : List Bk) (rs ms : List Int) (n : Int) (w : World) (h : PAt w ao ps) (he : Env w) (hc : ckP ps = 0) (hs : Sn w ra ma rs ms) (h32 : rs.length ≤ 32) (h256 : ms.length ≤ 256) (hr : ∀ x ∈ rs, In64 x) (hm : ∀ x ∈ ms, In64 x) :
    Calls Tryd.prog 7 #[.agg #[.slice ao ps.length cap], .agg #[.slice ra rs.length rc, .slice ma ms.length mc], .int .i64 n] w fun e w' => e = .returned (.bool true) ∧ Below w.heap.size w w' := by
  have HN : Hid (∀ W, Below w.heap.size w W → Calls Tryd.prog 8 #[.agg #[.slice ao ps.length cap], .agg #[.slice ra rs.length rc, .slice ma ms.length mc]] W (NewPost W ps rs ms)) := fun W hb => new_ok ao ra ma cap rc mc ps rs ms W (h.below hb) (he.up hb) hc (hs.up hb) h32 h256 hr hm
  have HW : Hid (∀ W, Below w.heap.size w W → Calls Tryd.prog 10 #[] W fun e w' => e = .returned (.bool true) ∧ Below W.heap.size W w') := fun W hb => wakes_any W (he.up hb)
  have HP : Hid (PAt w ao ps ∧ AllP ps ∧ PsM ps) := ⟨h, allP_of hc, psM_of (psOk_of h) hc⟩
  have HSt : Hid (∀ W q T, MM W q ps T (initM rs ms) → Calls Tryd.prog 12 #[ptr q, .int .i64 (stN n)] W (RunPost W q ps T (runM ps (min (max (stN n) 0) 1048576).toNat (initM rs ms)))) := fun W q T hmm => run_any (stN n) hmm (steps_lim (stN n))
  have HInv0 : Hid (Inv ps (initM rs ms)) := inv_init (psM_of (psOk_of h) hc) hr hm
  clear h he hc hs h32 h256 hr hm
  generalize rs.length = rl at *
  generalize ms.length = ml at *
  generalize hM2 : runM ps (min (max (stN n) 0) 1048576).toNat (initM rs ms) = M2 at *
  have HM2 : Hid _ := hM2
  clear hM2
  generalize hM0 : initM rs ms = M0 at *
  have HInv : Hid (Inv ps M0) := HInv0.out
  clear HInv0
  have HT0 : Hid (∀ {w' : World}, Below ((w.alloc (.cells #[.slice ao ps.length cap] 24)).alloc (.cells #[.slice ra rl rc, .slice ma ml mc] 27)).heap.size ((w.alloc (.cells #[.slice ao ps.length cap] 24)).alloc (.cells #[.slice ra rl rc, .slice ma ml mc] 27)) w' → Op.At w' w.heap.size #[.slice ao ps.length cap] ∧ Below w.heap.size w w') := fun {w'} hb => by
    obtain ⟨h1, -, h3, -⟩ := two_new w #[.slice ao ps.length cap] #[.slice ra rl rc, .slice ma ml mc] 24 27 hb
    exact ⟨h1, h3⟩
  have hz2 : ((w.alloc (.cells #[.slice ao ps.length cap] 24)).alloc (.cells #[.slice ra rl rc, .slice ma ml mc] 27)).heap.size = w.heap.size + 2 := by simp
  have HZ2 : Hid _ := hz2
  clear hz2
  go_enter Tryd.func7, Tryd.ntmps7
  go_wp2_with (first
    | (go_at_call 8; refine Calls.mono (HN.out _ (by go_grown)) ?_; rintro e w1 ⟨q, T, rfl, hmm, hb1, ht⟩; rw [hM0] at hmm; have HK : Hid (Kh w w1 ao ps.length cap q ps T M0) := ⟨(HT0.out hb1).1, hmm, fun k hk => (by have h5 := ht k hk; rw [HZ2.out] at h5; exact h5), (HT0.out hb1).2⟩; clear hmm hb1 ht HN HT0 HZ2)
    | (go_at_call 15; refine Calls.mono (state_any HK.out.mm.mr) ?_; rintro e w2 ⟨a9, c9, m9, d9, rfl, o1, o2, hb2⟩; have HS9 : Hid (Ka9 (w2.alloc (.cells #[.slice a9 32 c9, .slice m9 256 d9] 27)) w2.heap.size a9 m9 c9 d9 M0 T) := (ka_new o1 o2 hb2 HK.out.mm.mr.tl); have HK2 : Hid (Kh w (w2.alloc (.cells #[.slice a9 32 c9, .slice m9 256 d9] 27)) ao ps.length cap q ps T M0) := ((HK.out.up' hb2).up' ((Below.refl _ _).alloc (Nat.le_refl _) _)); clear o1 o2 hb2 HK)
    | (go_at_call 13; refine Calls.mono (steps_any n _) ?_; rintro e _ ⟨rfl, rfl⟩)
    | (go_at_call 12; refine Calls.mono (HSt.out _ q T HK2.out.mm) ?_; rintro e w3 ⟨ra3, rm3, rc3, rd3, T3, rfl, -, -, hmm, htn⟩; have HK3 : Hid (Kh w w3 ao ps.length cap q ps T3 M2) := (HK2.out.tn htn hmm); have HS3 : Hid (Ka9 w3 w2.heap.size a9 m9 c9 d9 M0 T3) := (HS9.out.tn htn); clear hmm htn HK2 HS9 HSt)
    | (go_at_call 15; refine Calls.mono (state_any HK3.out.mm.mr) ?_; rintro e w4 ⟨a10, c10, m10, d10, rfl, o1, o2, hb2⟩; have HK4 : Hid (Kh w (w4.alloc (.cells #[.slice a10 32 c10, .slice m10 256 d10] 27)) ao ps.length cap q ps T3 M2 ∧ Ka9 (w4.alloc (.cells #[.slice a10 32 c10, .slice m10 256 d10] 27)) w4.heap.size a10 m10 c10 d10 M2 T3 ∧ Ka9 (w4.alloc (.cells #[.slice a10 32 c10, .slice m10 256 d10] 27)) w2.heap.size a9 m9 c9 d9 M0 T3) := ⟨((HK3.out.up' hb2).up' ((Below.refl _ _).alloc (Nat.le_refl _) _)), (ka_new o1 o2 hb2 HK3.out.mm.mr.tl), (HS3.out.up hb2).up ((Below.refl _ _).alloc (Nat.le_refl _) _)⟩; have q0 := (HS3.out.up hb2).at_.c 0 _ rfl; have q1 := (HS3.out.up hb2).at_.lt; have p0 := (HK3.out.up' hb2).p.c 0 _ rfl; have p1 := (HK3.out.up' hb2).p.lt; clear o1 o2 hb2 HK3 HS3))
  obtain ⟨V, hV⟩ : ∃ V, V = (w4.alloc (.cells #[.slice a10 32 c10, .slice m10 256 d10] 27)).alloc (.cells #[.bool false, .bool false, .bool false, .bool false, .bool false, .bool false, .bool false, .bool false, .bool false, .bool false, .bool false, .bool false, .bool false, .bool false, .bool false, .bool false, .bool false, .bool false, .bool false, .bool false, .bool false, .bool false, .bool false, .bool false, .bool false, .bool false, .bool false, .bool false, .bool false, .bool false, .bool false, .bool false] 53) := ⟨_, rfl⟩
  have hbV : Below (w4.alloc (.cells #[.slice a10 32 c10, .slice m10 256 d10] 27)).heap.size (w4.alloc (.cells #[.slice a10 32 c10, .slice m10 256 d10] 27)) V := by rw [hV]; exact (Below.refl _ _).alloc (Nat.le_refl _) _
  have HKV : Hid (Kh w V ao ps.length cap q ps T3 M2 ∧ Ka9 V w4.heap.size a10 m10 c10 d10 M2 T3 ∧ Ka9 V w2.heap.size a9 m9 c9 d9 M0 T3) := ⟨HK4.out.1.up' hbV, HK4.out.2.1.up hbV, HK4.out.2.2.up hbV⟩
  have hAt : Op.At V (w4.heap.size + 1) #[.bool false, .bool false, .bool false, .bool false, .bool false, .bool false, .bool false, .bool false, .bool false, .bool false, .bool false, .bool false, .bool false, .bool false, .bool false, .bool false, .bool false, .bool false, .bool false, .bool false, .bool false, .bool false, .bool false, .bool false, .bool false, .bool false, .bool false, .bool false, .bool false, .bool false, .bool false, .bool false] := by rw [hV]; exact at_new' _ _ _ _ (by simp)
  have HV0 : Hid (Kw V V (w4.heap.size + 1) fun _ => false) := ⟨Fr.refl _ _, fun j hj => hAt.c j _ (row32 j hj), hAt.f, hAt.lt, hAt.lt⟩
  have hn11 : w.heap.size ≤ w4.heap.size + 1 := by have h1 := HK4.out.2.2.at_.lt; have h2 := p1; omega
  have HPw : Hid (∀ W f, Kw V W (w4.heap.size + 1) f → PAt W ao ps) := fun W f hkw => ((pin_of (T := fun k => w.heap.size ≤ k) HP.out.1 (fun k hk h => by omega)).fr ((Fr.of HKV.out.1.up).trans hkw.fr fun k hk e => by have e : k = w4.heap.size + 1 := e; omega)).pat
  have HKp : Hid (∀ W f, Kw V W (w4.heap.size + 1) f → Ka9 W w4.heap.size a10 m10 c10 d10 M2 T3 ∧ Ka9 W w2.heap.size a9 m9 c9 d9 M0 T3) := fun W f hkw => by
    have e1 : (w4.alloc (.cells #[.slice a10 32 c10, .slice m10 256 d10] 27)).heap.size = w4.heap.size + 1 := by simp
    have l1 := HK4.out.2.1.l
    have l2 := HK4.out.2.2.l
    rw [e1] at l1 l2
    exact ⟨HKV.out.2.1.off hkw.fr (Nat.ne_of_lt l1.1) (fun x e => Nat.ne_of_lt (l1.2.1 x e)) (fun x e => Nat.ne_of_lt (l1.2.2 x e)), HKV.out.2.2.off hkw.fr (Nat.ne_of_lt l2.1) (fun x e => Nat.ne_of_lt (l2.2.1 x e)) (fun x e => Nat.ne_of_lt (l2.2.2 x e))⟩
  have HKpz : Hid (w4.heap.size < V.heap.size ∧ w2.heap.size < V.heap.size) := ⟨HKV.out.2.1.l.1, HKV.out.2.2.l.1⟩
  rw [← hV]
  clear hV hbV hAt HK4 q0 q1 p0 p1
  have HN11 : Hid (w.heap.size ≤ w4.heap.size + 1) := hn11
  clear hn11
  generalize w4.heap.size + 1 = n11 at *
  have hpl : (ps.length : Int) ≤ 128 := by have := HP.out.2.2.1; omega
  go_loopw [56, 12] (fun i s wr => ∃ (k : Nat) (f : Nat → Bool) (st : Bool), k ≤ ps.length ∧ i = .int .i64 k ∧ s = .bool st ∧ Kw V wr n11 f ∧ ∀ x ∈ ps.take k, ∀ o, (o ∈ x.ops ∨ o ∈ x.body) → Cov f st o) (fun i _ _ => ps.length - (intOf i).toNat)
  case atStart => exact ⟨0, fun _ => false, false, by omega, rfl, rfl, HV0.out, fun x hx => by simp at hx⟩
  case round =>
    rename_i wr
    obtain ⟨k, f, st, hk, rfl, rfl, hkw, hdone⟩ := hrel
    by_cases hlt : k < ps.length
    · obtain ⟨b, g, rfl, hz, hx⟩ := (HPw.out wr f hkw).is (by omega)
      obtain ⟨⟨oa, oc, bb, bc⟩, ⟨c0, c1, c2, c3, c4, c5⟩, hn⟩ := hx k hlt
      simp only at c0 c3
      have hki : (k : Int) < ps.length := by omega
      have HKk : Hid (Kw V wr n11 f ∧ ∀ x ∈ ps.take k, ∀ o, (o ∈ x.ops ∨ o ∈ x.body) → Cov f st o) := ⟨hkw, hdone⟩
      have HTk : Hid (∀ x' ∈ ps.take (k + 1), x' ∈ ps.take k ∨ x' = ps[k]) := fun x' hx' => by
        rw [List.take_succ_eq_append_getElem hlt, List.mem_append, List.mem_singleton] at hx'
        exact hx'
      clear hx hn hkw hdone
      generalize hxk : ps[k] = x at *
      have HXk : Hid (ps[k] = x) := hxk
      clear hxk
      have HOl : Hid (∀ W f, Kw V W n11 f → OpsAt W oa x.ops ∧ OpsAt W bb x.body) := fun W f' hk' => by
        obtain ⟨b2, g2, e2, hz2, -⟩ := HP.out.1.is (by omega)
        cases e2
        have hbV : b < V.heap.size := Nat.lt_of_lt_of_le hz2 HKV.out.1.up.size
        have hbn : ¬ One n11 b := fun e => by have e : b = n11 := e; have := HN11.out; omega
        obtain ⟨b3, g3, e3, -, hx3⟩ := (HPw.out W f' hk').is (by omega)
        cases e3
        obtain ⟨p3, d3, i3⟩ := hx3 k hlt
        rw [HXk.out] at d3 i3
        have k0 := (d3.c0.symm.trans ((hk'.fr.cell hbV hbn _).trans ((HKk.out.1.fr.cell hbV hbn _).symm.trans c0)))
        have k3 := (d3.c3.symm.trans ((hk'.fr.cell hbV hbn _).trans ((HKk.out.1.fr.cell hbV hbn _).symm.trans c3)))
        injection k0 with k0; injection k0 with k0 _ _
        injection k3 with k3; injection k3 with k3 _ _
        rw [← k0, ← k3]
        exact ⟨i3.o, i3.b⟩
      have HXo : Hid ((∀ o ∈ x.ops, o.Ok ∧ okP o = true ∧ OkM o) ∧ ∀ o ∈ x.body, o.Ok ∧ okP o = true ∧ OkM o) := by
        have hm : x ∈ ps := by rw [← HXk.out]; exact List.getElem_mem hlt
        have h1 := HP.out.2.1 x hm
        have h2 := HP.out.2.2.2.2 x hm
        have h3 := HOl.out wr f HKk.out.1
        exact ⟨fun o ho => ⟨h3.1.ok o ho, h1.1 o ho, h2.o o ho⟩, fun o ho => ⟨h3.2.ok o ho, h1.2 o ho, h2.y o ho⟩⟩
      go_wp2_with fail
      have HL0 : Hid (Op.At ((wr.alloc (.cells #[.slice oa x.ops.length oc, .int .i8 x.fin, .int .u8 x.a, .slice bb x.body.length bc, .int .i64 x.thn, .int .i64 x.els] 57)).alloc (.cells #[.slice oa x.ops.length oc, .slice bb x.body.length bc] 54)) (wr.heap.size + 1) #[.slice oa x.ops.length oc, .slice bb x.body.length bc] ∧ Kw V ((wr.alloc (.cells #[.slice oa x.ops.length oc, .int .i8 x.fin, .int .u8 x.a, .slice bb x.body.length bc, .int .i64 x.thn, .int .i64 x.els] 57)).alloc (.cells #[.slice oa x.ops.length oc, .slice bb x.body.length bc] 54)) n11 f) := ⟨at_new' _ _ _ _ (by simp), HKk.out.1.up (((Below.refl _ _).alloc (Nat.le_refl _) _).alloc (by simp) _)⟩
      go_loopw [66, 12] (fun i s wz => ∃ (j : Nat) (f1 : Nat → Bool) (s1 : Bool), j ≤ 2 ∧ i = .int .i64 j ∧ s = .bool s1 ∧ Kw V wz n11 f1 ∧ Op.At wz (wr.heap.size + 1) #[.slice oa x.ops.length oc, .slice bb x.body.length bc] ∧ (∀ x' ∈ ps.take k, ∀ o, (o ∈ x'.ops ∨ o ∈ x'.body) → Cov f1 s1 o) ∧ (1 ≤ j → ∀ o ∈ x.ops, Cov f1 s1 o) ∧ (2 ≤ j → ∀ o ∈ x.body, Cov f1 s1 o)) (fun i _ _ => 2 - (intOf i).toNat)
      case atStart => exact ⟨0, f, st, by omega, rfl, rfl, HL0.out.2, HL0.out.1, HKk.out.2, fun h => by omega, fun h => by omega⟩
      case round =>
        rename World => wz
        obtain ⟨j, f1, s1, hj, rfl, rfl, hk1, hl1, hd1, hd2, hd3⟩ := hrel
        by_cases hj2 : j < 2
        · obtain ⟨la, lc, xs, hLL⟩ : ∃ (la : Option Addr) (lc : Nat) (xs : List O), wz.cell? ⟨wr.heap.size + 1, j, none⟩ = some (.slice la xs.length lc) ∧ (∀ W f, Kw V W n11 f → OpsAt W la xs) ∧ (∀ o ∈ xs, o.Ok ∧ okP o = true ∧ OkM o) ∧ (∀ f2 s2, (∀ j, f1 j = true → f2 j = true) → (s1 = true → s2 = true) → (∀ o ∈ xs, Cov f2 s2 o) → (1 ≤ j + 1 → ∀ o ∈ x.ops, Cov f2 s2 o) ∧ (2 ≤ j + 1 → ∀ o ∈ x.body, Cov f2 s2 o)) := by
            have hj3 : j = 0 ∨ j = 1 := by omega
            rcases hj3 with rfl | rfl
            · exact ⟨oa, oc, x.ops, hl1.c 0 _ rfl, fun W f h => (HOl.out W f h).1, HXo.out.1, fun f2 s2 h1 h2 h3 => ⟨fun _ => h3, fun h => by omega⟩⟩
            · exact ⟨bb, bc, x.body, hl1.c 1 _ rfl, fun W f h => (HOl.out W f h).2, HXo.out.2, fun f2 s2 h1 h2 h3 => ⟨fun _ o ho => (hd2 (by omega) o ho).mono h1 h2, fun _ => h3⟩⟩
          obtain ⟨yj, hL1, hL2, hL3⟩ := hLL
          have HLa : Hid (∀ W f, Kw V W n11 f → OpsAt W la xs) := hL1
          have HLo : Hid (∀ o ∈ xs, o.Ok ∧ okP o = true ∧ OkM o) := hL2
          have HLn : Hid (∀ f2 s2, (∀ j, f1 j = true → f2 j = true) → (s1 = true → s2 = true) → (∀ o ∈ xs, Cov f2 s2 o) → (1 ≤ j + 1 → ∀ o ∈ x.ops, Cov f2 s2 o) ∧ (2 ≤ j + 1 → ∀ o ∈ x.body, Cov f2 s2 o)) := hL3
          have y2 := hl1.lt
          have hji : (j : Int) < 2 := by omega
          have HL1 : Hid (Op.At wz (wr.heap.size + 1) #[.slice oa x.ops.length oc, .slice bb x.body.length bc]) := hl1
          have HT0 : Hid (Kt V wz n11 f1 s1 (fun o => ∃ x' ∈ ps.take k, o ∈ x'.ops ∨ o ∈ x'.body) xs 0) := ⟨hk1, fun o ⟨x', hx', ho⟩ => hd1 x' hx' o ho, fun o ho => by simp at ho⟩
          clear hk1 hl1 hd1 hd2 hd3 HL0 hL1 hL2 hL3
          go_wp2_with fail
          go_loopw [72, 12] (fun i s wy => ∃ (t : Nat) (f2 : Nat → Bool) (s2 : Bool), t ≤ xs.length ∧ i = .int .i64 t ∧ s = .bool s2 ∧ (Kt V wy n11 f2 s2 (fun o => ∃ x' ∈ ps.take k, o ∈ x'.ops ∨ o ∈ x'.body) xs t ∧ (∀ j, f1 j = true → f2 j = true) ∧ (s1 = true → s2 = true)) ∧ Op.At wy (wr.heap.size + 1) #[.slice oa x.ops.length oc, .slice bb x.body.length bc]) (fun i _ _ => xs.length - (intOf i).toNat)
          case atStart => exact ⟨0, f1, s1, by omega, rfl, rfl, ⟨HT0.out, fun _ h => h, fun h => h⟩, HL1.out⟩
          case round =>
            rename World => wy
            obtain ⟨t, f2, s2, ht, rfl, rfl, ⟨hkt, hff, hss⟩, hls⟩ := hrel
            by_cases htl : t < xs.length
            · obtain ⟨lb, lf, rfl, hlz, hox⟩ := (HLa.out wy f2 hkt.k).is (by omega)
              obtain ⟨o0, o1, o2, o3, o4⟩ := hox t htl
              have hom := HLo.out _ (List.getElem_mem htl)
              have HKt : Hid (Kt V wy n11 f2 s2 (fun o => ∃ x' ∈ ps.take k, o ∈ x'.ops ∨ o ∈ x'.body) xs t) := hkt
              have HLs : Hid (Op.At wy (wr.heap.size + 1) #[.slice oa x.ops.length oc, .slice bb x.body.length bc]) := hls
              have HNv : Hid (n11 < wr.heap.size) := Nat.lt_of_lt_of_le HKk.out.1.vl HKk.out.1.fr.size
              clear hls hox
              have hti : (t : Int) < (xs.length : Int) := by omega
              have hli : (xs.length : Int) ≤ 8796093022208 := by have := (HLa.out wy f2 HKt.out.k).len; omega
              have HG : Hid (∀ (W : World) (g : Nat → Bool) (su : Bool), Kw V W n11 g → (∀ j, f2 j = true → g j = true) → (s2 = true → su = true) → Cov g su xs[t] → Kt V W n11 g su (fun o => ∃ x' ∈ ps.take k, o ∈ x'.ops ∨ o ∈ x'.body) xs (t + 1) ∧ (∀ j, f1 j = true → g j = true) ∧ (s1 = true → su = true)) := fun W g su h1 h2 h3 h4 => ⟨HKt.out.next h1 htl h2 h3 h4, fun j h => h2 j (hff j h), fun h => h3 (hss h)⟩
              clear hkt hff hss
              generalize xs[t] = o at *
              obtain ⟨ok1, ok2, ok3⟩ := hom
              have HWr : Hid (∀ W, Calls Tryd.prog 20 #[o.val] W fun e w' => e = .returned (.tuple #[.int .u8 (wrD o), .bool (wrB o)]) ∧ Below W.heap.size W w') := fun W => writes_any o W ok1
              have hwd : 0 ≤ wrD o ∧ wrD o < 32 := by
                have h3 := ok3.d
                unfold wrD
                split <;> omega
              obtain ⟨wd0, wd1⟩ := hwd
              clear ok1 ok2 ok3
              cases hw : wrB o
              · cases s2
                · rw [hw] at HWr
                  have HC1 : Hid (wrB o = false) := hw
                  clear hw
                  go_wp2_with (first | (go_at_call 20; refine Calls.mono (HWr.out _) ?_; rintro e w5 ⟨rfl, hb5⟩; obtain ⟨a5, b5, z5⟩ := one_new wy _ _ hb5; have HK5 : Hid (Kw V w5 n11 f2 ∧ Below wy.heap.size wy w5) := ⟨HKt.out.k.up b5, b5⟩; have v0 := HK5.out.1.c (wrD o).toNat (by omega); have v1 := HK5.out.1.z (wrD o).toNat; have v2 := HK5.out.1.lt; have e0 := a5.c 0 _ rfl; have z6 := a5.lt; have hne5 : ¬ n11 = wy.heap.size := (by have := HKt.out.k.lt; omega); have hne6 : ¬ wy.heap.size = n11 := fun e => hne5 e.symm; clear hb5 a5 b5 HWr))
                  go_roundw
                  case rel =>
                    have hA2 := HLs.out.below HK5.out.2 HLs.out.lt
                    exact ⟨t + 1, f2, (o.op == 16), by omega, by go_num, rfl, HG.out _ _ _ HK5.out.1 (fun _ h => h) (fun h => by cases h) ⟨fun h => (by rw [HC1.out] at h; cases h), fun h => by simp [h]⟩, hA2⟩
                  case measure => simp [intOf]; omega
                · rw [hw] at HWr
                  have HC1 : Hid (wrB o = false) := hw
                  clear hw
                  go_wp2_with (first | (go_at_call 20; refine Calls.mono (HWr.out _) ?_; rintro e w5 ⟨rfl, hb5⟩; obtain ⟨a5, b5, z5⟩ := one_new wy _ _ hb5; have HK5 : Hid (Kw V w5 n11 f2 ∧ Below wy.heap.size wy w5) := ⟨HKt.out.k.up b5, b5⟩; have v0 := HK5.out.1.c (wrD o).toNat (by omega); have v1 := HK5.out.1.z (wrD o).toNat; have v2 := HK5.out.1.lt; have e0 := a5.c 0 _ rfl; have z6 := a5.lt; have hne5 : ¬ n11 = wy.heap.size := (by have := HKt.out.k.lt; omega); have hne6 : ¬ wy.heap.size = n11 := fun e => hne5 e.symm; clear hb5 a5 b5 HWr))
                  go_roundw
                  case rel =>
                    have hA2 := HLs.out.below HK5.out.2 HLs.out.lt
                    exact ⟨t + 1, f2, true, by omega, by go_num, rfl, HG.out _ _ _ HK5.out.1 (fun _ h => h) (fun _ => rfl) ⟨fun h => (by rw [HC1.out] at h; cases h), fun _ => rfl⟩, hA2⟩
                  case measure => simp [intOf]; omega
              · cases s2
                · rw [hw] at HWr
                  have HC1 : Hid (wrB o = true) := hw
                  clear hw
                  go_wp2_with (first | (go_at_call 20; refine Calls.mono (HWr.out _) ?_; rintro e w5 ⟨rfl, hb5⟩; obtain ⟨a5, b5, z5⟩ := one_new wy _ _ hb5; have HK5 : Hid (Kw V w5 n11 f2 ∧ Below wy.heap.size wy w5) := ⟨HKt.out.k.up b5, b5⟩; have v0 := HK5.out.1.c (wrD o).toNat (by omega); have v1 := HK5.out.1.z (wrD o).toNat; have v2 := HK5.out.1.lt; have e0 := a5.c 0 _ rfl; have z6 := a5.lt; have hne5 : ¬ n11 = wy.heap.size := (by have := HKt.out.k.lt; omega); have hne6 : ¬ wy.heap.size = n11 := fun e => hne5 e.symm; clear hb5 a5 b5 HWr))
                  go_roundw
                  case rel =>
                    have hA := HLs.out.below HK5.out.2 HLs.out.lt
                    have hF : Fr (One n11) w5 (w5.setCell ⟨n11, (wrD o).toNat, none⟩ (.bool true)) := (Fr.refl (One n11) w5).setCell (.inr rfl) _ _
                    have hnn : ¬ One n11 (wr.heap.size + 1) := fun e => by have e : wr.heap.size + 1 = n11 := e; have := HNv.out; omega
                    have hA2 : Op.At (w5.setCell ⟨n11, (wrD o).toNat, none⟩ (.bool true)) (wr.heap.size + 1) _ := ⟨fun j v e => (hF.cell hA.lt hnn j).trans (hA.c j v e), fun j => (hF.frozen hA.lt hnn j).trans (hA.f j), Nat.lt_of_lt_of_le hA.lt hF.size⟩
                    exact ⟨t + 1, (setB f2 (wrD o).toNat), (o.op == 16), by omega, by go_num, rfl, HG.out _ _ _ (HK5.out.1.set (by omega)) (setB_le _ _) (fun h => by cases h) ⟨fun _ => by simp [setB], fun h => by simp [h]⟩, hA2⟩
                  case measure => simp [intOf]; omega
                · rw [hw] at HWr
                  have HC1 : Hid (wrB o = true) := hw
                  clear hw
                  go_wp2_with (first | (go_at_call 20; refine Calls.mono (HWr.out _) ?_; rintro e w5 ⟨rfl, hb5⟩; obtain ⟨a5, b5, z5⟩ := one_new wy _ _ hb5; have HK5 : Hid (Kw V w5 n11 f2 ∧ Below wy.heap.size wy w5) := ⟨HKt.out.k.up b5, b5⟩; have v0 := HK5.out.1.c (wrD o).toNat (by omega); have v1 := HK5.out.1.z (wrD o).toNat; have v2 := HK5.out.1.lt; have e0 := a5.c 0 _ rfl; have z6 := a5.lt; have hne5 : ¬ n11 = wy.heap.size := (by have := HKt.out.k.lt; omega); have hne6 : ¬ wy.heap.size = n11 := fun e => hne5 e.symm; clear hb5 a5 b5 HWr))
                  go_roundw
                  case rel =>
                    have hA := HLs.out.below HK5.out.2 HLs.out.lt
                    have hF : Fr (One n11) w5 (w5.setCell ⟨n11, (wrD o).toNat, none⟩ (.bool true)) := (Fr.refl (One n11) w5).setCell (.inr rfl) _ _
                    have hnn : ¬ One n11 (wr.heap.size + 1) := fun e => by have e : wr.heap.size + 1 = n11 := e; have := HNv.out; omega
                    have hA2 : Op.At (w5.setCell ⟨n11, (wrD o).toNat, none⟩ (.bool true)) (wr.heap.size + 1) _ := ⟨fun j v e => (hF.cell hA.lt hnn j).trans (hA.c j v e), fun j => (hF.frozen hA.lt hnn j).trans (hA.f j), Nat.lt_of_lt_of_le hA.lt hF.size⟩
                    exact ⟨t + 1, (setB f2 (wrD o).toNat), true, by omega, by go_num, rfl, HG.out _ _ _ (HK5.out.1.set (by omega)) (setB_le _ _) (fun _ => rfl) ⟨fun _ => by simp [setB], fun _ => rfl⟩, hA2⟩
                  case measure => simp [intOf]; omega
            · obtain rfl : t = xs.length := by omega
              have HKt : Hid (Kt V wy n11 f2 s2 (fun o => ∃ x' ∈ ps.take k, o ∈ x'.ops ∨ o ∈ x'.body) xs xs.length) := hkt
              have HLm : Hid (∀ o ∈ xs, Cov f2 s2 o) := fun o ho => hkt.m o (by rw [List.take_length]; exact ho)
              have HNx : Hid _ := HLn.out f2 s2 hff hss HLm.out
              have HLs : Hid (Op.At wy (wr.heap.size + 1) #[.slice oa x.ops.length oc, .slice bb x.body.length bc]) := hls
              clear hkt hls hff hss
              go_wp2_with fail
              go_roundw
              case rel => exact ⟨j + 1, f2, s2, by omega, by go_num, rfl, HKt.out.k, HLs.out, fun x' hx' o ho => HKt.out.d o ⟨x', hx', ho⟩, HNx.out.1, HNx.out.2⟩
              case measure => simp [intOf]; omega
        · obtain rfl : j = 2 := by omega
          have HE : Hid (Kw V wz n11 f1 ∧ ∀ x' ∈ ps.take (k + 1), ∀ o, (o ∈ x'.ops ∨ o ∈ x'.body) → Cov f1 s1 o) := ⟨hk1, fun x' hx' o ho => by
            rcases HTk.out x' hx' with h | rfl
            · exact hd1 x' h o ho
            · exact ho.elim (hd2 (by omega) o) (hd3 (by omega) o)⟩
          clear hk1 hl1 hd1 hd2 hd3 HL0
          go_wp2_with fail
          go_roundw
          case rel => exact ⟨k + 1, f1, s1, by omega, by go_num, rfl, HE.out.1, HE.out.2⟩
          case measure => simp [intOf]; omega
    · obtain rfl : k = ps.length := by omega
      rw [List.take_length] at hdone
      have HCv : Hid _ := cov_all hdone
      have HKe : Hid (Kw V wr n11 f) := hkw
      clear hdone hkw
      go_wp2_with fail
      go_loopw [93] (fun i wz => ∃ j : Nat, j ≤ 32 ∧ i = .int .i64 j ∧ Kw V wz n11 f) (fun i _ => 32 - (intOf i).toNat)
      case atStart => exact ⟨0, by omega, rfl, HKe.out⟩
      case round =>
        rename World => wz
        obtain ⟨j, hj, rfl, hkz⟩ := hrel
        obtain ⟨k10, k9⟩ := HKp.out wz f hkz
        have HK9 : Hid (Ka9 wz w4.heap.size a10 m10 c10 d10 M2 T3 ∧ Ka9 wz w2.heap.size a9 m9 c9 d9 M0 T3) := ⟨k10, k9⟩
        have HKz : Hid (Kw V wz n11 f) := hkz
        by_cases hj2 : j < 32
        · have hji : (j : Int) < 32 := by omega
          obtain ⟨b9, f9, rfl, r9⟩ := regs_cell k9.r
          obtain ⟨b10, f10, rfl, r10⟩ := regs_cell k10.r
          have q9 := r9 j hj2
          have q10 := r10 j hj2
          have p9 := k9.at_.c 0 _ rfl
          have p10 := k10.at_.c 0 _ rfl
          have n9 := k9.at_.lt
          have n10 := k10.at_.lt
          have v0 := hkz.c j hj2
          have v2 := hkz.lt
          have hgoal : f j = false → M0.r j = M2.r j := fun e => by
            have := (run_keeps HP.out.2.1 HP.out.2.2 (min (max (stN n) 0) 1048576).toNat HInv.out).1 j (HCv.out.1 j e)
            rw [HM2.out] at this
            exact this.symm
          clear k10 k9 hkz r9 r10
          cases hf : f j
          · rw [hf] at v0
            have e9 := hgoal hf
            rw [e9] at q9
            clear hgoal hf e9
            generalize M2.r j = vv at *
            go_wp2_with fail
            go_quiet (fail)
            go_wp2_with fail
            go_roundw
            case rel => exact ⟨j + 1, by omega, by go_num, HKz.out.up ⟨rfl, rfl, rfl, Nat.le_refl _, fun _ _ => rfl⟩⟩
            case measure => simp [intOf]; omega
          · rw [hf] at v0
            clear hgoal hf
            go_wp2_with fail
            go_quiet (fail)
            go_wp2_with fail
            go_roundw
            case rel => exact ⟨j + 1, by omega, by go_num, HKz.out.up ⟨rfl, rfl, rfl, Nat.le_refl _, fun _ _ => rfl⟩⟩
            case measure => simp [intOf]; omega
        · obtain rfl : j = 32 := by omega
          have p9 := k9.at_.c 1 _ rfl
          have p10 := k10.at_.c 1 _ rfl
          have n9 := k9.at_.lt
          have n10 := k10.at_.lt
          have HBw : Hid (Below w.heap.size w wz) := (HKV.out.1.up).trans (hkz.fr.below HKV.out.1.up.size fun k hk e => by have e : k = n11 := e; have := HN11.out; omega)
          clear k10 k9 hkz
          cases st
          · have hmm : M2.m = M0.m := by
              have := (run_keeps HP.out.2.1 HP.out.2.2 (min (max (stN n) 0) 1048576).toNat HInv.out).2 (HCv.out.2 rfl)
              rw [HM2.out] at this
              exact this
            have HNm : Hid (Calls Tryd.prog 17 #[.slice m9 256 d9, .slice m10 256 d10] wz fun e w' => e = .returned (.bool true) ∧ Below wz.heap.size wz w') := by
              have h9 := HK9.out.2.g
              have h10 := HK9.out.1.g
              have em : memL M2 = memL M0 := by unfold memL; rw [hmm]
              rw [em] at h10
              have := nums_same m9 m10 d9 d10 (memL M0) wz h9 h10 (by rw [memL_len]; omega)
              rw [memL_len] at this
              exact this
            clear hmm
            go_wp2_with (first | (go_at_call 17; refine Calls.mono HNm.out ?_; rintro e w6 ⟨rfl, hb⟩; have HB6 : Hid (Below w.heap.size w w6) := HBw.out.trans (hb.mono HBw.out.size); clear hb HNm) | (go_at_call 10; refine Calls.mono (HW.out _ HB6.out) ?_; rintro e w7 ⟨rfl, hb⟩; have HB7 : Hid (Below w.heap.size w w7) := HB6.out.trans (hb.mono HB6.out.size); clear hb))
            go_ret
            exact ⟨rfl, HB7.out⟩
          · go_wp2_with (first | (go_at_call 10; refine Calls.mono (HW.out _ HBw.out) ?_; rintro e w7 ⟨rfl, hb⟩; have HB7 : Hid (Below w.heap.size w w7) := HBw.out.trans (hb.mono HBw.out.size); clear hb))
            go_ret
            exact ⟨rfl, HB7.out⟩
end Go.Proofs.YtlnfhbkkodhmaaaDoor.Sm
