/- The statement SerialDealt: out of what the callees answer. Conditions: the program and the state lie in memory, and the variable as the program lays it. -/
import Derived.Test.YtlnfhbkkodhmaaaDoorQc
namespace Go.Proofs.YtlnfhbkkodhmaaaDoor.Sm
open Go.ChangeShapes Go.WideShapes Go.ChangeAt Go.RowKit
open _root_.Go.Proofs.YtlnfhbkkodhmaaaDoor.Op _root_.Go.Proofs.YtlnfhbkkodhmaaaDoor.So
set_option maxRecDepth 20000

set_option maxHeartbeats 2000000 in
theorem dealt_no (ao ra ma : Option Addr) (cap rl rc ml mc : Nat) (ps : List Bk) (a b : Int) (w : World) (h : PAt w ao ps) (he : Env w) (hn : ¬ ckP ps = 0 ∨ 32 < rl ∨ 256 < ml) :
    Calls Tryd.prog 6 #[.agg #[.slice ao ps.length cap], .agg #[.slice ra rl rc, .slice ma ml mc], .int .i64 a, .int .i64 b] w fun e w' => e = .returned (.bool true) ∧ Below w.heap.size w w' := by
  obtain ⟨er, her, hN⟩ := new_no ao ra ma cap rl rc ml mc ps w h he hn
  have her2 : ¬ er = 0 := by simpa using her
  have her3 : (er != 0) = true := by simpa using her2
  have HN : Hid _ := hN
  have HN2 : Hid _ := hN
  have HW : Hid (∀ W, Below w.heap.size w W → Calls Tryd.prog 10 #[] W fun e w' => e = .returned (.bool true) ∧ Below W.heap.size W w') := fun W hb => wakes_any W (he.up hb)
  have HSa : Hid (∀ W, Calls Tryd.prog 13 #[.int .i64 a] W fun e w' => e = .returned (.int .i64 (stN a)) ∧ w' = W) := fun W => steps_any a W
  have HSb : Hid (∀ W, Calls Tryd.prog 13 #[.int .i64 b] W fun e w' => e = .returned (.int .i64 (stN b)) ∧ w' = W) := fun W => steps_any b W
  clear h he hn hN
  generalize stN a = sa at *
  generalize stN b = sb at *
  go_enter Tryd.func6, Tryd.ntmps6
  go_wp2_with (first
    | (go_at_call 13; refine Calls.mono (HSa.out _) ?_; rintro e _ ⟨rfl, rfl⟩; clear HSa)
    | (go_at_call 13; refine Calls.mono (HSb.out _) ?_; rintro e _ ⟨rfl, rfl⟩; clear HSb)
    | (go_at_call 8; refine Calls.mono (HN.out _ (by go_grown)) ?_; rintro e w1 ⟨rfl, hb⟩; obtain ⟨t1, t2, hb0, -, -⟩ := two_new w _ _ _ _ hb; have HB : Hid (Below w.heap.size w w1) := hb0; have c0 := t1.c 0 _ rfl; have d0 := t2.c 0 _ rfl; have d1 := t2.c 1 _ rfl; have z1 := t1.lt; have z2 := t2.lt; clear hb hb0 HN t1 t2)
    | (go_at_call 8; refine Calls.mono (HN2.out _ HB.out) ?_; rintro e w2 ⟨rfl, hb⟩; have HB2 : Hid (Below w.heap.size w w2) := HB.out.trans (hb.mono HB.out.size); clear hb HN2)
    | (go_at_call 10; refine Calls.mono (HW.out _ HB2.out) ?_; rintro e w3 ⟨rfl, hb⟩; have HB3 : Hid (Below w.heap.size w w3) := HB2.out.trans (hb.mono HB2.out.size); clear hb HW))
  go_ret
  exact ⟨rfl, HB3.out⟩
/-- What a run leaves, told in letters. -/
def RunPost' (w : World) (q : Nat) (ps : List Bk) (T : Nat → Prop) (M' : Ma) (E V : Int) (P K : Nat) (S : Int) (e : Ending) (w' : World) : Prop := ∃ a m c d T', e = .returned (.agg #[.int .i64 E, .int .i64 V, .slice a P c, .slice m K d, .int .i64 S]) ∧ Own w w' a M'.pr ∧ Own w w' m (outMem M') ∧ MM w' q ps T' M' ∧ Tn w T w' T'
theorem run_post' {w : World} {q : Nat} {ps : List Bk} {T : Nat → Prop} {M' : Ma} {e : Ending} {w' : World} (h : RunPost w q ps T M' e w') : RunPost' w q ps T M' M'.e (if M'.e = 0 then M'.v else 0) M'.pr.length (outMem M').length (M'.s : Int) e w' := by
  obtain ⟨a, m, c, d, T', rfl, h1, h2, h3, h4⟩ := h
  refine ⟨a, m, c, d, T', ?_, h1, h2, h3, h4⟩
  have : (outMem M').length = if M'.e = 0 then 256 else 0 := by
    unfold outMem
    split
    · exact memL_len M'
    · rfl
  rw [this]
  rfl
theorem stN_le (n : Int) : stN n ≤ 5000 := by unfold stN; split <;> omega
theorem tlen_le (ps : List Bk) (k : Nat) (M : Ma) (h : M.s = 0) : ((runM ps k M).s : Int) = ((trailM ps k M).length : Int) := by rw [trail_len, h]; omega
/-- Two outcomes and two states in memory, alike. -/
structure Al4 (W : World) (a1 m1 a2 m2 r1 g1 r2 g2 : Option Addr) (M : Ma) : Prop where
  a1 : NL W a1 M.pr
  m1 : NL W m1 (outMem M)
  a2 : NL W a2 M.pr
  m2 : NL W m2 (outMem M)
  r1 : NL W r1 (regL M)
  g1 : NL W g1 (memL M)
  r2 : NL W r2 (regL M)
  g2 : NL W g2 (memL M)
theorem Al4.up {W W' : World} {a1 m1 a2 m2 r1 g1 r2 g2 : Option Addr} {M : Ma} (h : Al4 W a1 m1 a2 m2 r1 g1 r2 g2 M) (g : Below W.heap.size W W') : Al4 W' a1 m1 a2 m2 r1 g1 r2 g2 M :=
  ⟨h.a1.up g, h.m1.up g, h.a2.up g, h.m2.up g, h.r1.up g, h.g1.up g, h.r2.up g, h.g2.up g⟩
/-- All that is kept aside. -/
structure Zs (w W : World) (ao : Option Addr) (n cap : Nat) (ra ma : Option Addr) (rl rc ml mc b13 b15 : Nat) (x1 x2 s1 s2 : Array Value) (a1 m1 a2 m2 r1 g1 r2 g2 : Option Addr) (M : Ma) : Prop where
  bx : Bx w W ao n cap ra ma rl rc ml mc
  p1 : Op.At W b13 x1
  p2 : Op.At W (b13 + 1) x2
  p3 : Op.At W b15 s1
  p4 : Op.At W (b15 + 1) s2
  al : Al4 W a1 m1 a2 m2 r1 g1 r2 g2 M
theorem Zs.up {w W W' : World} {ao : Option Addr} {n cap : Nat} {ra ma : Option Addr} {rl rc ml mc b13 b15 : Nat} {x1 x2 s1 s2 : Array Value} {a1 m1 a2 m2 r1 g1 r2 g2 : Option Addr} {M : Ma} (h : Zs w W ao n cap ra ma rl rc ml mc b13 b15 x1 x2 s1 s2 a1 m1 a2 m2 r1 g1 r2 g2 M) (g : Below W.heap.size W W') : Zs w W' ao n cap ra ma rl rc ml mc b13 b15 x1 x2 s1 s2 a1 m1 a2 m2 r1 g1 r2 g2 M :=
  ⟨h.bx.up g, h.p1.below g h.p1.lt, h.p2.below g h.p2.lt, h.p3.below g h.p3.lt, h.p4.below g h.p4.lt, h.al.up g⟩
theorem nok_up {w w' : World} {q : Nat} (h : NoK w q) (hq : q < w.heap.size) (g : Below w.heap.size w w') : NoK w' q := fun j i e => h j i (by rw [(bcell g).1 _ _ hq] at e; exact e)
theorem two_up (w : World) (o o' : Obj) : Below w.heap.size w ((w.alloc o).alloc o') := ((Below.refl _ _).alloc (Nat.le_refl _) _).alloc (by simp) _
set_option maxHeartbeats 4000000 in
theorem dealt_main (ao ra ma : Option Addr) (cap rc mc : Nat) (ps : List Bk) (rs ms : List Int) (a b : Int) (w : World) (h : PAt w ao ps) (he : Env w) (hc : ckP ps = 0) (hs : Sn w ra ma rs ms) (h32 : rs.length ≤ 32) (h256 : ms.length ≤ 256) (hr : ∀ x ∈ rs, In64 x) (hm : ∀ x ∈ ms, In64 x) :
    Calls Tryd.prog 6 #[.agg #[.slice ao ps.length cap], .agg #[.slice ra rs.length rc, .slice ma ms.length mc], .int .i64 a, .int .i64 b] w fun e w' => e = .returned (.bool true) ∧ Below w.heap.size w w' := by
  obtain ⟨na, hna⟩ : ∃ na : Nat, max (stN a) 0 = na := ⟨(max (stN a) 0).toNat, by omega⟩
  obtain ⟨nb, hnb⟩ : ∃ nb : Nat, max (stN b) 0 = nb := ⟨(max (stN b) 0).toNat, by omega⟩
  have hla : na ≤ 5000 := by have := stN_le a; omega
  have hlb : nb ≤ 5000 := by have := stN_le b; omega
  have HN : Hid (∀ W, Below w.heap.size w W → Calls Tryd.prog 8 #[.agg #[.slice ao ps.length cap], .agg #[.slice ra rs.length rc, .slice ma ms.length mc]] W (NewPost' W ps rs ms)) := fun W hb => new_ok' ao ra ma cap rc mc ps rs ms W (h.below hb) (he.up hb) hc (hs.up hb) h32 h256 hr hm
  have HN2 : Hid (∀ W, Below w.heap.size w W → Calls Tryd.prog 8 #[.agg #[.slice ao ps.length cap], .agg #[.slice ra rs.length rc, .slice ma ms.length mc]] W (NewPost' W ps rs ms)) := HN.out
  have HTl : Hid (∀ W, Below w.heap.size w W → Calls Tryd.prog 18 #[.agg #[.slice ao ps.length cap], .agg #[.slice ra rs.length rc, .slice ma ms.length mc], .int .i64 ((na : Int) + nb)] W (TrailPost W (trailM ps (na + nb) (initM rs ms)))) := fun W hb => by
    have := trail_any ao ra ma cap rc mc ps rs ms ((na : Int) + nb) W (h.below hb) (he.up hb) hc (hs.up hb) h32 h256 hr hm
    rw [show (min (max ((na : Int) + nb) 0) 65536).toNat = na + nb by omega] at this
    exact this
  have HW : Hid (∀ W, Below w.heap.size w W → Calls Tryd.prog 10 #[] W fun e w' => e = .returned (.bool true) ∧ Below W.heap.size W w') := fun W hb => wakes_any W (he.up hb)
  have HSa : Hid (∀ W, Calls Tryd.prog 13 #[.int .i64 a] W fun e w' => e = .returned (.int .i64 (stN a)) ∧ w' = W) := fun W => steps_any a W
  have HSb : Hid (∀ W, Calls Tryd.prog 13 #[.int .i64 b] W fun e w' => e = .returned (.int .i64 (stN b)) ∧ w' = W) := fun W => steps_any b W
  have hM0s : (initM rs ms).s = 0 := rfl
  have HM0s : Hid ((initM rs ms).s = 0) := hM0s
  have HInv0 : Hid (Inv ps (initM rs ms) ∧ PsM ps) := ⟨inv_init (psM_of (psOk_of h) hc) hr hm, psM_of (psOk_of h) hc⟩
  clear h he hc hs h32 h256 hr hm hM0s
  generalize rs.length = rl at *
  generalize ms.length = ml at *
  generalize stN a = sa at *
  generalize stN b = sb at *
  generalize hM0 : initM rs ms = M0 at *
  have HR1 : Hid (∀ W q T, MM W q ps T M0 → Calls Tryd.prog 12 #[ptr q, .int .i64 (na : Int)] W (RunPost W q ps T (runM ps na M0))) := fun W q T hm => by
    have := run_any (na : Int) hm (by rw [HM0s.out]; omega)
    rw [show (min (max (na : Int) 0) 1048576).toNat = na by omega] at this
    exact this
  have HR2 : Hid (∀ W q T, MM W q ps T (runM ps na M0) → Calls Tryd.prog 12 #[ptr q, .int .i64 (nb : Int)] W (RunPost W q ps T (runM ps (na + nb) M0))) := fun W q T hm => by
    have := run_any (nb : Int) hm (by have h1 := trail_len ps na M0; have h2 := trail_le ps na M0; rw [HM0s.out] at h1; omega)
    rw [show (min (max (nb : Int) 0) 1048576).toNat = nb by omega, run_add] at this
    exact this
  have HR3 : Hid (∀ W q T, MM W q ps T M0 → Calls Tryd.prog 12 #[ptr q, .int .i64 ((na : Int) + nb)] W (RunPost W q ps T (runM ps (na + nb) M0))) := fun W q T hm => by
    have := run_any ((na : Int) + nb) hm (by rw [HM0s.out]; omega)
    rw [show (min (max ((na : Int) + nb) 0) 1048576).toNat = na + nb by omega] at this
    exact this
  have HLn : Hid (((runM ps (na + nb) M0).s : Int) = ((trailM ps (na + nb) M0).length : Int)) := tlen_le _ _ _ HM0s.out
  have HPr : Hid ((runM ps (na + nb) M0).pr.length ≤ 1000000000000 ∧ (outMem (runM ps (na + nb) M0)).length ≤ 1000000000000) := by
    have h1 := (inv_run HInv0.out.2 (na + nb) HInv0.out.1).p
    have h2 := trail_len ps (na + nb) M0
    have h3 := trail_le ps (na + nb) M0
    have h4 := HM0s.out
    have h5 : (outMem (runM ps (na + nb) M0)).length ≤ 256 := by
      unfold outMem
      split
      · rw [memL_len]; omega
      · simp
    exact ⟨by omega, by omega⟩
  clear HInv0
  generalize hMa : runM ps na M0 = Ma1 at *
  clear hMa
  generalize hM2 : runM ps (na + nb) M0 = M2 at *
  clear hM2
  have HR2' : Hid (∀ W q T, MM W q ps T Ma1 → Calls Tryd.prog 12 #[ptr q, .int .i64 (nb : Int)] W (RunPost' W q ps T M2 M2.e (if M2.e = 0 then M2.v else 0) M2.pr.length (outMem M2).length (M2.s : Int))) := fun W q T hm => (HR2.out W q T hm).mono fun e w' h => run_post' h
  have HR3' : Hid (∀ W q T, MM W q ps T M0 → Calls Tryd.prog 12 #[ptr q, .int .i64 ((na : Int) + nb)] W (RunPost' W q ps T M2 M2.e (if M2.e = 0 then M2.v else 0) M2.pr.length (outMem M2).length (M2.s : Int))) := fun W q T hm => (HR3.out W q T hm).mono fun e w' h => run_post' h
  clear HR2 HR3
  have HLk : Hid (∀ (W : World) (a1 m1 a2 m2 : Option Addr) (c1 d1 c2 d2 : Nat), NL W a1 M2.pr → NL W m1 (outMem M2) → NL W a2 M2.pr → NL W m2 (outMem M2) → Calls Tryd.prog 11 #[.agg #[.int .i64 M2.e, .int .i64 (if M2.e = 0 then M2.v else 0), .slice a1 M2.pr.length c1, .slice m1 (outMem M2).length d1, .int .i64 (M2.s : Int)], .agg #[.int .i64 M2.e, .int .i64 (if M2.e = 0 then M2.v else 0), .slice a2 M2.pr.length c2, .slice m2 (outMem M2).length d2, .int .i64 (M2.s : Int)]] W fun e w' => e = .returned (.bool true) ∧ Below W.heap.size W w') := fun W a1 m1 a2 m2 c1 d1 c2 d2 k1 k2 k3 k4 => like_same _ _ _ a1 a2 m1 m2 c1 d1 c2 d2 _ _ W k1 k3 k2 k4 HPr.out.1 HPr.out.2
  have HNr : Hid (∀ (W : World) (r1 r2 : Option Addr) (c1 c2 : Nat), NL W r1 (regL M2) → NL W r2 (regL M2) → Calls Tryd.prog 17 #[.slice r1 32 c1, .slice r2 32 c2] W fun e w' => e = .returned (.bool true) ∧ Below W.heap.size W w') := fun W r1 r2 c1 c2 k1 k2 => by
    have := nums_same r1 r2 c1 c2 (regL M2) W k1 k2 (by rw [regL_len]; omega)
    rw [regL_len] at this; exact this
  have HNm : Hid (∀ (W : World) (r1 r2 : Option Addr) (c1 c2 : Nat), NL W r1 (memL M2) → NL W r2 (memL M2) → Calls Tryd.prog 17 #[.slice r1 256 c1, .slice r2 256 c2] W fun e w' => e = .returned (.bool true) ∧ Below W.heap.size W w') := fun W r1 r2 c1 c2 k1 k2 => by
    have := nums_same r1 r2 c1 c2 (memL M2) W k1 k2 (by rw [memL_len]; omega)
    rw [memL_len] at this; exact this
  clear HPr
  rw [HLn.out] at HR2' HR3' HLk
  clear HLn
  generalize trailM ps (na + nb) M0 = tr at *
  generalize hE : M2.e = E at *
  clear hE
  generalize hV : (if E = 0 then M2.v else 0) = V at *
  clear hV
  generalize hP : M2.pr.length = P at *
  clear hP
  generalize hK : (outMem M2).length = K at *
  clear hK
  have hz2 : ((w.alloc (.cells #[.slice ao ps.length cap] 24)).alloc (.cells #[.slice ra rl rc, .slice ma ml mc] 27)).heap.size = w.heap.size + 2 := by simp
  have HZ2 : Hid _ := hz2
  clear hz2
  have hia : (na : Int) ≤ 5000 := by omega
  have hib : (nb : Int) ≤ 5000 := by omega
  have hia0 : (0 : Int) ≤ na := by omega
  have hib0 : (0 : Int) ≤ nb := by omega
  go_enter Tryd.func6, Tryd.ntmps6
  go_wp2_with (first
    | (go_at_call 13; refine Calls.mono (HSa.out _) ?_; rintro e _ ⟨rfl, rfl⟩; clear HSa)
    | (go_at_call 13; refine Calls.mono (HSb.out _) ?_; rintro e _ ⟨rfl, rfl⟩; clear HSb)
    | (go_at_call 8; refine Calls.mono (HN.out _ (by go_grown)) ?_; rintro e w1 ⟨q1, rfl, hm1, hb1, hq1, hk1⟩; rw [hM0] at hm1; rw [HZ2.out] at hq1; obtain ⟨t1, t2, hb0, -, -⟩ := two_new w _ _ _ _ hb1; have HA : Hid (MM w1 q1 ps (One q1) M0 ∧ Bx w w1 ao ps.length cap ra ma rl rc ml mc ∧ w.heap.size + 2 ≤ q1 ∧ NoK w1 q1) := ⟨hm1, ⟨t1, t2, hb0⟩, hq1, hk1⟩; have c0 := t1.c 0 _ rfl; have d0 := t2.c 0 _ rfl; have d1 := t2.c 1 _ rfl; have z1 := t1.lt; have z2 := t2.lt; clear hb1 hb0 HN t1 t2 hm1 hq1 hk1 HZ2)
    | (go_at_call 8; refine Calls.mono (HN2.out _ HA.out.2.1.b) ?_; rintro e w2 ⟨q2, rfl, hm2, hb2, hq2, -⟩; rw [hM0] at hm2; have HD : Hid (Dl w w2 ao ps.length cap ra ma rl rc ml mc q1 q2 w2.heap.size ps (One q1) M0 M0) := ⟨HA.out.2.1.up hb2, HA.out.1.up hb2, (hm2.widen (Nat.lt_of_lt_of_le (HA.out.1.mr.tl q1 rfl) hb2.size) (nok_up HA.out.2.2.2 (HA.out.1.mr.tl q1 rfl) hb2)), (fun k e => .inl e), ⟨HA.out.2.2.1, Nat.lt_of_lt_of_le (HA.out.1.mr.tl q1 rfl) hq2, hm2.mr.tl q2 rfl, Nat.le_refl _⟩⟩; clear hb2 hm2 hq2 HN2 c0 d0 d1 z1 z2)
    | (go_at_call 12; refine Calls.mono (HR1.out _ _ _ HD.out.m) ?_; rintro e w3 ⟨a3, m3, c3, d3, T3, rfl, -, -, hm3, ht3⟩; have HD3 : Hid (Dl w w3 ao ps.length cap ra ma rl rc ml mc q1 q2 w2.heap.size ps T3 Ma1 M0) := HD.out.go hm3 ht3; clear hm3 ht3 HR1 HD)
    | (go_at_call 12; refine Calls.mono (HR2'.out _ _ _ HD3.out.m) ?_; rintro e w4 ⟨a4, m4, c4, d4, T4, rfl, o1, o2, hm4, ht4⟩; have HD4 : Hid (Dl w w4 ao ps.length cap ra ma rl rc ml mc q1 q2 w2.heap.size ps T4 M2 M0 ∧ Own w3 w4 a4 M2.pr ∧ Own w3 w4 m4 (outMem M2) ∧ w2.heap.size ≤ w3.heap.size) := ⟨HD3.out.go hm4 ht4, o1, o2, HD3.out.q.2.2.2⟩; clear hm4 ht4 HR2' HD3 o1 o2)
    | (go_at_call 12; refine Calls.mono (HR3'.out _ _ _ HD4.out.1.n') ?_; rintro e w5 ⟨a5, m5, c5, d5, T5, rfl, o3, o4, hm5, ht5⟩; have hq2z := HD4.out.1.q.2.2.1; have HD5 : Hid (Dm w w5 ao ps.length cap ra ma rl rc ml mc q1 q2 ps T4 T5 M2 ∧ (NL w5 a4 M2.pr ∧ NL w5 m4 (outMem M2)) ∧ NL w5 a5 M2.pr ∧ NL w5 m5 (outMem M2)) := ⟨HD4.out.1.go2 hm5 ht5, ⟨HD4.out.2.1.off ht5.f (fun k hk e => (by have e : k = q2 := e; have h9 := HD4.out.2.2.2; omega)), HD4.out.2.2.1.off ht5.f (fun k hk e => (by have e : k = q2 := e; have h9 := HD4.out.2.2.2; omega))⟩, o3.nl, o4.nl⟩; clear hm5 ht5 HR3' HD4 o3 o4 hq2z)
    | (go_at_call 15; refine Calls.mono (state_any (HD5.out.1.up (two_up _ _ _)).m.mr) ?_; rintro e w6 ⟨r6, c6, g6, d6, rfl, o5, o6, hb6⟩; have HD6 : Hid ((Dm w w6 ao ps.length cap ra ma rl rc ml mc q1 q2 ps T4 T5 M2 ∧ (NL w6 a4 M2.pr ∧ NL w6 m4 (outMem M2)) ∧ NL w6 a5 M2.pr ∧ NL w6 m5 (outMem M2)) ∧ (NL w6 r6 (regL M2) ∧ NL w6 g6 (memL M2)) ∧ Op.At w6 w5.heap.size #[.int .i64 E, .int .i64 V, .slice a4 P c4, .slice m4 K d4, .int .i64 (tr.length : Int)] ∧ Op.At w6 (w5.heap.size + 1) #[.int .i64 E, .int .i64 V, .slice a5 P c5, .slice m5 K d5, .int .i64 (tr.length : Int)]) := (by obtain ⟨e1, e2, e3, -, -⟩ := two_new w5 #[.int .i64 E, .int .i64 V, .slice a4 P c4, .slice m4 K d4, .int .i64 (tr.length : Int)] #[.int .i64 E, .int .i64 V, .slice a5 P c5, .slice m5 K d5, .int .i64 (tr.length : Int)] 39 39 hb6; exact ⟨⟨HD5.out.1.up e3, ⟨HD5.out.2.1.1.up e3, HD5.out.2.1.2.up e3⟩, HD5.out.2.2.1.up e3, HD5.out.2.2.2.up e3⟩, ⟨o5.nl, o6.nl⟩, e1, e2⟩); clear o5 o6 hb6 HD5)
    | (go_at_call 15; refine Calls.mono (state_any HD6.out.1.1.n.mr) ?_; rintro e w7 ⟨r7, c7, g7, d7, rfl, o5, o6, hb7⟩; have HZ : Hid (Zs w ((w7.alloc (.cells #[.slice r6 32 c6, .slice g6 256 d6] 27)).alloc (.cells #[.slice r7 32 c7, .slice g7 256 d7] 27)) ao ps.length cap ra ma rl rc ml mc w5.heap.size w7.heap.size #[.int .i64 E, .int .i64 V, .slice a4 P c4, .slice m4 K d4, .int .i64 (tr.length : Int)] #[.int .i64 E, .int .i64 V, .slice a5 P c5, .slice m5 K d5, .int .i64 (tr.length : Int)] #[.slice r6 32 c6, .slice g6 256 d6] #[.slice r7 32 c7, .slice g7 256 d7] a4 m4 a5 m5 r6 g6 r7 g7 M2) := (by have e1 := Op.At.new w7 #[.slice r6 32 c6, .slice g6 256 d6] 27; have e2 := at_new' (w7.alloc (.cells #[.slice r6 32 c6, .slice g6 256 d6] 27)) #[.slice r7 32 c7, .slice g7 256 d7] 27 (w7.heap.size + 1) (by simp); have e3 := two_up w7 (.cells #[.slice r6 32 c6, .slice g6 256 d6] 27) (.cells #[.slice r7 32 c7, .slice g7 256 d7] 27); have f := HD6.out; have g3 := hb7.trans (e3.mono hb7.size); exact ⟨f.1.1.bx.up g3, f.2.2.1.below g3 f.2.2.1.lt, f.2.2.2.below g3 f.2.2.2.lt, e1.alloc _, e2, ⟨f.1.2.1.1.up g3, f.1.2.1.2.up g3, f.1.2.2.1.up g3, f.1.2.2.2.up g3, f.2.1.1.up g3, f.2.1.2.up g3, o5.nl.up e3, o6.nl.up e3⟩⟩); clear o5 o6 hb7 HD6; have c0 := HZ.out.bx.p.c 0 _ rfl; have d0 := HZ.out.bx.s.c 0 _ rfl; have d1 := HZ.out.bx.s.c 1 _ rfl; have z1 := HZ.out.bx.p.lt; have z2 := HZ.out.bx.s.lt)
    | (go_at_call 18; refine Calls.mono (HTl.out _ HZ.out.bx.b) ?_; rintro e w8 ⟨a8, c8, rfl, -, hb8⟩; have HZ8 : Hid (Zs w w8 ao ps.length cap ra ma rl rc ml mc w5.heap.size w7.heap.size #[.int .i64 E, .int .i64 V, .slice a4 P c4, .slice m4 K d4, .int .i64 (tr.length : Int)] #[.int .i64 E, .int .i64 V, .slice a5 P c5, .slice m5 K d5, .int .i64 (tr.length : Int)] #[.slice r6 32 c6, .slice g6 256 d6] #[.slice r7 32 c7, .slice g7 256 d7] a4 m4 a5 m5 r6 g6 r7 g7 M2) := HZ.out.up hb8; clear hb8 HTl HZ c0 d0 d1 z1 z2; have x0 := HZ8.out.p1.c 0 _ rfl; have x1 := HZ8.out.p1.c 1 _ rfl; have x2 := HZ8.out.p1.c 2 _ rfl; have x3 := HZ8.out.p1.c 3 _ rfl; have x4 := HZ8.out.p1.c 4 _ rfl; have xl := HZ8.out.p1.lt; have y0 := HZ8.out.p2.c 0 _ rfl; have y1 := HZ8.out.p2.c 1 _ rfl; have y2 := HZ8.out.p2.c 2 _ rfl; have y3 := HZ8.out.p2.c 3 _ rfl; have y4 := HZ8.out.p2.c 4 _ rfl; have yl := HZ8.out.p2.lt)
    | (go_at_call 11; refine Calls.mono (HLk.out _ _ _ _ _ _ _ _ _ HZ8.out.al.a1 HZ8.out.al.m1 HZ8.out.al.a2 HZ8.out.al.m2) ?_; rintro e w9 ⟨rfl, hb9⟩; have HZ9 : Hid (Zs w w9 ao ps.length cap ra ma rl rc ml mc w5.heap.size w7.heap.size #[.int .i64 E, .int .i64 V, .slice a4 P c4, .slice m4 K d4, .int .i64 (tr.length : Int)] #[.int .i64 E, .int .i64 V, .slice a5 P c5, .slice m5 K d5, .int .i64 (tr.length : Int)] #[.slice r6 32 c6, .slice g6 256 d6] #[.slice r7 32 c7, .slice g7 256 d7] a4 m4 a5 m5 r6 g6 r7 g7 M2) := HZ8.out.up hb9; clear hb9 HLk HZ8 x0 x1 x2 x3 x4 xl y0 y1 y2 y3 y4 yl; have x0 := HZ9.out.p3.c 0 _ rfl; have xl := HZ9.out.p3.lt; have y0 := HZ9.out.p4.c 0 _ rfl; have yl := HZ9.out.p4.lt)
    | (go_at_call 17; refine Calls.mono (HNr.out _ _ _ _ _ HZ9.out.al.r1 HZ9.out.al.r2) ?_; rintro e w10 ⟨rfl, hb10⟩; have HZ10 : Hid (Zs w w10 ao ps.length cap ra ma rl rc ml mc w5.heap.size w7.heap.size #[.int .i64 E, .int .i64 V, .slice a4 P c4, .slice m4 K d4, .int .i64 (tr.length : Int)] #[.int .i64 E, .int .i64 V, .slice a5 P c5, .slice m5 K d5, .int .i64 (tr.length : Int)] #[.slice r6 32 c6, .slice g6 256 d6] #[.slice r7 32 c7, .slice g7 256 d7] a4 m4 a5 m5 r6 g6 r7 g7 M2) := HZ9.out.up hb10; clear hb10 HNr HZ9 x0 xl y0 yl; have x0 := HZ10.out.p3.c 1 _ rfl; have xl := HZ10.out.p3.lt; have y0 := HZ10.out.p4.c 1 _ rfl; have yl := HZ10.out.p4.lt)
    | (go_at_call 17; refine Calls.mono (HNm.out _ _ _ _ _ HZ10.out.al.g1 HZ10.out.al.g2) ?_; rintro e w11 ⟨rfl, hb11⟩; have HZ11 : Hid (Zs w w11 ao ps.length cap ra ma rl rc ml mc w5.heap.size w7.heap.size #[.int .i64 E, .int .i64 V, .slice a4 P c4, .slice m4 K d4, .int .i64 (tr.length : Int)] #[.int .i64 E, .int .i64 V, .slice a5 P c5, .slice m5 K d5, .int .i64 (tr.length : Int)] #[.slice r6 32 c6, .slice g6 256 d6] #[.slice r7 32 c7, .slice g7 256 d7] a4 m4 a5 m5 r6 g6 r7 g7 M2) := HZ10.out.up hb11; clear hb11 HNm HZ10 x0 xl y0 yl; have y4 := HZ11.out.p2.c 4 _ rfl; have yl := HZ11.out.p2.lt)
    | (go_at_call 10; refine Calls.mono (HW.out _ HZ11.out.bx.b) ?_; rintro e w12 ⟨rfl, hb12⟩; have HB12 : Hid (Below w.heap.size w w12) := HZ11.out.bx.b.trans (hb12.mono HZ11.out.bx.b.size); clear hb12 HW))
  go_ret
  exact ⟨rfl, HB12.out⟩
theorem law_dealt (ao ra ma : Option Addr) (cap rc mc : Nat) (ps : List Bk) (rs ms : List Int) (a b : Int) (w : World) (h : PAt w ao ps) (he : Env w) (hs : Sn w ra ma rs ms) (hr : ∀ x ∈ rs, In64 x) (hm : ∀ x ∈ ms, In64 x) :
    Calls Tryd.prog 6 #[.agg #[.slice ao ps.length cap], .agg #[.slice ra rs.length rc, .slice ma ms.length mc], .int .i64 a, .int .i64 b] w fun e w' => e = .returned (.bool true) ∧ Below w.heap.size w w' := by
  by_cases hc : ckP ps = 0
  · by_cases h32 : rs.length ≤ 32
    · by_cases h256 : ms.length ≤ 256
      · exact dealt_main ao ra ma cap rc mc ps rs ms a b w h he hc hs h32 h256 hr hm
      · exact dealt_no ao ra ma cap _ rc _ mc ps a b w h he (.inr (.inr (by omega)))
    · exact dealt_no ao ra ma cap _ rc _ mc ps a b w h he (.inr (.inl (by omega)))
  · exact dealt_no ao ra ma cap _ rc _ mc ps a b w h he (.inl hc)
end Go.Proofs.YtlnfhbkkodhmaaaDoor.Sm
