/- Trail, read off the program by the walk. Conditions: the program and the state lie in memory, and the variable as the program lays it. -/
import Derived.Test.YtlnfhbkkodhmaaaDoorQa
namespace Go.Proofs.YtlnfhbkkodhmaaaDoor.Sm
open Go.ChangeShapes Go.WideShapes Go.ChangeAt Go.RowKit
open _root_.Go.Proofs.YtlnfhbkkodhmaaaDoor.Op _root_.Go.Proofs.YtlnfhbkkodhmaaaDoor.So
set_option maxRecDepth 20000

theorem trail_no (ao ra ma : Option Addr) (cap rl rc ml mc : Nat) (ps : List Bk) (n : Int) (er : Int) (her : (er == 0) = false) (w : World)
    (hN : ∀ W, Below w.heap.size w W → Calls Tryd.prog 8 #[.agg #[.slice ao ps.length cap], .agg #[.slice ra rl rc, .slice ma ml mc]] W fun e w' => e = .returned (.tuple #[.pointer none, .int .i64 er]) ∧ Below W.heap.size W w') :
    Calls Tryd.prog 18 #[.agg #[.slice ao ps.length cap], .agg #[.slice ra rl rc, .slice ma ml mc], .int .i64 n] w fun e w' => e = .returned (.tuple #[.slice none 0 0, .int .i64 er]) ∧ Below w.heap.size w w' := by
  have HN : Hid _ := hN
  clear hN
  go_enter Tryd.func18, Tryd.ntmps18
  go_wp2_with (first
    | (go_at_call 8; refine Calls.mono (HN.out _ (by go_grown)) ?_; rintro e w1 ⟨rfl, hb⟩; obtain ⟨-, -, hb0, -, -⟩ := two_new w _ _ _ _ hb; have HB : Hid (Below w.heap.size w w1) := hb0; clear hb hb0 HN))
  go_ret2
  exact ⟨rfl, HB.out⟩
theorem tn_at {w w' : World} {T T' : Nat → Prop} {b : Nat} {cs : Array Value} (h : Op.At w b cs) (g : Tn w T w' T') (hT : ¬ T b) : Op.At w' b cs :=
  ⟨fun j v e => (g.f.cell h.lt hT j).trans (h.c j v e), fun j => (g.f.frozen h.lt hT j).trans (h.f j), Nat.lt_of_lt_of_le h.lt g.f.size⟩
theorem trail_post {w w' : World} {q k N c : Nat} {ps : List Bk} {M0 : Ma} {a : Option Addr} (hr : w'.ownsRow (q + 1) 49 4 (.slice a k c) k (tcells (trailM ps k M0))) (hl : (trailM ps k M0).length = k) (hq : w.heap.size ≤ q) (hb : Below w.heap.size w w') (e : trailM ps N M0 = trailM ps k M0) : TrailPost w (trailM ps N M0) (.returned (.tuple #[.slice a k c, .int .i64 0])) w' := by
  rw [e]
  exact ⟨a, c, by rw [hl], by rw [hl]; exact own_le hr (by omega), hb⟩
set_option maxHeartbeats 4000000 in
theorem trail_any (ao ra ma : Option Addr) (cap rc mc : Nat) (ps : List Bk) (rs ms : List Int) (n : Int) (w : World) (h : PAt w ao ps) (he : Env w) (hc : ckP ps = 0) (hs : Sn w ra ma rs ms) (h32 : rs.length ≤ 32) (h256 : ms.length ≤ 256) (hr : ∀ x ∈ rs, In64 x) (hm : ∀ x ∈ ms, In64 x) :
    Calls Tryd.prog 18 #[.agg #[.slice ao ps.length cap], .agg #[.slice ra rs.length rc, .slice ma ms.length mc], .int .i64 n] w (TrailPost w (trailM ps (min (max n 0) 65536).toNat (initM rs ms))) := by
  obtain ⟨i0, hi, hi2⟩ := Option.map_eq_some_iff.1 info49
  simp only [Prod.mk.injEq] at hi2
  obtain ⟨hz0, hz1, hz2⟩ := hi2
  have HI : Hid (Tryd.prog.info? 49 = some i0 ∧ i0.zero = some (.agg #[.int .i64 0, .bool false, .int .i64 0, .bool false]) ∧ i0.size = 4 ∧ i0.bytes = 32) := ⟨hi, hz0, hz1, hz2⟩
  clear hi hz0 hz1 hz2
  have HN : Hid (∀ W, Below w.heap.size w W → Calls Tryd.prog 8 #[.agg #[.slice ao ps.length cap], .agg #[.slice ra rs.length rc, .slice ma ms.length mc]] W (NewPost' W ps rs ms)) := fun W hb => new_ok' ao ra ma cap rc mc ps rs ms W (h.below hb) (he.up hb) hc (hs.up hb) h32 h256 hr hm
  have HBr : Hid (∀ W, Calls Tryd.prog 27 #[.int .i64 n, .int .i64 65536] W fun e w' => e = .returned (.int .i64 (((min (max n 0) 65536).toNat : Nat) : Int)) ∧ w' = W) := fun W => by
    rw [show (((min (max n 0) 65536).toNat : Nat) : Int) = min (max n 0) 65536 by omega]
    exact brought_any n 65536 W
  have hN : (min (max n 0) 65536).toNat ≤ 65536 := by omega
  clear h he hc hs h32 h256 hr hm
  generalize (min (max n 0) 65536).toNat = N at *
  generalize rs.length = rl at *
  generalize ms.length = ml at *
  have hM0 : (initM rs ms).s = 0 := rfl
  have HM0 : Hid ((initM rs ms).s = 0) := hM0
  clear hM0
  generalize hM0 : initM rs ms = M0 at *
  have hz2 : ((w.alloc (.cells #[.slice ao ps.length cap] 24)).alloc (.cells #[.slice ra rl rc, .slice ma ml mc] 27)).heap.size = w.heap.size + 2 := by simp
  have HZ2 : Hid _ := hz2
  clear hz2
  have hNi : (N : Int) ≤ 65536 := by omega
  go_enter Tryd.func18, Tryd.ntmps18
  go_wp2_with (first
    | (go_at_call 8; refine Calls.mono (HN.out _ (by go_grown)) ?_; rintro e w1 ⟨q, rfl, hmm, hb1, hwq, -⟩; rw [hM0] at hmm; rw [HZ2.out] at hwq; have HT : Hid (Tr w w1 q ps M0 0 none 0) := ⟨(two_new w _ _ _ _ hb1).2.2.1, (by omega), World.ownsRow_nil _ _ _ _, rfl, One q, hmm, (fun j e => (by have e : j = q := e; omega)), (fun x e => (by cases e))⟩; clear hmm hb1 hwq HN HZ2)
    | (go_at_call 27; refine Calls.mono (HBr.out _) ?_; rintro e _ ⟨rfl, rfl⟩; clear HBr))
  clear hM0
  go_loopw [10, 23] (fun v i wr => ∃ (k : Nat) (a : Option Addr) (c : Nat), k ≤ N ∧ i = .int .i64 k ∧ v = .slice a k c ∧ Tr w wr q ps M0 k a c) (fun _ i _ => N - (intOf i).toNat)
  case atStart => exact ⟨0, none, 0, by omega, rfl, rfl, HT.out⟩
  case round =>
    rename World => wr
    obtain ⟨k, a, c, hk, rfl, rfl, ht⟩ := hrel
    have HTr : Hid (Tr w wr q ps M0 k a c) := ht
    clear ht HT
    by_cases hlt : k < N
    · have hki : (k : Int) < N := by omega
      obtain ⟨T, hmm, hT1, hT2⟩ := HTr.out.mm
      have HMm : Hid (MM wr q ps T (stM ps k M0) ∧ (∀ j, T j → w.heap.size ≤ j) ∧ ∀ x, a = some x → ¬ T x.block) := ⟨hmm, hT1, hT2⟩
      have hone := trail_one ps (stM ps k M0)
      have HS1 : Hid (∀ W T', MM W q ps T' (stM ps (k + 1) M0) → W.cell? ⟨q, 336, none⟩ = some (.int .i64 ((k : Int) + ((trailM ps 1 (stM ps k M0)).length : Int))) ∧ q < W.heap.size) := fun W T' hm => by
        obtain ⟨ba, bc, po, pc, hM⟩ := hm.mr.mat
        have h1 := hM.s
        have h2 := st_s ps (k + 1) M0
        rw [HM0.out, st_trail, List.length_append, HTr.out.len] at h2
        rw [h2] at h1
        refine ⟨?_, hM.lt⟩
        rw [h1]
        congr 2
        omega
      clear hmm hT1 hT2
      generalize hmk : stM ps k M0 = Mk at *
      have HMk : Hid (stM ps k M0 = Mk) := hmk
      clear hmk
      have HTg : Hid (Calls Tryd.prog 32 #[ptr q] wr fun e w' => e = .returned (.agg #[.int .i64 (tagM ps Mk).1, .bool (tagM ps Mk).2.1, .int .i64 (tagM ps Mk).2.2, .bool false]) ∧ Below wr.heap.size wr w') := tag_any HMm.out.1
      have HGo : Hid (∀ W, Below wr.heap.size wr W → Calls Tryd.prog 26 #[ptr q, .int .i64 1] W fun e w' => e = .returned (.tuple #[]) ∧ ∃ T', MM w' q ps T' (runM ps 1 Mk) ∧ Tn W T w' T') := fun W hb => goOn_any 1 (HMm.out.1.up hb) (by
        have h2 := st_s ps k M0
        rw [HM0.out, HMk.out, HTr.out.len] at h2
        omega)
      have HSt : Hid (∀ {W w2 : World} {T' : Nat → Prop}, Below wr.heap.size wr W → MM w2 q ps T' (runM ps 1 Mk) → Tn W T w2 T' → Ts w w2 q ps M0 k a c) := fun {W w2 T'} hb hm ht => (HTr.out.up' hb).step HMm.out.2.1 HMm.out.2.2 (by rw [HMk.out]; exact hm) ht
      rcases hone with ⟨h1, hz⟩ | h1
      · rw [h1] at HS1
        simp only [List.length_nil, Int.natCast_zero, Int.add_zero] at HS1
        have HEnd : Hid (trailM ps N M0 = trailM ps k M0) := trail_stop (by omega) (by rw [HMk.out]; exact hz)
        clear h1 hz
        go_wp2_with (first
          | (go_at_call 32; refine Calls.mono HTg.out ?_; rintro e w1 ⟨rfl, hb⟩; have HB1 : Hid (Below wr.heap.size wr w1) := hb; clear hb HTg)
          | (go_at_call 26; refine Calls.mono (HGo.out _ (HB1.out.alloc HB1.out.size _)) ?_; rintro e w2 ⟨rfl, T', hm, htn⟩; have HTs : Hid (Ts w w2 q ps M0 k a c) := (HSt.out (HB1.out.alloc HB1.out.size _) hm htn); obtain ⟨s1, s2⟩ := HS1.out w2 T' (by rw [← HMk.out, st_next] at hm; exact hm); have HTb : Hid (Op.At w2 w1.heap.size #[.int .i64 (tagM ps Mk).1, .bool (tagM ps Mk).2.1, .int .i64 (tagM ps Mk).2.2, .bool false]) := (tn_at (Op.At.new w1 #[.int .i64 (tagM ps Mk).1, .bool (tagM ps Mk).2.1, .int .i64 (tagM ps Mk).2.2, .bool false] 49) htn (fun hT => (by have h4 := HMm.out.1.mr.tl _ hT; have h5 := HB1.out.size; omega))); clear hm htn HGo HSt))
        go_ret2
        exact trail_post HTs.out.row HTs.out.len HTs.out.wq HTs.out.up HEnd.out
      · rw [h1] at HS1
        simp only [List.length_cons, List.length_nil, Nat.zero_add, show (((1 : Nat) : Int)) = 1 from rfl] at HS1
        have HOne : Hid (trailM ps 1 (stM ps k M0) = [tagM ps (stM ps k M0)]) := (by show trailM ps 1 (stM ps k M0) = _; rw [HMk.out]; exact h1)
        have hne : ((k : Int) + 1 == (k : Int)) = false := by simp; omega
        clear h1
        go_wp2_with (first
          | (go_at_call 32; refine Calls.mono HTg.out ?_; rintro e w1 ⟨rfl, hb⟩; have HB1 : Hid (Below wr.heap.size wr w1) := hb; clear hb HTg)
          | (go_at_call 26; refine Calls.mono (HGo.out _ (HB1.out.alloc HB1.out.size _)) ?_; rintro e w2 ⟨rfl, T', hm, htn⟩; have HTs : Hid (Ts w w2 q ps M0 k a c) := (HSt.out (HB1.out.alloc HB1.out.size _) hm htn); obtain ⟨s1, s2⟩ := HS1.out w2 T' (by rw [← HMk.out, st_next] at hm; exact hm); have HTb : Hid (Op.At w2 w1.heap.size #[.int .i64 (tagM ps Mk).1, .bool (tagM ps Mk).2.1, .int .i64 (tagM ps Mk).2.2, .bool false]) := (tn_at (Op.At.new w1 #[.int .i64 (tagM ps Mk).1, .bool (tagM ps Mk).2.1, .int .i64 (tagM ps Mk).2.2, .bool false] 49) htn (fun hT => (by have h4 := HMm.out.1.mr.tl _ hT; have h5 := HB1.out.size; omega))); have t0 := HTb.out.c 0 _ rfl; have t1 := HTb.out.c 1 _ rfl; have t2 := HTb.out.c 2 _ rfl; have t3 := HTb.out.c 3 _ rfl; have t4 := HTb.out.lt; clear hm htn HGo HSt)
          | (at_builtin; refine wpList_append_lies _ rfl _ _ 45 rfl (q + 1) 49 i0 (.agg #[.int .i64 0, .bool false, .int .i64 0, .bool false]) 4 32 Tryd.underlying45 HI.out.1 HI.out.2.1 HI.out.2.2.1 HI.out.2.2.2 rfl (by decide) _ _ _ rfl (HTs.out.row.alloc _) ⟨w2.heap.size, 0, none⟩ 1 1 [.int .i64 (tagM ps Mk).1, .bool (tagM ps Mk).2.1, .int .i64 (tagM ps Mk).2.2, .bool false] rfl rfl (World.news_of_block (heap_alloc_new w2 (.cells #[.int .i64 (tagM ps Mk).1, .bool (tagM ps Mk).2.1, .int .i64 (tagM ps Mk).2.2, .bool false] 49))) (by simp [Value.oneCell']) (by decide) (by unfold maxLen; omega) (by omega) (by simp; omega) _ rfl ?_; intro g cap w3 hown hgrow hg hlt; have HT3 : Hid (Tr w w3 q ps M0 (k + 1) (some ⟨g, 0, none⟩) cap) := ((HTs.out.up' ((Below.refl _ _).alloc (Nat.le_refl _) _)).snoc HOne.out hgrow hg (by rw [HMk.out]; exact hown)); clear hown hgrow hg hlt))
        go_roundw
        case rel => exact ⟨k + 1, _, _, by omega, by go_num, rfl, HT3.out⟩
        case measure => simp [intOf]; omega
    · obtain rfl : k = N := by omega
      go_wp2_with fail
      go_ret2
      exact trail_post HTr.out.row HTr.out.len HTr.out.wq HTr.out.up rfl
end Go.Proofs.YtlnfhbkkodhmaaaDoor.Sm
