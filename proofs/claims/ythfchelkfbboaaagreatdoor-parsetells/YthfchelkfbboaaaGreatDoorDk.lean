/- The document's Program: what it answers of a text: read off the program by the walk. Conditions: none. -/
import Derived.Test.YthfchelkfbboaaaGreatDoorDy
import Derived.Test.YthfchelkfbboaaaGreatDoorFa
import Derived.Test.YthfchelkfbboaaaGreatDoorRj
import Derived.Deep.RegionLaw
namespace Go.Proofs.YthfchelkfbboaaaGreatDoor.Pr
open Go.ChangeShapes Go.WideShapes Go.ChangeAt Go.RowKit
open _root_.Go.Proofs.YthfchelkfbboaaaGreatDoor.Op
set_option maxRecDepth 20000

/-- What the document's Program answers. -/
def RfPost (F : Option (Int × Wd') × List Bk) (w : World) (e : Ending) (w' : World) : Prop :=
  match F.1 with
  | none => ∃ a c, e = .returned (.tuple #[.agg #[.slice a F.2.length c], fltV 0 0 ⟨#[]⟩]) ∧ PAt w' a F.2 ∧ Below w.heap.size w w'
  | some f => e = .returned (.tuple #[.agg #[.slice none 0 0], fltV f.1 (f.2.1 : Int) ⟨f.2.2.toArray⟩]) ∧ Below w.heap.size w w'
set_option maxHeartbeats 1000000 in
theorem dprog_long (s : ByteArray) (w : World) (hs : 65536 < s.size) (hs2 : s.size ≤ maxLen) : Calls Tryz.prog 7 #[.string s] w (RfPost (parseF s.data.toList) w) := by
  rw [show parseF s.data.toList = (some (3, 0, []), []) by rw [parseF, if_pos (by show 65536 < s.size; exact hs)]]
  unfold maxLen at hs2
  go_enter Tryz.func7, Tryz.ntmps7
  go_wp2
  refine bodyPost_ret (v := .tuple #[.agg #[.slice none 0 0], .agg #[.int .i64 3, .int .i64 0, .string ⟨#[]⟩]]) (by simp [results, Tryz.results7, go_sem]) rfl ⟨rfl, by go_grown⟩
theorem Pz.r4 {w V : World} {r : Nat} {la : Option Addr} {lc m : Nat} {ls : List Ln} {ps : List Pw} {n : Nat} {fl : Option Wd'} {v : Value} {acc : List Bk} {pls : List Pl} (h : Pz w V r la lc m ls ps n fl v acc pls) (c0 d0 d1 d2 : Value) : At ((((V.setCell ⟨w.heap.size, 0, none⟩ c0).setCell ⟨w.heap.size + 1, 0, none⟩ d0).setCell ⟨w.heap.size + 1, 1, none⟩ d1).setCell ⟨w.heap.size + 1, 2, none⟩ d2) w.heap.size #[c0] ∧ At ((((V.setCell ⟨w.heap.size, 0, none⟩ c0).setCell ⟨w.heap.size + 1, 0, none⟩ d0).setCell ⟨w.heap.size + 1, 1, none⟩ d1).setCell ⟨w.heap.size + 1, 2, none⟩ d2) (w.heap.size + 1) #[d0, d1, d2] ∧ Below w.heap.size w ((((V.setCell ⟨w.heap.size, 0, none⟩ c0).setCell ⟨w.heap.size + 1, 0, none⟩ d0).setCell ⟨w.heap.size + 1, 1, none⟩ d1).setCell ⟨w.heap.size + 1, 2, none⟩ d2) ∧ Fr (Two w.heap.size (w.heap.size + 1)) V ((((V.setCell ⟨w.heap.size, 0, none⟩ c0).setCell ⟨w.heap.size + 1, 0, none⟩ d0).setCell ⟨w.heap.size + 1, 1, none⟩ d1).setCell ⟨w.heap.size + 1, 2, none⟩ d2) := by
  have hg : Fr (One w.heap.size) V (V.setCell ⟨w.heap.size, 0, none⟩ c0) := (Fr.refl (One w.heap.size) V).setCell (.inr rfl) _ _
  have hg2 : Fr (One (w.heap.size + 1)) (V.setCell ⟨w.heap.size, 0, none⟩ c0) ((((V.setCell ⟨w.heap.size, 0, none⟩ c0).setCell ⟨w.heap.size + 1, 0, none⟩ d0).setCell ⟨w.heap.size + 1, 1, none⟩ d1).setCell ⟨w.heap.size + 1, 2, none⟩ d2) := (((Fr.refl (One (w.heap.size + 1)) _).setCell (.inr rfl) _ _).setCell (.inr rfl) _ _).setCell (.inr rfl) _ _
  have k0 := at_fr (at_set h.r0 (j := 0) (by simp) c0) hg2 (by show ¬ _ = _; omega)
  have k1 := at_set (at_set (at_set (at_fr h.r1 hg (by show ¬ _ = _; omega)) (j := 0) (by simp) d0) (j := 1) (by simp) d1) (j := 2) (by simp) d2
  have hF : Fr (Two w.heap.size (w.heap.size + 1)) V ((((V.setCell ⟨w.heap.size, 0, none⟩ c0).setCell ⟨w.heap.size + 1, 0, none⟩ d0).setCell ⟨w.heap.size + 1, 1, none⟩ d1).setCell ⟨w.heap.size + 1, 2, none⟩ d2) := (hg.mono (fun k _ hk => .inl hk)).trans hg2 (fun k _ hk => .inr hk)
  exact ⟨k0, k1, h.b.trans (hF.below h.b.size (fun k hk => by show ¬ (_ = _ ∨ _ = _); omega)), hF⟩
theorem Pz.fin {w V V' : World} {r : Nat} {la : Option Addr} {lc m : Nat} {ls : List Ln} {ps : List Pw} {n : Nat} {fl : Option Wd'} {a : Option Addr} {c : Nat} {acc : List Bk} {pls : List Pl} (h : Pz w V r la lc m ls ps n fl (.slice a acc.length c) acc pls) (hf : Fr (Two w.heap.size (w.heap.size + 1)) V V') (hs : Small acc) : PAt V' a acc := by
  have h1 := h.h1
  have k : ∀ {e : TypeId} {z : Nat} {v : Value} {n : Nat} {xs : List Value}, V.ownsRow (r + 2) e z v n xs → V'.ownsRow (r + 2) e z v n xs := fun hr => row_fr hr hf (fun g hg hy => by
    have := (hr.lt g hg).1
    rcases hy with hy | hy <;> omega)
  obtain ⟨a2, c2, e2, hpa⟩ := rows_done h.len (k h.row) (fun i p x hp hx => ⟨k (h.ins i p x hp hx).1, k (h.ins i p x hp hx).2⟩) hs
  injection e2 with e2 _ _
  subst e2; exact hpa
theorem stF_to {k : Nat} {ls : List Ln} {n n' m : Nat} {x : Bk} (hv : ∀ z, blockD k ls n m = .ok z → z = (x, n')) (h : stF (blockD k ls n m) = none) : n < n' ∧ n' ≤ ls.length := by
  cases hB : blockD k ls n m with
  | no f => rw [hB] at h; cases h
  | ok z =>
    have := hv z hB
    subst this
    exact block_to hB
theorem left_lt {V : World} {r : Nat} {lv : Value} {k : Nat} {ls : List Ln} {n n' m m' : Nat} {x : Bk} (h : Dr V r lv n' m' (stF (blockD k ls n m))) (hv : ∀ z, blockD k ls n m = .ok z → z = (x, n')) : leftP V r ls.length < ls.length - n + 1 := by
  cases hs : stF (blockD k ls n m) with
  | none => rw [hs] at h; have := stF_to hv hs; rw [h.leftN]; omega
  | some f => rw [hs] at h; rw [h.leftS]; omega
theorem nq_of {x : Int} (h : ¬ x = 0) : (x != 0) = true ∧ (x == 0) = false := ⟨by simpa using h, by simpa using h⟩
set_option maxHeartbeats 4000000 in
theorem dprog_short (s : ByteArray) (w : World) (hs : s.size ≤ 65536) : Calls Tryz.prog 7 #[.string s] w (RfPost (parseF s.data.toList) w) := by
  have HD : Hid (∀ W, Calls Tryz.prog 11 #[.string s] W fun e w' => ∃ v ps, e = .returned v ∧ DLs W w' v (linesS s.data.toList 0 []) ps) := fun W => dlines_any s W hs
  have HSt : Hid (∀ (w1 : World) la lc ps, DLs ((w.alloc (.cells #[.slice none 0 0] 24)).alloc (.cells #[.int .i64 0, .int .i64 0, .string ⟨#[]⟩] 31)) w1 (.slice la (linesS s.data.toList 0 []).length lc) (linesS s.data.toList 0 []) ps → Pz w ((w1.alloc (.cells #[.slice la (linesS s.data.toList 0 []).length lc, .int .i64 0, .int .i64 (s.size : Int), .int .i64 0, .int .i64 0, .string ⟨#[]⟩] 56)).alloc (.cells #[.slice none 0 0] 24)) w1.heap.size la lc s.size (linesS s.data.toList 0 []) ps 0 none (.slice none 0 0) [] []) := fun w1 la lc ps h => Pz.start h hs
  have HB0 : Hid (Bep (readT s.data.toList) (linesS s.data.toList 0 []) s.size 0 (stF (haveR (linesS s.data.toList 0 []).length 0 s.size)) []) := bep_start s.size (linesS s.data.toList 0 [])
  have HSm : Hid (∀ bs, readT s.data.toList = .ok bs → Small bs) := fun bs h => small_read h (by have h1 := lines_len s.data.toList 0 []; have h2 : s.data.toList.length = s.size := rfl; omega)
  have HRF : Hid (parseF s.data.toList = match readT s.data.toList with | .no f => (some (60, f), []) | .ok bs => if ckP bs = 0 then (none, bs) else (some (ckP bs, 0, []), [])) := by show _ = _; rw [parseF, if_neg (by show ¬ 65536 < s.size; omega)]; cases readT s.data.toList <;> rfl
  have hL : (linesS s.data.toList 0 []).length ≤ 65537 := by have h1 := lines_len s.data.toList 0 []; have h2 : s.data.toList.length = s.size := rfl; omega
  generalize parseF s.data.toList = F at *
  generalize readT s.data.toList = RES at *
  generalize linesS s.data.toList 0 [] = ls at *
  obtain ⟨i0, hi, hi2⟩ := Option.map_eq_some_iff.1 info60
  simp only [Prod.mk.injEq] at hi2
  obtain ⟨hz0, hz1, hz2⟩ := hi2
  have HI : Hid (Tryz.prog.info? 60 = some i0 ∧ i0.zero = some (.agg #[.slice none 0 0, .int .i8 0, .int .u8 0, .slice none 0 0, .int .i64 0, .int .i64 0]) ∧ i0.size = 6 ∧ i0.bytes = 72) := ⟨hi, hz0, hz1, hz2⟩
  clear hi hz0 hz1 hz2
  go_enter Tryz.func7, Tryz.ntmps7
  go_wp2_with (first
    | (go_at_call 11; refine Calls.mono (HD.out _) ?_; rintro e w1 ⟨v, ps, rfl, hd⟩; obtain ⟨la, lc, rfl⟩ := row_slice hd.row; have HP0 : Hid (Pz w ((w1.alloc (.cells #[.slice la ls.length lc, .int .i64 0, .int .i64 (s.size : Int), .int .i64 0, .int .i64 0, .string ⟨#[]⟩] 56)).alloc (.cells #[.slice none 0 0] 24)) w1.heap.size la lc s.size ls ps 0 none (.slice none 0 0) [] []) := HSt.out w1 la lc ps hd; clear hd HD HSt)
    | (go_at_call 14; refine Calls.mono (dhave_any w1.heap.size la ls.length lc 0 s.size none _ HP0.out.d) ?_; rintro e w2 ⟨rfl, hd, hf⟩; have HP1 : Hid (Pz w w2 w1.heap.size la lc s.size ls ps 0 (stF (haveR ls.length 0 s.size)) (.slice none 0 0) [] []) := HP0.out.go hd hf; clear hd hf HP0))
  generalize w1.heap.size = r at *
  go_loopw [] (fun wr => ∃ (n : Nat) (acc : List Bk) (fl' : Option Wd') (v : Value) (pls : List Pl), (fl' = none → n ≤ ls.length ∧ acc.length ≤ n) ∧ Pz w wr r la lc s.size ls ps n fl' v acc pls ∧ Hid (Bep RES ls s.size n fl' acc)) (fun wr => leftP wr r ls.length)
  case atStart => exact ⟨0, [], _, _, [], fun _ => ⟨by omega, by simp⟩, HP1.out, HB0⟩
  case round =>
    rename World => wr
    clear HP1 HB0
    obtain ⟨n, acc, fl', v, pls, hn, hz, HB⟩ := hrel
    have HZ : Hid _ := hz
    have c0 := hz.d.a.c 0 _ rfl
    have c1 := hz.d.a.c 1 _ rfl
    have c3 := hz.d.a.c 3 _ rfl
    cases fl' with
    | some f =>
      have hR : RES = .no f := HB.out
      subst hR
      simp only at c3
      clear hz
      go_wp2
      go_quiet (fail)
      go_wp2
      have HV : Hid _ := HZ.out.up (drewN_below (Below.refl _ _) nq)
      clear HZ c0 c1 c3
      generalize wr.drewN nq = V at *
      have d3 := HV.out.d.a.c 3 _ rfl
      have d4 := HV.out.d.a.c 4 _ rfl
      have d5 := HV.out.d.a.c 5 _ rfl
      have p0 := HV.out.r0.c 0 _ rfl
      have pf := HV.out.r0.f
      have s0 := HV.out.r1.c 0 _ rfl
      have s1 := HV.out.r1.c 1 _ rfl
      have s2 := HV.out.r1.c 2 _ rfl
      have sf := HV.out.r1.f
      have zr := HV.out.d.lt
      have zw := HV.out.h1
      simp only at d3 d4 d5
      go_region
      go_wp2
      have hx := HV.out
      obtain ⟨k0, k1, hb, _⟩ := hx.r4 (.slice none 0 0) (.int .i64 60) (.int .i64 (f.1 : Int)) (.string ⟨f.2.toArray⟩)
      generalize ((((V.setCell ⟨w.heap.size, 0, none⟩ (.slice none 0 0)).setCell ⟨w.heap.size + 1, 0, none⟩ (.int .i64 60)).setCell ⟨w.heap.size + 1, 1, none⟩ (.int .i64 (f.1 : Int))).setCell ⟨w.heap.size + 1, 2, none⟩ (.string ⟨f.2.toArray⟩)) = W at *
      have q0 : W.drew.cell? ⟨w.heap.size, 0, none⟩ = some (.slice none 0 0) := k0.c 0 _ rfl
      have q1 : W.drew.cell? ⟨w.heap.size + 1, 0, none⟩ = some (.int .i64 60) := k1.c 0 _ rfl
      have q2 : W.drew.cell? ⟨w.heap.size + 1, 1, none⟩ = some (.int .i64 (f.1 : Int)) := k1.c 1 _ rfl
      have q3 : W.drew.cell? ⟨w.heap.size + 1, 2, none⟩ = some (.string ⟨f.2.toArray⟩) := k1.c 2 _ rfl
      have hF : F = (some (60, f), []) := HRF.out
      refine bodyPost_ret (v := .tuple #[.agg #[.slice none 0 0], .agg #[.int .i64 60, .int .i64 (f.1 : Int), .string ⟨f.2.toArray⟩]]) (by simp [results, Tryz.results7, go_sem, q0, q1, q2, q3]) rfl ?_
      rw [hF]
      exact ⟨rfl, hb.drew⟩
    | none =>
      obtain ⟨hn1, hac⟩ := hn rfl
      simp only at c3
      obtain ⟨va, vc, rfl⟩ := row_slice hz.row
      by_cases hlt : n < ls.length
      · clear hz
        go_wp2
        go_quiet (fail)
        go_wp2
        have HV : Hid _ := HZ.out.up (drewN_below (Below.refl _ _) nq)
        have HWL : Hid (leftP wr r ls.length = ls.length - n + 1) := HZ.out.d.leftN _
        clear HZ c0 c1 c3
        generalize wr.drewN nq = V at *
        have HVd : Hid _ := HV.out.up (Below.refl _ _).drew
        have g0 := HV.out.p.c 0 _ rfl
        have gf := HV.out.p.f
        have zp := HV.out.p.lt
        have zr := HV.out.d.lt
        have zw := HV.out.h1
        have hl65 := hL
        go_region_law (first
          | (refine step_append_lies _ (by rfl) (.tmp 39) (.tmp 45) 22 (by rfl) (r + 2) 60 i0 (.agg #[.slice none 0 0, .int .i8 0, .int .u8 0, .slice none 0 0, .int .i64 0, .int .i64 0]) 6 72 Tryz.underlying22 HI.out.1 HI.out.2.1 HI.out.2.2.1 HI.out.2.2.2 rfl (by decide) (.slice va acc.length vc) acc.length (bcells acc pls) (by rfl) (HM.out.row.alloc _) ⟨u1.heap.size, 0, none⟩ 1 1 [.slice pl.oa x.ops.length pl.oc, .int .i8 x.fin, .int .u8 x.a, .slice pl.ba x.body.length pl.bc, .int .i64 x.thn, .int .i64 x.els] (by rfl) rfl (World.news_of_block (heap_alloc_new u1 _)) (by simp [Value.oneCell']) (by decide) (by unfold maxLen; omega) (by omega) (by simp; omega) (u1.heap.size + 1) (by simp) ?_; intro g cap w4 hown4 hgrow4 hat4 hlt4; obtain ⟨kp, hpz⟩ := HM.out.put HRO.out.1 HRO.out.2 hown4 hgrow4; have HN2 : Hid _ := hpz; have e0 := kp.c 0 _ rfl; have ef := kp.f; have zk := kp.lt; clear kp hpz hown4 hgrow4 hat4 hlt4)
          | (go_simp; go_at_call 15; refine Calls.mono (dblock_any r acc.length la ls ps lc n s.size _ HVd.out.d HVd.out.l hn1 (by omega)) ?_; rintro e u1 ⟨x, pl, n', rfl, hd, hl, ho, hy, hf, hv⟩; have HM : Hid (Pz w u1 r la lc s.size ls ps n' (stF (blockD acc.length ls n s.size)) (.slice va acc.length vc) acc pls) := HVd.out.go hd hf; have HRO : Hid (LRow u1 (r + 2) pl.oa pl.oc x.ops ∧ LRow u1 (r + 2) pl.ba pl.bc x.body) := ⟨row_le ho (by show _ ≤ V.heap.size; omega), row_le hy (by show _ ≤ V.heap.size; omega)⟩; have HVx : Hid _ := hv; have m0 := HM.out.p.c 0 _ rfl; have mf := HM.out.p.f; have zm := HM.out.p.lt; clear hd hl ho hy hf hv; (try dsimp only [Bk.val])))
        all_goals
          have HB2 : Hid (Bep RES ls s.size n' (stF (blockD acc.length ls n s.size)) (acc ++ [x])) := bep_next HB.out hlt (fun z hz => by have := HVx.out z hz; subst this; exact ⟨rfl, rfl⟩)
          go_roundw
          case rel =>
            (repeat apply Exists.intro)
            exact ⟨⟨n', acc ++ [x], _, _, pls ++ [pl], fun h => (by have := stF_to HVx.out h; rw [List.length_append, List.length_singleton]; omega), HN2.out, HB2⟩, rfl⟩
          case measure =>
            show leftP _ r ls.length < leftP wr r ls.length
            rw [HWL.out]
            exact left_lt HN2.out.d HVx.out
      · have hR : RES = .ok acc := bep_end HB.out (by omega)
        subst hR
        have HSa : Hid (Small acc) := HSm.out acc rfl
        clear hz
        go_wp2
        go_quiet (fail)
        have HV : Hid (Pz w (wr.drewN nq) r la lc s.size ls ps n none (.slice va acc.length vc) acc pls) := HZ.out.up (drewN_below (Below.refl _ _) nq)
        clear HZ c0 c1 c3
        generalize wr.drewN nq = V at *
        have d3 := HV.out.d.a.c 3 _ rfl
        simp only at d3
        have g0 := HV.out.p.c 0 _ rfl
        have zr := HV.out.d.lt
        have zw := HV.out.h1
        have HPA : Hid (PAt V va acc) := HV.out.fin (Fr.refl _ _) HSa.out
        by_cases h0 : ckP acc = 0
        · have hF : F = (none, acc) := by
            have := HRF.out
            rw [if_pos h0] at this; exact this
          have HC : Hid _ := refCheckP_any va vc acc V HPA.out
          rw [h0] at HC
          have HFF : Hid _ := hF
          clear h0 hF HRF
          go_wp2_with (first | (go_at_call 16; refine Calls.mono HC.out ?_; rintro e u1 ⟨rfl, hb⟩; have HU : Hid _ := HV.out.up hb; clear hb HV HC; have g1 := HU.out.p.c 0 _ rfl; have p0 := HU.out.r0.c 0 _ rfl; have pf := HU.out.r0.f; have s0 := HU.out.r1.c 0 _ rfl; have s1 := HU.out.r1.c 1 _ rfl; have s2 := HU.out.r1.c 2 _ rfl; have sf := HU.out.r1.f; have zu := HU.out.d.lt))
          have hx := HU.out
          obtain ⟨k0, k1, hb, hf⟩ := hx.r4 (.slice va acc.length vc) (.int .i64 0) (.int .i64 0) (.string ⟨#[]⟩)
          have hpa := hx.fin hf HSa.out
          generalize ((((u1.setCell ⟨w.heap.size, 0, none⟩ (.slice va acc.length vc)).setCell ⟨w.heap.size + 1, 0, none⟩ (.int .i64 0)).setCell ⟨w.heap.size + 1, 1, none⟩ (.int .i64 0)).setCell ⟨w.heap.size + 1, 2, none⟩ (.string ⟨#[]⟩)) = W at *
          have q0 := k0.c 0 _ rfl
          have q1 := k1.c 0 _ rfl
          have q2 := k1.c 1 _ rfl
          have q3 := k1.c 2 _ rfl
          refine bodyPost_ret (v := .tuple #[.agg #[.slice va acc.length vc], .agg #[.int .i64 0, .int .i64 0, .string ⟨#[]⟩]]) (by simp [results, Tryz.results7, go_sem, q0, q1, q2, q3]) rfl ?_
          rw [HFF.out]
          exact ⟨va, vc, rfl, hpa, hb⟩
        · have hF : F = (some (ckP acc, 0, []), []) := by
            have := HRF.out
            rw [if_neg h0] at this; exact this
          have HC : Hid _ := refCheckP_any va vc acc V HPA.out
          have HFF : Hid _ := hF
          obtain ⟨hc1, hc2⟩ := nq_of h0
          clear h0 hF HRF
          generalize ckP acc = ec at *
          go_wp2_with (first | (go_at_call 16; refine Calls.mono HC.out ?_; rintro e u1 ⟨rfl, hb⟩; have HU : Hid _ := HV.out.up hb; clear hb HV HC; have g1 := HU.out.p.c 0 _ rfl; have p0 := HU.out.r0.c 0 _ rfl; have pf := HU.out.r0.f; have s0 := HU.out.r1.c 0 _ rfl; have s1 := HU.out.r1.c 1 _ rfl; have s2 := HU.out.r1.c 2 _ rfl; have sf := HU.out.r1.f; have zu := HU.out.d.lt))
          have hx := HU.out
          obtain ⟨k0, k1, hb, _⟩ := hx.r4 (.slice none 0 0) (.int .i64 ec) (.int .i64 0) (.string ⟨#[]⟩)
          generalize ((((u1.setCell ⟨w.heap.size, 0, none⟩ (.slice none 0 0)).setCell ⟨w.heap.size + 1, 0, none⟩ (.int .i64 ec)).setCell ⟨w.heap.size + 1, 1, none⟩ (.int .i64 0)).setCell ⟨w.heap.size + 1, 2, none⟩ (.string ⟨#[]⟩)) = W at *
          have q0 := k0.c 0 _ rfl
          have q1 := k1.c 0 _ rfl
          have q2 := k1.c 1 _ rfl
          have q3 := k1.c 2 _ rfl
          refine bodyPost_ret (v := .tuple #[.agg #[.slice none 0 0], .agg #[.int .i64 ec, .int .i64 0, .string ⟨#[]⟩]]) (by simp [results, Tryz.results7, go_sem, q0, q1, q2, q3]) rfl ?_
          rw [HFF.out]
          exact ⟨rfl, hb⟩
/-- The document's Program answers what the code's reader says. -/
theorem dprog_any (s : ByteArray) (w : World) (hs : s.size ≤ maxLen) : Calls Tryz.prog 7 #[.string s] w (RfPost (parseF s.data.toList) w) := by
  rcases Nat.lt_or_ge 65536 s.size with h | h
  · exact dprog_long s w h hs
  · exact dprog_short s w h
end Go.Proofs.YthfchelkfbboaaaGreatDoor.Pr
