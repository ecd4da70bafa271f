/- The statement ProgramNeeds' walk: a unit more never hurts, and units that no operation uses do not matter. Conditions: the program lies in memory, and the tables as the program lays them. -/
import Derived.Test.YtecfbnfbpamegaaDoorLu
import Derived.Deep.DeepCutAuto
namespace Go.Proofs.YtecfbnfbpamegaaDoor.Op
open Go.ChangeShapes Go.WideShapes Go.ChangeAt Go.RowKit
set_option maxRecDepth 20000
open Tb (Tab)

theorem greatB_len {ps : List Bk} (h : greatB ps = false) : ps.length ≤ 8192 := by
  unfold greatB opsN at h
  simp at h
  omega
set_option maxHeartbeats 4000000 in
theorem law_needs_out (ao : Option Addr) (cap : Nat) (ps : List Bk) (t : Tab) (c : Int) (w : World) (h : PAt w ao ps) (he : Env w) (hx : c < 0 ∨ 4 ≤ c ∨ greatB ps = true) :
    Calls Tryd.prog 5 #[.agg #[.slice ao ps.length cap], t.val, .int .i64 c] w fun e w' => e = .returned (.bool true) ∧ Below w.heap.size w w' := by
  have HG : Hid (∀ w1, Below w.heap.size w w1 → Calls Tryd.prog 6 #[.agg #[.slice ao ps.length cap]] w1 fun e w' => e = .returned (.bool (greatB ps)) ∧ Below w1.heap.size w1 w') := fun w1 hb => great_any _ _ _ _ (h.below hb)
  have HW : Hid (∀ w1, Below w.heap.size w w1 → Calls Tryd.prog 9 #[] w1 fun e w' => e = .returned (.bool true) ∧ Below w1.heap.size w1 w') := fun w1 hb => wakes_any _ (he.up hb)
  have hlen := h.len
  clear h he
  unfold Tab.val
  by_cases h1 : c < 0
  · clear hx
    go_enter Tryd.func5, Tryd.ntmps5
    go_wp2_with (first | (go_at_call 9; refine Calls.mono (HW.out _ (by go_grown)) ?_; rintro e w1 ⟨rfl, hb⟩; have HN : Hid (Nd w w1 _ t) := Nd.start hb; clear hb))
    go_ret
    exact ⟨rfl, HN.out.b⟩
  · by_cases h2 : 4 ≤ c
    · clear hx
      go_enter Tryd.func5, Tryd.ntmps5
      go_wp2_with (first | (go_at_call 9; refine Calls.mono (HW.out _ (by go_grown)) ?_; rintro e w1 ⟨rfl, hb⟩; have HN : Hid (Nd w w1 _ t) := Nd.start hb; clear hb))
      go_ret
      exact ⟨rfl, HN.out.b⟩
    · have h3 : greatB ps = true := by
        rcases hx with h | h | h
        · omega
        · omega
        · exact h
      clear hx
      rw [h3] at HG
      clear h3
      go_enter Tryd.func5, Tryd.ntmps5
      go_wp2_with (first
        | (go_at_call 6; refine Calls.mono (HG.out _ (by go_grown)) ?_; rintro e w1 ⟨rfl, hb⟩; have HN : Hid (Nd w w1 _ t) := Nd.start hb; clear hb)
        | (go_at_call 9; refine Calls.mono (HW.out _ HN.out.b) ?_; rintro e w2 ⟨rfl, hb⟩; have HN2 : Hid (Nd w w2 _ t) := HN.out.go hb; clear hb))
      go_ret
      exact ⟨rfl, HN2.out.b⟩

/-- ProgramNeeds under way: the program's box, the table's, and one more table. -/
structure Nw (w w1 : World) (q : Nat) (v : Value) (t m : Tab) : Prop where
  n : Nd w w1 v t
  m : At w1 q m.cells
theorem Nw.go {w w1 w2 : World} {q : Nat} {v : Value} {t m : Tab} (h : Nw w w1 q v t m) (hb : Below w1.heap.size w1 w2) : Nw w w2 q v t m :=
  ⟨h.n.go hb, h.m.below hb h.m.lt⟩
theorem Nw.start {w w1 : World} {v : Value} {t : Tab} (h : Nd w w1 v t) (m : Tab) (i : TypeId) : Nw w (w1.alloc (.cells m.cells i)) w1.heap.size v t m :=
  ⟨h.go ((Below.refl _ _).alloc (Nat.le_refl _) _), At.new _ _ _⟩

set_option maxHeartbeats 8000000 in
theorem law_needs_0 (ao : Option Addr) (cap : Nat) (ps : List Bk) (t : Tab) (w : World) (h : PAt w ao ps) (he : Env w) (hg : greatB ps = false) :
    Calls Tryd.prog 5 #[.agg #[.slice ao ps.length cap], t.val, .int .i64 0] w fun e w' => e = .returned (.bool true) ∧ Below w.heap.size w w' := by
  have HG : Hid (∀ w1, Below w.heap.size w w1 → Calls Tryd.prog 6 #[.agg #[.slice ao ps.length cap]] w1 fun e w' => e = .returned (.bool false) ∧ Below w1.heap.size w1 w') := fun w1 hb => by have := great_any _ cap _ _ (h.below hb); rw [hg] at this; exact this
  have HT : Hid (∀ w1, Below w.heap.size w w1 → Calls Tryd.prog 8 #[.agg #[.slice ao ps.length cap], .agg #[.int .i64 (t.u 0), .int .i64 (t.u 1), .int .i64 (t.u 2), .int .i64 (t.u 3), .int .i64 (t.l 0), .int .i64 (t.l 1), .int .i64 (t.l 2), .int .i64 (t.l 3), .int .i64 (t.b 0), .int .i64 (t.b 1), .int .i64 (t.b 2), .int .i64 (t.b 3), .int .i64 t.d]] w1 fun e w' => e = .returned (.int .i64 (ndE ps t)) ∧ Below w1.heap.size w1 w') := fun w1 hb => needs_any _ _ _ t _ (h.below hb) (he.up hb)
  have HM : Hid (ndE ps t = 0 → t.u 0 < 8 → ∀ w1, Below w.heap.size w w1 → Calls Tryd.prog 8 #[.agg #[.slice ao ps.length cap], .agg #[.int .i64 (wrap64 (t.u 0 + 1)), .int .i64 (t.u 1), .int .i64 (t.u 2), .int .i64 (t.u 3), .int .i64 (t.l 0), .int .i64 (t.l 1), .int .i64 (t.l 2), .int .i64 (t.l 3), .int .i64 (t.b 0), .int .i64 (t.b 1), .int .i64 (t.b 2), .int .i64 (t.b 3), .int .i64 t.d]] w1 fun e w' => e = .returned (.int .i64 0) ∧ Below w1.heap.size w1 w') := fun h0 h8 w1 hb => by have := needs_any _ cap _ (tput t 0 (wrap64 (t.u 0 + 1))) _ (h.below hb) (he.up hb); rw [nd_more h0 (by omega) h8] at this; exact this
  have HZ : Hid (∀ w1, Below w.heap.size w w1 → Calls Tryd.prog 8 #[.agg #[.slice ao ps.length cap], .agg #[.int .i64 0, .int .i64 (t.u 1), .int .i64 (t.u 2), .int .i64 (t.u 3), .int .i64 (t.l 0), .int .i64 (t.l 1), .int .i64 (t.l 2), .int .i64 (t.l 3), .int .i64 (t.b 0), .int .i64 (t.b 1), .int .i64 (t.b 2), .int .i64 (t.b 3), .int .i64 t.d]] w1 fun e w' => e = .returned (.int .i64 (ndE ps (tput t 0 0))) ∧ Below w1.heap.size w1 w') := fun w1 hb => needs_any _ _ _ (tput t 0 0) _ (h.below hb) (he.up hb)
  have HW : Hid (∀ w1, Below w.heap.size w w1 → Calls Tryd.prog 9 #[] w1 fun e w' => e = .returned (.bool true) ∧ Below w1.heap.size w1 w') := fun w1 hb => wakes_any _ (he.up hb)
  have HP : Hid _ := h
  have hlen := h.len
  have hle := greatB_len hg
  clear h he hg
  unfold Tab.val
  go_enter Tryd.func5, Tryd.ntmps5
  go_upto_region 5 with (first | (go_at_call 6; refine Calls.mono (HG.out _ (by go_grown)) ?_; rintro e w1 ⟨rfl, hb⟩; have HN : Hid (Nd w w1 (.slice ao ps.length cap) t) := Nd.start hb; obtain ⟨c0, c1, c2, c3, c4, c5, c6, c7, c8, c9, ca, cb, cc⟩ := HN.out.t.t13; clear hb HG))
  have HX : Hid (Nw w (w1.alloc (.cells #[.int .i64 (wrap64 (t.u 0 + 1)), .int .i64 (t.u 1), .int .i64 (t.u 2), .int .i64 (t.u 3), .int .i64 (t.l 0), .int .i64 (t.l 1), .int .i64 (t.l 2), .int .i64 (t.l 3), .int .i64 (t.b 0), .int .i64 (t.b 1), .int .i64 (t.b 2), .int .i64 (t.b 3), .int .i64 t.d] 27)) w1.heap.size (.slice ao ps.length cap) t (tput t 0 (wrap64 (t.u 0 + 1)))) := Nw.start HN.out (tput t 0 (wrap64 (t.u 0 + 1))) 27
  clear c0 c1 c2 c3 c4 c5 c6 c7 c8 c9 ca cb cc HN
  generalize w1.alloc (.cells #[.int .i64 (wrap64 (t.u 0 + 1)), .int .i64 (t.u 1), .int .i64 (t.u 2), .int .i64 (t.u 3), .int .i64 (t.l 0), .int .i64 (t.l 1), .int .i64 (t.l 2), .int .i64 (t.l 3), .int .i64 (t.b 0), .int .i64 (t.b 1), .int .i64 (t.b 2), .int .i64 (t.b 3), .int .i64 t.d] 27) = V at *
  have cp := HX.out.n.p.c 0 _ rfl
  obtain ⟨c0, c1, c2, c3, c4, c5, c6, c7, c8, c9, ca, cb, cc⟩ := HX.out.n.t.t13
  generalize w1.heap.size = q at *
  go_cut [48] (fun s wc => s = .bool false ∧ Nd w wc (.slice ao ps.length cap) t)
  case first =>
    by_cases h0 : ndE ps t = 0
    · rw [h0] at HT
      by_cases h8 : t.u 0 < 8
      · have HM' : Hid _ := HM.out h0 h8
        clear h0 HM
        go_wp2_with (first
          | (go_at_call 8; refine Calls.mono (HT.out _ HX.out.n.b) ?_; rintro e w2 ⟨rfl, hb⟩; have HX2 : Hid (Nw w w2 q (.slice ao ps.length cap) t _) := HX.out.go hb; clear hb HX HT cp c0 c1 c2 c3 c4 c5 c6 c7 c8 c9 ca cb cc; have cp := HX2.out.n.p.c 0 _ rfl; obtain ⟨c0, c1, c2, c3, c4, c5, c6, c7, c8, c9, ca, cb, cc⟩ := HX2.out.n.t.t13; obtain ⟨m0, m1, m2, m3, m4, m5, m6, m7, m8, m9, ma, mb, mc⟩ := HX2.out.m.t13)
          | (go_at_call 8; refine Calls.mono (HM'.out _ HX2.out.n.b) ?_; rintro e w3 ⟨rfl, hb⟩; have HX3 : Hid (Nw w w3 q (.slice ao ps.length cap) t _) := HX2.out.go hb; clear hb HX2))
        go_meet
        exact ⟨rfl, HX3.out.n⟩
      · clear h0 HM
        go_wp2_with (first
          | (go_at_call 8; refine Calls.mono (HT.out _ HX.out.n.b) ?_; rintro e w2 ⟨rfl, hb⟩; have HX2 : Hid (Nw w w2 q (.slice ao ps.length cap) t _) := HX.out.go hb; clear hb HX HT cp c0 c1 c2 c3 c4 c5 c6 c7 c8 c9 ca cb cc; have cp := HX2.out.n.p.c 0 _ rfl; obtain ⟨c0, c1, c2, c3, c4, c5, c6, c7, c8, c9, ca, cb, cc⟩ := HX2.out.n.t.t13))
        go_meet
        exact ⟨rfl, HX2.out.n⟩
    · have h0' : (ndE ps t == 0) = false := by simp [h0]
      go_wp2_with (first
        | (go_at_call 8; refine Calls.mono (HT.out _ HX.out.n.b) ?_; rintro e w2 ⟨rfl, hb⟩; have HX2 : Hid (Nw w w2 q (.slice ao ps.length cap) t _) := HX.out.go hb; clear hb HX HT cp c0 c1 c2 c3 c4 c5 c6 c7 c8 c9 ca cb cc))
      go_meet
      exact ⟨rfl, HX2.out.n⟩
  case rest =>
    obtain ⟨rfl, hnd⟩ := hcut
    clear cp c0 c1 c2 c3 c4 c5 c6 c7 c8 c9 ca cb cc HX HM
    have HD : Hid _ := hnd
    obtain ⟨c0, c1, c2, c3, c4, c5, c6, c7, c8, c9, ca, cb, cc⟩ := HD.out.t.t13
    clear hnd
    go_upto_region 9 with fail
    have HX : Hid (Nw w (wc.alloc (.cells #[.int .i64 0, .int .i64 (t.u 1), .int .i64 (t.u 2), .int .i64 (t.u 3), .int .i64 (t.l 0), .int .i64 (t.l 1), .int .i64 (t.l 2), .int .i64 (t.l 3), .int .i64 (t.b 0), .int .i64 (t.b 1), .int .i64 (t.b 2), .int .i64 (t.b 3), .int .i64 t.d] 27)) wc.heap.size (.slice ao ps.length cap) t (tput t 0 0)) := Nw.start HD.out (tput t 0 0) 27
    clear c0 c1 c2 c3 c4 c5 c6 c7 c8 c9 ca cb cc HD
    generalize wc.alloc (.cells #[.int .i64 0, .int .i64 (t.u 1), .int .i64 (t.u 2), .int .i64 (t.u 3), .int .i64 (t.l 0), .int .i64 (t.l 1), .int .i64 (t.l 2), .int .i64 (t.l 3), .int .i64 (t.b 0), .int .i64 (t.b 1), .int .i64 (t.b 2), .int .i64 (t.b 3), .int .i64 t.d] 27) = V2 at *
    generalize wc.heap.size = q2 at *
    go_wp2
    go_loopw [10, 9] (fun i s wr => ∃ k : Nat, k ≤ ps.length ∧ i = .int .i64 k ∧ s = .bool (false || (ps.take k).any (useK 0)) ∧ Nw w wr q2 (.slice ao ps.length cap) t (tput t 0 0)) (fun i _ _ => ps.length - (intOf i).toNat)
    case atStart => exact ⟨0, by omega, rfl, rfl, HX.out⟩
    case round =>
      rename World => wr
      obtain ⟨k, hk, rfl, rfl, hnw⟩ := hrel
      have HU : Hid _ := hnw
      have cp := hnw.n.p.c 0 _ rfl
      clear hnw HX
      by_cases hlt : k < ps.length
      · obtain ⟨b, f, rfl, hz, hx⟩ := HP.out.is (by omega)
        obtain ⟨p, h1, h2⟩ := hx k hlt
        obtain ⟨c0, c1, c2, c3, c4, c5⟩ := h1.below HU.out.n.b hz
        have HO : Hid (∀ w1, Below w.heap.size w w1 → Calls Tryd.prog 16 #[.slice p.oa ps[k].ops.length p.oc, .int .i64 0] w1 fun e w' => e = .returned (.bool (usesB ps[k].ops 0)) ∧ w' = w1) := fun w1 hb => uses_any _ _ _ _ _ (h2.o.below hb)
        have HB : Hid (∀ w1, Below w.heap.size w w1 → Calls Tryd.prog 16 #[.slice p.ba ps[k].body.length p.bc, .int .i64 0] w1 fun e w' => e = .returned (.bool (usesB ps[k].body 0)) ∧ w' = w1) := fun w1 hb => uses_any _ _ _ _ _ (h2.b.below hb)
        have HS0 : (ps.take (k + 1)).any (useK 0) = ((ps.take k).any (useK 0) || (usesB ps[k].ops 0 || usesB ps[k].body 0)) := by rw [List.take_succ_eq_append_getElem hlt, List.any_append]; simp only [List.any_cons, List.any_nil, Bool.or_false]; rfl
        have HS : Hid _ := HS0
        clear HS0 hx h1 h2 HP HT HZ HW
        generalize (ps.take k).any (useK 0) = s0 at *
        generalize usesB ps[k].ops 0 = s1 at *
        generalize usesB ps[k].body 0 = s2 at *
        cases s0
        · cases s1
          · cases s2
            all_goals
              go_wp2_with (first
                | (go_at_call 16; refine Calls.mono (HO.out _ HU.out.n.b) ?_; rintro e _ ⟨rfl, rfl⟩; clear HO)
                | (go_at_call 16; refine Calls.mono (HB.out _ HU.out.n.b) ?_; rintro e _ ⟨rfl, rfl⟩; clear HB))
              go_roundw
              case rel => exact ⟨k + 1, by omega, by go_num, by rw [HS.out]; rfl, HU.out⟩
              case measure => simp [intOf]; omega
          · go_wp2_with (first
              | (go_at_call 16; refine Calls.mono (HO.out _ HU.out.n.b) ?_; rintro e _ ⟨rfl, rfl⟩; clear HO))
            go_roundw
            case rel => exact ⟨k + 1, by omega, by go_num, by rw [HS.out]; rfl, HU.out⟩
            case measure => simp [intOf]; omega
        · go_wp2
          go_roundw
          case rel => exact ⟨k + 1, by omega, by go_num, by rw [HS.out]; rfl, HU.out⟩
          case measure => simp [intOf]; omega
      · obtain rfl : k = ps.length := by omega
        rw [List.take_length]
        obtain ⟨c0, c1, c2, c3, c4, c5, c6, c7, c8, c9, ca, cb, cc⟩ := HU.out.n.t.t13
        by_cases h0 : ndE ps t = 0
        · rw [nd_less h0 (by omega)] at HZ
          have hul : useL ps 0 = (false || ps.any (useK 0)) := useL_ok (ndE_parts h0).1 0
          rw [hul] at HZ
          rw [h0] at HT
          clear hul h0 HP
          generalize (false || ps.any (useK 0)) = s0 at *
          cases s0
          all_goals
            go_wp2_with (first
              | (go_at_call 8; refine Calls.mono (HT.out _ HU.out.n.b) ?_; rintro e w2 ⟨rfl, hb⟩; have HX2 : Hid (Nw w w2 q2 (.slice ao ps.length cap) t _) := HU.out.go hb; clear hb HU HT cp c0 c1 c2 c3 c4 c5 c6 c7 c8 c9 ca cb cc; have cp := HX2.out.n.p.c 0 _ rfl; obtain ⟨m0, m1, m2, m3, m4, m5, m6, m7, m8, m9, ma, mb, mc⟩ := HX2.out.m.t13)
              | (go_at_call 8; refine Calls.mono (HZ.out _ HX2.out.n.b) ?_; rintro e w3 ⟨rfl, hb⟩; have HX3 : Hid (Nw w w3 q2 (.slice ao ps.length cap) t _) := HX2.out.go hb; clear hb HX2)
              | (go_at_call 9; refine Calls.mono (HW.out _ HX3.out.n.b) ?_; rintro e w4 ⟨rfl, hb⟩; have HX4 : Hid (Nw w w4 q2 (.slice ao ps.length cap) t _) := HX3.out.go hb; clear hb HX3))
            go_ret
            exact ⟨rfl, HX4.out.n.b⟩
        · have h0' : (ndE ps t != 0) = true := by simp [h0]
          clear HP
          generalize (false || ps.any (useK 0)) = s0 at *
          go_wp2_with (first
            | (go_at_call 8; refine Calls.mono (HT.out _ HU.out.n.b) ?_; rintro e w2 ⟨rfl, hb⟩; have HX2 : Hid (Nw w w2 q2 (.slice ao ps.length cap) t _) := HU.out.go hb; clear hb HU HT cp c0 c1 c2 c3 c4 c5 c6 c7 c8 c9 ca cb cc; have cp := HX2.out.n.p.c 0 _ rfl; obtain ⟨m0, m1, m2, m3, m4, m5, m6, m7, m8, m9, ma, mb, mc⟩ := HX2.out.m.t13)
            | (go_at_call 8; refine Calls.mono (HZ.out _ HX2.out.n.b) ?_; rintro e w3 ⟨rfl, hb⟩; have HX3 : Hid (Nw w w3 q2 (.slice ao ps.length cap) t _) := HX2.out.go hb; clear hb HX2)
            | (go_at_call 9; refine Calls.mono (HW.out _ HX3.out.n.b) ?_; rintro e w4 ⟨rfl, hb⟩; have HX4 : Hid (Nw w w4 q2 (.slice ao ps.length cap) t _) := HX3.out.go hb; clear hb HX3))
          go_ret
          exact ⟨rfl, HX4.out.n.b⟩

set_option maxHeartbeats 8000000 in
theorem law_needs_1 (ao : Option Addr) (cap : Nat) (ps : List Bk) (t : Tab) (w : World) (h : PAt w ao ps) (he : Env w) (hg : greatB ps = false) :
    Calls Tryd.prog 5 #[.agg #[.slice ao ps.length cap], t.val, .int .i64 1] w fun e w' => e = .returned (.bool true) ∧ Below w.heap.size w w' := by
  have HG : Hid (∀ w1, Below w.heap.size w w1 → Calls Tryd.prog 6 #[.agg #[.slice ao ps.length cap]] w1 fun e w' => e = .returned (.bool false) ∧ Below w1.heap.size w1 w') := fun w1 hb => by have := great_any _ cap _ _ (h.below hb); rw [hg] at this; exact this
  have HT : Hid (∀ w1, Below w.heap.size w w1 → Calls Tryd.prog 8 #[.agg #[.slice ao ps.length cap], .agg #[.int .i64 (t.u 0), .int .i64 (t.u 1), .int .i64 (t.u 2), .int .i64 (t.u 3), .int .i64 (t.l 0), .int .i64 (t.l 1), .int .i64 (t.l 2), .int .i64 (t.l 3), .int .i64 (t.b 0), .int .i64 (t.b 1), .int .i64 (t.b 2), .int .i64 (t.b 3), .int .i64 t.d]] w1 fun e w' => e = .returned (.int .i64 (ndE ps t)) ∧ Below w1.heap.size w1 w') := fun w1 hb => needs_any _ _ _ t _ (h.below hb) (he.up hb)
  have HM : Hid (ndE ps t = 0 → t.u 1 < 8 → ∀ w1, Below w.heap.size w w1 → Calls Tryd.prog 8 #[.agg #[.slice ao ps.length cap], .agg #[.int .i64 (t.u 0), .int .i64 (wrap64 (t.u 1 + 1)), .int .i64 (t.u 2), .int .i64 (t.u 3), .int .i64 (t.l 0), .int .i64 (t.l 1), .int .i64 (t.l 2), .int .i64 (t.l 3), .int .i64 (t.b 0), .int .i64 (t.b 1), .int .i64 (t.b 2), .int .i64 (t.b 3), .int .i64 t.d]] w1 fun e w' => e = .returned (.int .i64 0) ∧ Below w1.heap.size w1 w') := fun h0 h8 w1 hb => by have := needs_any _ cap _ (tput t 1 (wrap64 (t.u 1 + 1))) _ (h.below hb) (he.up hb); rw [nd_more h0 (by omega) h8] at this; exact this
  have HZ : Hid (∀ w1, Below w.heap.size w w1 → Calls Tryd.prog 8 #[.agg #[.slice ao ps.length cap], .agg #[.int .i64 (t.u 0), .int .i64 0, .int .i64 (t.u 2), .int .i64 (t.u 3), .int .i64 (t.l 0), .int .i64 (t.l 1), .int .i64 (t.l 2), .int .i64 (t.l 3), .int .i64 (t.b 0), .int .i64 (t.b 1), .int .i64 (t.b 2), .int .i64 (t.b 3), .int .i64 t.d]] w1 fun e w' => e = .returned (.int .i64 (ndE ps (tput t 1 0))) ∧ Below w1.heap.size w1 w') := fun w1 hb => needs_any _ _ _ (tput t 1 0) _ (h.below hb) (he.up hb)
  have HW : Hid (∀ w1, Below w.heap.size w w1 → Calls Tryd.prog 9 #[] w1 fun e w' => e = .returned (.bool true) ∧ Below w1.heap.size w1 w') := fun w1 hb => wakes_any _ (he.up hb)
  have HP : Hid _ := h
  have hlen := h.len
  have hle := greatB_len hg
  clear h he hg
  unfold Tab.val
  go_enter Tryd.func5, Tryd.ntmps5
  go_upto_region 5 with (first | (go_at_call 6; refine Calls.mono (HG.out _ (by go_grown)) ?_; rintro e w1 ⟨rfl, hb⟩; have HN : Hid (Nd w w1 (.slice ao ps.length cap) t) := Nd.start hb; obtain ⟨c0, c1, c2, c3, c4, c5, c6, c7, c8, c9, ca, cb, cc⟩ := HN.out.t.t13; clear hb HG))
  have HX : Hid (Nw w (w1.alloc (.cells #[.int .i64 (t.u 0), .int .i64 (wrap64 (t.u 1 + 1)), .int .i64 (t.u 2), .int .i64 (t.u 3), .int .i64 (t.l 0), .int .i64 (t.l 1), .int .i64 (t.l 2), .int .i64 (t.l 3), .int .i64 (t.b 0), .int .i64 (t.b 1), .int .i64 (t.b 2), .int .i64 (t.b 3), .int .i64 t.d] 27)) w1.heap.size (.slice ao ps.length cap) t (tput t 1 (wrap64 (t.u 1 + 1)))) := Nw.start HN.out (tput t 1 (wrap64 (t.u 1 + 1))) 27
  clear c0 c1 c2 c3 c4 c5 c6 c7 c8 c9 ca cb cc HN
  generalize w1.alloc (.cells #[.int .i64 (t.u 0), .int .i64 (wrap64 (t.u 1 + 1)), .int .i64 (t.u 2), .int .i64 (t.u 3), .int .i64 (t.l 0), .int .i64 (t.l 1), .int .i64 (t.l 2), .int .i64 (t.l 3), .int .i64 (t.b 0), .int .i64 (t.b 1), .int .i64 (t.b 2), .int .i64 (t.b 3), .int .i64 t.d] 27) = V at *
  have cp := HX.out.n.p.c 0 _ rfl
  obtain ⟨c0, c1, c2, c3, c4, c5, c6, c7, c8, c9, ca, cb, cc⟩ := HX.out.n.t.t13
  generalize w1.heap.size = q at *
  go_cut [48] (fun s wc => s = .bool false ∧ Nd w wc (.slice ao ps.length cap) t)
  case first =>
    by_cases h0 : ndE ps t = 0
    · rw [h0] at HT
      by_cases h8 : t.u 1 < 8
      · have HM' : Hid _ := HM.out h0 h8
        clear h0 HM
        go_wp2_with (first
          | (go_at_call 8; refine Calls.mono (HT.out _ HX.out.n.b) ?_; rintro e w2 ⟨rfl, hb⟩; have HX2 : Hid (Nw w w2 q (.slice ao ps.length cap) t _) := HX.out.go hb; clear hb HX HT cp c0 c1 c2 c3 c4 c5 c6 c7 c8 c9 ca cb cc; have cp := HX2.out.n.p.c 0 _ rfl; obtain ⟨c0, c1, c2, c3, c4, c5, c6, c7, c8, c9, ca, cb, cc⟩ := HX2.out.n.t.t13; obtain ⟨m0, m1, m2, m3, m4, m5, m6, m7, m8, m9, ma, mb, mc⟩ := HX2.out.m.t13)
          | (go_at_call 8; refine Calls.mono (HM'.out _ HX2.out.n.b) ?_; rintro e w3 ⟨rfl, hb⟩; have HX3 : Hid (Nw w w3 q (.slice ao ps.length cap) t _) := HX2.out.go hb; clear hb HX2))
        go_meet
        exact ⟨rfl, HX3.out.n⟩
      · clear h0 HM
        go_wp2_with (first
          | (go_at_call 8; refine Calls.mono (HT.out _ HX.out.n.b) ?_; rintro e w2 ⟨rfl, hb⟩; have HX2 : Hid (Nw w w2 q (.slice ao ps.length cap) t _) := HX.out.go hb; clear hb HX HT cp c0 c1 c2 c3 c4 c5 c6 c7 c8 c9 ca cb cc; have cp := HX2.out.n.p.c 0 _ rfl; obtain ⟨c0, c1, c2, c3, c4, c5, c6, c7, c8, c9, ca, cb, cc⟩ := HX2.out.n.t.t13))
        go_meet
        exact ⟨rfl, HX2.out.n⟩
    · have h0' : (ndE ps t == 0) = false := by simp [h0]
      go_wp2_with (first
        | (go_at_call 8; refine Calls.mono (HT.out _ HX.out.n.b) ?_; rintro e w2 ⟨rfl, hb⟩; have HX2 : Hid (Nw w w2 q (.slice ao ps.length cap) t _) := HX.out.go hb; clear hb HX HT cp c0 c1 c2 c3 c4 c5 c6 c7 c8 c9 ca cb cc))
      go_meet
      exact ⟨rfl, HX2.out.n⟩
  case rest =>
    obtain ⟨rfl, hnd⟩ := hcut
    clear cp c0 c1 c2 c3 c4 c5 c6 c7 c8 c9 ca cb cc HX HM
    have HD : Hid _ := hnd
    obtain ⟨c0, c1, c2, c3, c4, c5, c6, c7, c8, c9, ca, cb, cc⟩ := HD.out.t.t13
    clear hnd
    go_upto_region 9 with fail
    have HX : Hid (Nw w (wc.alloc (.cells #[.int .i64 (t.u 0), .int .i64 0, .int .i64 (t.u 2), .int .i64 (t.u 3), .int .i64 (t.l 0), .int .i64 (t.l 1), .int .i64 (t.l 2), .int .i64 (t.l 3), .int .i64 (t.b 0), .int .i64 (t.b 1), .int .i64 (t.b 2), .int .i64 (t.b 3), .int .i64 t.d] 27)) wc.heap.size (.slice ao ps.length cap) t (tput t 1 0)) := Nw.start HD.out (tput t 1 0) 27
    clear c0 c1 c2 c3 c4 c5 c6 c7 c8 c9 ca cb cc HD
    generalize wc.alloc (.cells #[.int .i64 (t.u 0), .int .i64 0, .int .i64 (t.u 2), .int .i64 (t.u 3), .int .i64 (t.l 0), .int .i64 (t.l 1), .int .i64 (t.l 2), .int .i64 (t.l 3), .int .i64 (t.b 0), .int .i64 (t.b 1), .int .i64 (t.b 2), .int .i64 (t.b 3), .int .i64 t.d] 27) = V2 at *
    generalize wc.heap.size = q2 at *
    go_wp2
    go_loopw [10, 9] (fun i s wr => ∃ k : Nat, k ≤ ps.length ∧ i = .int .i64 k ∧ s = .bool (false || (ps.take k).any (useK 1)) ∧ Nw w wr q2 (.slice ao ps.length cap) t (tput t 1 0)) (fun i _ _ => ps.length - (intOf i).toNat)
    case atStart => exact ⟨0, by omega, rfl, rfl, HX.out⟩
    case round =>
      rename World => wr
      obtain ⟨k, hk, rfl, rfl, hnw⟩ := hrel
      have HU : Hid _ := hnw
      have cp := hnw.n.p.c 0 _ rfl
      clear hnw HX
      by_cases hlt : k < ps.length
      · obtain ⟨b, f, rfl, hz, hx⟩ := HP.out.is (by omega)
        obtain ⟨p, h1, h2⟩ := hx k hlt
        obtain ⟨c0, c1, c2, c3, c4, c5⟩ := h1.below HU.out.n.b hz
        have HO : Hid (∀ w1, Below w.heap.size w w1 → Calls Tryd.prog 16 #[.slice p.oa ps[k].ops.length p.oc, .int .i64 1] w1 fun e w' => e = .returned (.bool (usesB ps[k].ops 1)) ∧ w' = w1) := fun w1 hb => uses_any _ _ _ _ _ (h2.o.below hb)
        have HB : Hid (∀ w1, Below w.heap.size w w1 → Calls Tryd.prog 16 #[.slice p.ba ps[k].body.length p.bc, .int .i64 1] w1 fun e w' => e = .returned (.bool (usesB ps[k].body 1)) ∧ w' = w1) := fun w1 hb => uses_any _ _ _ _ _ (h2.b.below hb)
        have HS0 : (ps.take (k + 1)).any (useK 1) = ((ps.take k).any (useK 1) || (usesB ps[k].ops 1 || usesB ps[k].body 1)) := by rw [List.take_succ_eq_append_getElem hlt, List.any_append]; simp only [List.any_cons, List.any_nil, Bool.or_false]; rfl
        have HS : Hid _ := HS0
        clear HS0 hx h1 h2 HP HT HZ HW
        generalize (ps.take k).any (useK 1) = s0 at *
        generalize usesB ps[k].ops 1 = s1 at *
        generalize usesB ps[k].body 1 = s2 at *
        cases s0
        · cases s1
          · cases s2
            all_goals
              go_wp2_with (first
                | (go_at_call 16; refine Calls.mono (HO.out _ HU.out.n.b) ?_; rintro e _ ⟨rfl, rfl⟩; clear HO)
                | (go_at_call 16; refine Calls.mono (HB.out _ HU.out.n.b) ?_; rintro e _ ⟨rfl, rfl⟩; clear HB))
              go_roundw
              case rel => exact ⟨k + 1, by omega, by go_num, by rw [HS.out]; rfl, HU.out⟩
              case measure => simp [intOf]; omega
          · go_wp2_with (first
              | (go_at_call 16; refine Calls.mono (HO.out _ HU.out.n.b) ?_; rintro e _ ⟨rfl, rfl⟩; clear HO))
            go_roundw
            case rel => exact ⟨k + 1, by omega, by go_num, by rw [HS.out]; rfl, HU.out⟩
            case measure => simp [intOf]; omega
        · go_wp2
          go_roundw
          case rel => exact ⟨k + 1, by omega, by go_num, by rw [HS.out]; rfl, HU.out⟩
          case measure => simp [intOf]; omega
      · obtain rfl : k = ps.length := by omega
        rw [List.take_length]
        obtain ⟨c0, c1, c2, c3, c4, c5, c6, c7, c8, c9, ca, cb, cc⟩ := HU.out.n.t.t13
        by_cases h0 : ndE ps t = 0
        · rw [nd_less h0 (by omega)] at HZ
          have hul : useL ps 1 = (false || ps.any (useK 1)) := useL_ok (ndE_parts h0).1 1
          rw [hul] at HZ
          rw [h0] at HT
          clear hul h0 HP
          generalize (false || ps.any (useK 1)) = s0 at *
          cases s0
          all_goals
            go_wp2_with (first
              | (go_at_call 8; refine Calls.mono (HT.out _ HU.out.n.b) ?_; rintro e w2 ⟨rfl, hb⟩; have HX2 : Hid (Nw w w2 q2 (.slice ao ps.length cap) t _) := HU.out.go hb; clear hb HU HT cp c0 c1 c2 c3 c4 c5 c6 c7 c8 c9 ca cb cc; have cp := HX2.out.n.p.c 0 _ rfl; obtain ⟨m0, m1, m2, m3, m4, m5, m6, m7, m8, m9, ma, mb, mc⟩ := HX2.out.m.t13)
              | (go_at_call 8; refine Calls.mono (HZ.out _ HX2.out.n.b) ?_; rintro e w3 ⟨rfl, hb⟩; have HX3 : Hid (Nw w w3 q2 (.slice ao ps.length cap) t _) := HX2.out.go hb; clear hb HX2)
              | (go_at_call 9; refine Calls.mono (HW.out _ HX3.out.n.b) ?_; rintro e w4 ⟨rfl, hb⟩; have HX4 : Hid (Nw w w4 q2 (.slice ao ps.length cap) t _) := HX3.out.go hb; clear hb HX3))
            go_ret
            exact ⟨rfl, HX4.out.n.b⟩
        · have h0' : (ndE ps t != 0) = true := by simp [h0]
          clear HP
          generalize (false || ps.any (useK 1)) = s0 at *
          go_wp2_with (first
            | (go_at_call 8; refine Calls.mono (HT.out _ HU.out.n.b) ?_; rintro e w2 ⟨rfl, hb⟩; have HX2 : Hid (Nw w w2 q2 (.slice ao ps.length cap) t _) := HU.out.go hb; clear hb HU HT cp c0 c1 c2 c3 c4 c5 c6 c7 c8 c9 ca cb cc; have cp := HX2.out.n.p.c 0 _ rfl; obtain ⟨m0, m1, m2, m3, m4, m5, m6, m7, m8, m9, ma, mb, mc⟩ := HX2.out.m.t13)
            | (go_at_call 8; refine Calls.mono (HZ.out _ HX2.out.n.b) ?_; rintro e w3 ⟨rfl, hb⟩; have HX3 : Hid (Nw w w3 q2 (.slice ao ps.length cap) t _) := HX2.out.go hb; clear hb HX2)
            | (go_at_call 9; refine Calls.mono (HW.out _ HX3.out.n.b) ?_; rintro e w4 ⟨rfl, hb⟩; have HX4 : Hid (Nw w w4 q2 (.slice ao ps.length cap) t _) := HX3.out.go hb; clear hb HX3))
          go_ret
          exact ⟨rfl, HX4.out.n.b⟩

set_option maxHeartbeats 8000000 in
theorem law_needs_2 (ao : Option Addr) (cap : Nat) (ps : List Bk) (t : Tab) (w : World) (h : PAt w ao ps) (he : Env w) (hg : greatB ps = false) :
    Calls Tryd.prog 5 #[.agg #[.slice ao ps.length cap], t.val, .int .i64 2] w fun e w' => e = .returned (.bool true) ∧ Below w.heap.size w w' := by
  have HG : Hid (∀ w1, Below w.heap.size w w1 → Calls Tryd.prog 6 #[.agg #[.slice ao ps.length cap]] w1 fun e w' => e = .returned (.bool false) ∧ Below w1.heap.size w1 w') := fun w1 hb => by have := great_any _ cap _ _ (h.below hb); rw [hg] at this; exact this
  have HT : Hid (∀ w1, Below w.heap.size w w1 → Calls Tryd.prog 8 #[.agg #[.slice ao ps.length cap], .agg #[.int .i64 (t.u 0), .int .i64 (t.u 1), .int .i64 (t.u 2), .int .i64 (t.u 3), .int .i64 (t.l 0), .int .i64 (t.l 1), .int .i64 (t.l 2), .int .i64 (t.l 3), .int .i64 (t.b 0), .int .i64 (t.b 1), .int .i64 (t.b 2), .int .i64 (t.b 3), .int .i64 t.d]] w1 fun e w' => e = .returned (.int .i64 (ndE ps t)) ∧ Below w1.heap.size w1 w') := fun w1 hb => needs_any _ _ _ t _ (h.below hb) (he.up hb)
  have HM : Hid (ndE ps t = 0 → t.u 2 < 8 → ∀ w1, Below w.heap.size w w1 → Calls Tryd.prog 8 #[.agg #[.slice ao ps.length cap], .agg #[.int .i64 (t.u 0), .int .i64 (t.u 1), .int .i64 (wrap64 (t.u 2 + 1)), .int .i64 (t.u 3), .int .i64 (t.l 0), .int .i64 (t.l 1), .int .i64 (t.l 2), .int .i64 (t.l 3), .int .i64 (t.b 0), .int .i64 (t.b 1), .int .i64 (t.b 2), .int .i64 (t.b 3), .int .i64 t.d]] w1 fun e w' => e = .returned (.int .i64 0) ∧ Below w1.heap.size w1 w') := fun h0 h8 w1 hb => by have := needs_any _ cap _ (tput t 2 (wrap64 (t.u 2 + 1))) _ (h.below hb) (he.up hb); rw [nd_more h0 (by omega) h8] at this; exact this
  have HZ : Hid (∀ w1, Below w.heap.size w w1 → Calls Tryd.prog 8 #[.agg #[.slice ao ps.length cap], .agg #[.int .i64 (t.u 0), .int .i64 (t.u 1), .int .i64 0, .int .i64 (t.u 3), .int .i64 (t.l 0), .int .i64 (t.l 1), .int .i64 (t.l 2), .int .i64 (t.l 3), .int .i64 (t.b 0), .int .i64 (t.b 1), .int .i64 (t.b 2), .int .i64 (t.b 3), .int .i64 t.d]] w1 fun e w' => e = .returned (.int .i64 (ndE ps (tput t 2 0))) ∧ Below w1.heap.size w1 w') := fun w1 hb => needs_any _ _ _ (tput t 2 0) _ (h.below hb) (he.up hb)
  have HW : Hid (∀ w1, Below w.heap.size w w1 → Calls Tryd.prog 9 #[] w1 fun e w' => e = .returned (.bool true) ∧ Below w1.heap.size w1 w') := fun w1 hb => wakes_any _ (he.up hb)
  have HP : Hid _ := h
  have hlen := h.len
  have hle := greatB_len hg
  clear h he hg
  unfold Tab.val
  go_enter Tryd.func5, Tryd.ntmps5
  go_upto_region 5 with (first | (go_at_call 6; refine Calls.mono (HG.out _ (by go_grown)) ?_; rintro e w1 ⟨rfl, hb⟩; have HN : Hid (Nd w w1 (.slice ao ps.length cap) t) := Nd.start hb; obtain ⟨c0, c1, c2, c3, c4, c5, c6, c7, c8, c9, ca, cb, cc⟩ := HN.out.t.t13; clear hb HG))
  have HX : Hid (Nw w (w1.alloc (.cells #[.int .i64 (t.u 0), .int .i64 (t.u 1), .int .i64 (wrap64 (t.u 2 + 1)), .int .i64 (t.u 3), .int .i64 (t.l 0), .int .i64 (t.l 1), .int .i64 (t.l 2), .int .i64 (t.l 3), .int .i64 (t.b 0), .int .i64 (t.b 1), .int .i64 (t.b 2), .int .i64 (t.b 3), .int .i64 t.d] 27)) w1.heap.size (.slice ao ps.length cap) t (tput t 2 (wrap64 (t.u 2 + 1)))) := Nw.start HN.out (tput t 2 (wrap64 (t.u 2 + 1))) 27
  clear c0 c1 c2 c3 c4 c5 c6 c7 c8 c9 ca cb cc HN
  generalize w1.alloc (.cells #[.int .i64 (t.u 0), .int .i64 (t.u 1), .int .i64 (wrap64 (t.u 2 + 1)), .int .i64 (t.u 3), .int .i64 (t.l 0), .int .i64 (t.l 1), .int .i64 (t.l 2), .int .i64 (t.l 3), .int .i64 (t.b 0), .int .i64 (t.b 1), .int .i64 (t.b 2), .int .i64 (t.b 3), .int .i64 t.d] 27) = V at *
  have cp := HX.out.n.p.c 0 _ rfl
  obtain ⟨c0, c1, c2, c3, c4, c5, c6, c7, c8, c9, ca, cb, cc⟩ := HX.out.n.t.t13
  generalize w1.heap.size = q at *
  go_cut [48] (fun s wc => s = .bool false ∧ Nd w wc (.slice ao ps.length cap) t)
  case first =>
    by_cases h0 : ndE ps t = 0
    · rw [h0] at HT
      by_cases h8 : t.u 2 < 8
      · have HM' : Hid _ := HM.out h0 h8
        clear h0 HM
        go_wp2_with (first
          | (go_at_call 8; refine Calls.mono (HT.out _ HX.out.n.b) ?_; rintro e w2 ⟨rfl, hb⟩; have HX2 : Hid (Nw w w2 q (.slice ao ps.length cap) t _) := HX.out.go hb; clear hb HX HT cp c0 c1 c2 c3 c4 c5 c6 c7 c8 c9 ca cb cc; have cp := HX2.out.n.p.c 0 _ rfl; obtain ⟨c0, c1, c2, c3, c4, c5, c6, c7, c8, c9, ca, cb, cc⟩ := HX2.out.n.t.t13; obtain ⟨m0, m1, m2, m3, m4, m5, m6, m7, m8, m9, ma, mb, mc⟩ := HX2.out.m.t13)
          | (go_at_call 8; refine Calls.mono (HM'.out _ HX2.out.n.b) ?_; rintro e w3 ⟨rfl, hb⟩; have HX3 : Hid (Nw w w3 q (.slice ao ps.length cap) t _) := HX2.out.go hb; clear hb HX2))
        go_meet
        exact ⟨rfl, HX3.out.n⟩
      · clear h0 HM
        go_wp2_with (first
          | (go_at_call 8; refine Calls.mono (HT.out _ HX.out.n.b) ?_; rintro e w2 ⟨rfl, hb⟩; have HX2 : Hid (Nw w w2 q (.slice ao ps.length cap) t _) := HX.out.go hb; clear hb HX HT cp c0 c1 c2 c3 c4 c5 c6 c7 c8 c9 ca cb cc; have cp := HX2.out.n.p.c 0 _ rfl; obtain ⟨c0, c1, c2, c3, c4, c5, c6, c7, c8, c9, ca, cb, cc⟩ := HX2.out.n.t.t13))
        go_meet
        exact ⟨rfl, HX2.out.n⟩
    · have h0' : (ndE ps t == 0) = false := by simp [h0]
      go_wp2_with (first
        | (go_at_call 8; refine Calls.mono (HT.out _ HX.out.n.b) ?_; rintro e w2 ⟨rfl, hb⟩; have HX2 : Hid (Nw w w2 q (.slice ao ps.length cap) t _) := HX.out.go hb; clear hb HX HT cp c0 c1 c2 c3 c4 c5 c6 c7 c8 c9 ca cb cc))
      go_meet
      exact ⟨rfl, HX2.out.n⟩
  case rest =>
    obtain ⟨rfl, hnd⟩ := hcut
    clear cp c0 c1 c2 c3 c4 c5 c6 c7 c8 c9 ca cb cc HX HM
    have HD : Hid _ := hnd
    obtain ⟨c0, c1, c2, c3, c4, c5, c6, c7, c8, c9, ca, cb, cc⟩ := HD.out.t.t13
    clear hnd
    go_upto_region 9 with fail
    have HX : Hid (Nw w (wc.alloc (.cells #[.int .i64 (t.u 0), .int .i64 (t.u 1), .int .i64 0, .int .i64 (t.u 3), .int .i64 (t.l 0), .int .i64 (t.l 1), .int .i64 (t.l 2), .int .i64 (t.l 3), .int .i64 (t.b 0), .int .i64 (t.b 1), .int .i64 (t.b 2), .int .i64 (t.b 3), .int .i64 t.d] 27)) wc.heap.size (.slice ao ps.length cap) t (tput t 2 0)) := Nw.start HD.out (tput t 2 0) 27
    clear c0 c1 c2 c3 c4 c5 c6 c7 c8 c9 ca cb cc HD
    generalize wc.alloc (.cells #[.int .i64 (t.u 0), .int .i64 (t.u 1), .int .i64 0, .int .i64 (t.u 3), .int .i64 (t.l 0), .int .i64 (t.l 1), .int .i64 (t.l 2), .int .i64 (t.l 3), .int .i64 (t.b 0), .int .i64 (t.b 1), .int .i64 (t.b 2), .int .i64 (t.b 3), .int .i64 t.d] 27) = V2 at *
    generalize wc.heap.size = q2 at *
    go_wp2
    go_loopw [10, 9] (fun i s wr => ∃ k : Nat, k ≤ ps.length ∧ i = .int .i64 k ∧ s = .bool (false || (ps.take k).any (useK 2)) ∧ Nw w wr q2 (.slice ao ps.length cap) t (tput t 2 0)) (fun i _ _ => ps.length - (intOf i).toNat)
    case atStart => exact ⟨0, by omega, rfl, rfl, HX.out⟩
    case round =>
      rename World => wr
      obtain ⟨k, hk, rfl, rfl, hnw⟩ := hrel
      have HU : Hid _ := hnw
      have cp := hnw.n.p.c 0 _ rfl
      clear hnw HX
      by_cases hlt : k < ps.length
      · obtain ⟨b, f, rfl, hz, hx⟩ := HP.out.is (by omega)
        obtain ⟨p, h1, h2⟩ := hx k hlt
        obtain ⟨c0, c1, c2, c3, c4, c5⟩ := h1.below HU.out.n.b hz
        have HO : Hid (∀ w1, Below w.heap.size w w1 → Calls Tryd.prog 16 #[.slice p.oa ps[k].ops.length p.oc, .int .i64 2] w1 fun e w' => e = .returned (.bool (usesB ps[k].ops 2)) ∧ w' = w1) := fun w1 hb => uses_any _ _ _ _ _ (h2.o.below hb)
        have HB : Hid (∀ w1, Below w.heap.size w w1 → Calls Tryd.prog 16 #[.slice p.ba ps[k].body.length p.bc, .int .i64 2] w1 fun e w' => e = .returned (.bool (usesB ps[k].body 2)) ∧ w' = w1) := fun w1 hb => uses_any _ _ _ _ _ (h2.b.below hb)
        have HS0 : (ps.take (k + 1)).any (useK 2) = ((ps.take k).any (useK 2) || (usesB ps[k].ops 2 || usesB ps[k].body 2)) := by rw [List.take_succ_eq_append_getElem hlt, List.any_append]; simp only [List.any_cons, List.any_nil, Bool.or_false]; rfl
        have HS : Hid _ := HS0
        clear HS0 hx h1 h2 HP HT HZ HW
        generalize (ps.take k).any (useK 2) = s0 at *
        generalize usesB ps[k].ops 2 = s1 at *
        generalize usesB ps[k].body 2 = s2 at *
        cases s0
        · cases s1
          · cases s2
            all_goals
              go_wp2_with (first
                | (go_at_call 16; refine Calls.mono (HO.out _ HU.out.n.b) ?_; rintro e _ ⟨rfl, rfl⟩; clear HO)
                | (go_at_call 16; refine Calls.mono (HB.out _ HU.out.n.b) ?_; rintro e _ ⟨rfl, rfl⟩; clear HB))
              go_roundw
              case rel => exact ⟨k + 1, by omega, by go_num, by rw [HS.out]; rfl, HU.out⟩
              case measure => simp [intOf]; omega
          · go_wp2_with (first
              | (go_at_call 16; refine Calls.mono (HO.out _ HU.out.n.b) ?_; rintro e _ ⟨rfl, rfl⟩; clear HO))
            go_roundw
            case rel => exact ⟨k + 1, by omega, by go_num, by rw [HS.out]; rfl, HU.out⟩
            case measure => simp [intOf]; omega
        · go_wp2
          go_roundw
          case rel => exact ⟨k + 1, by omega, by go_num, by rw [HS.out]; rfl, HU.out⟩
          case measure => simp [intOf]; omega
      · obtain rfl : k = ps.length := by omega
        rw [List.take_length]
        obtain ⟨c0, c1, c2, c3, c4, c5, c6, c7, c8, c9, ca, cb, cc⟩ := HU.out.n.t.t13
        by_cases h0 : ndE ps t = 0
        · rw [nd_less h0 (by omega)] at HZ
          have hul : useL ps 2 = (false || ps.any (useK 2)) := useL_ok (ndE_parts h0).1 2
          rw [hul] at HZ
          rw [h0] at HT
          clear hul h0 HP
          generalize (false || ps.any (useK 2)) = s0 at *
          cases s0
          all_goals
            go_wp2_with (first
              | (go_at_call 8; refine Calls.mono (HT.out _ HU.out.n.b) ?_; rintro e w2 ⟨rfl, hb⟩; have HX2 : Hid (Nw w w2 q2 (.slice ao ps.length cap) t _) := HU.out.go hb; clear hb HU HT cp c0 c1 c2 c3 c4 c5 c6 c7 c8 c9 ca cb cc; have cp := HX2.out.n.p.c 0 _ rfl; obtain ⟨m0, m1, m2, m3, m4, m5, m6, m7, m8, m9, ma, mb, mc⟩ := HX2.out.m.t13)
              | (go_at_call 8; refine Calls.mono (HZ.out _ HX2.out.n.b) ?_; rintro e w3 ⟨rfl, hb⟩; have HX3 : Hid (Nw w w3 q2 (.slice ao ps.length cap) t _) := HX2.out.go hb; clear hb HX2)
              | (go_at_call 9; refine Calls.mono (HW.out _ HX3.out.n.b) ?_; rintro e w4 ⟨rfl, hb⟩; have HX4 : Hid (Nw w w4 q2 (.slice ao ps.length cap) t _) := HX3.out.go hb; clear hb HX3))
            go_ret
            exact ⟨rfl, HX4.out.n.b⟩
        · have h0' : (ndE ps t != 0) = true := by simp [h0]
          clear HP
          generalize (false || ps.any (useK 2)) = s0 at *
          go_wp2_with (first
            | (go_at_call 8; refine Calls.mono (HT.out _ HU.out.n.b) ?_; rintro e w2 ⟨rfl, hb⟩; have HX2 : Hid (Nw w w2 q2 (.slice ao ps.length cap) t _) := HU.out.go hb; clear hb HU HT cp c0 c1 c2 c3 c4 c5 c6 c7 c8 c9 ca cb cc; have cp := HX2.out.n.p.c 0 _ rfl; obtain ⟨m0, m1, m2, m3, m4, m5, m6, m7, m8, m9, ma, mb, mc⟩ := HX2.out.m.t13)
            | (go_at_call 8; refine Calls.mono (HZ.out _ HX2.out.n.b) ?_; rintro e w3 ⟨rfl, hb⟩; have HX3 : Hid (Nw w w3 q2 (.slice ao ps.length cap) t _) := HX2.out.go hb; clear hb HX2)
            | (go_at_call 9; refine Calls.mono (HW.out _ HX3.out.n.b) ?_; rintro e w4 ⟨rfl, hb⟩; have HX4 : Hid (Nw w w4 q2 (.slice ao ps.length cap) t _) := HX3.out.go hb; clear hb HX3))
          go_ret
          exact ⟨rfl, HX4.out.n.b⟩

set_option maxHeartbeats 8000000 in
theorem law_needs_3 (ao : Option Addr) (cap : Nat) (ps : List Bk) (t : Tab) (w : World) (h : PAt w ao ps) (he : Env w) (hg : greatB ps = false) :
    Calls Tryd.prog 5 #[.agg #[.slice ao ps.length cap], t.val, .int .i64 3] w fun e w' => e = .returned (.bool true) ∧ Below w.heap.size w w' := by
  have HG : Hid (∀ w1, Below w.heap.size w w1 → Calls Tryd.prog 6 #[.agg #[.slice ao ps.length cap]] w1 fun e w' => e = .returned (.bool false) ∧ Below w1.heap.size w1 w') := fun w1 hb => by have := great_any _ cap _ _ (h.below hb); rw [hg] at this; exact this
  have HT : Hid (∀ w1, Below w.heap.size w w1 → Calls Tryd.prog 8 #[.agg #[.slice ao ps.length cap], .agg #[.int .i64 (t.u 0), .int .i64 (t.u 1), .int .i64 (t.u 2), .int .i64 (t.u 3), .int .i64 (t.l 0), .int .i64 (t.l 1), .int .i64 (t.l 2), .int .i64 (t.l 3), .int .i64 (t.b 0), .int .i64 (t.b 1), .int .i64 (t.b 2), .int .i64 (t.b 3), .int .i64 t.d]] w1 fun e w' => e = .returned (.int .i64 (ndE ps t)) ∧ Below w1.heap.size w1 w') := fun w1 hb => needs_any _ _ _ t _ (h.below hb) (he.up hb)
  have HM : Hid (ndE ps t = 0 → t.u 3 < 8 → ∀ w1, Below w.heap.size w w1 → Calls Tryd.prog 8 #[.agg #[.slice ao ps.length cap], .agg #[.int .i64 (t.u 0), .int .i64 (t.u 1), .int .i64 (t.u 2), .int .i64 (wrap64 (t.u 3 + 1)), .int .i64 (t.l 0), .int .i64 (t.l 1), .int .i64 (t.l 2), .int .i64 (t.l 3), .int .i64 (t.b 0), .int .i64 (t.b 1), .int .i64 (t.b 2), .int .i64 (t.b 3), .int .i64 t.d]] w1 fun e w' => e = .returned (.int .i64 0) ∧ Below w1.heap.size w1 w') := fun h0 h8 w1 hb => by have := needs_any _ cap _ (tput t 3 (wrap64 (t.u 3 + 1))) _ (h.below hb) (he.up hb); rw [nd_more h0 (by omega) h8] at this; exact this
  have HZ : Hid (∀ w1, Below w.heap.size w w1 → Calls Tryd.prog 8 #[.agg #[.slice ao ps.length cap], .agg #[.int .i64 (t.u 0), .int .i64 (t.u 1), .int .i64 (t.u 2), .int .i64 0, .int .i64 (t.l 0), .int .i64 (t.l 1), .int .i64 (t.l 2), .int .i64 (t.l 3), .int .i64 (t.b 0), .int .i64 (t.b 1), .int .i64 (t.b 2), .int .i64 (t.b 3), .int .i64 t.d]] w1 fun e w' => e = .returned (.int .i64 (ndE ps (tput t 3 0))) ∧ Below w1.heap.size w1 w') := fun w1 hb => needs_any _ _ _ (tput t 3 0) _ (h.below hb) (he.up hb)
  have HW : Hid (∀ w1, Below w.heap.size w w1 → Calls Tryd.prog 9 #[] w1 fun e w' => e = .returned (.bool true) ∧ Below w1.heap.size w1 w') := fun w1 hb => wakes_any _ (he.up hb)
  have HP : Hid _ := h
  have hlen := h.len
  have hle := greatB_len hg
  clear h he hg
  unfold Tab.val
  go_enter Tryd.func5, Tryd.ntmps5
  go_upto_region 5 with (first | (go_at_call 6; refine Calls.mono (HG.out _ (by go_grown)) ?_; rintro e w1 ⟨rfl, hb⟩; have HN : Hid (Nd w w1 (.slice ao ps.length cap) t) := Nd.start hb; obtain ⟨c0, c1, c2, c3, c4, c5, c6, c7, c8, c9, ca, cb, cc⟩ := HN.out.t.t13; clear hb HG))
  have HX : Hid (Nw w (w1.alloc (.cells #[.int .i64 (t.u 0), .int .i64 (t.u 1), .int .i64 (t.u 2), .int .i64 (wrap64 (t.u 3 + 1)), .int .i64 (t.l 0), .int .i64 (t.l 1), .int .i64 (t.l 2), .int .i64 (t.l 3), .int .i64 (t.b 0), .int .i64 (t.b 1), .int .i64 (t.b 2), .int .i64 (t.b 3), .int .i64 t.d] 27)) w1.heap.size (.slice ao ps.length cap) t (tput t 3 (wrap64 (t.u 3 + 1)))) := Nw.start HN.out (tput t 3 (wrap64 (t.u 3 + 1))) 27
  clear c0 c1 c2 c3 c4 c5 c6 c7 c8 c9 ca cb cc HN
  generalize w1.alloc (.cells #[.int .i64 (t.u 0), .int .i64 (t.u 1), .int .i64 (t.u 2), .int .i64 (wrap64 (t.u 3 + 1)), .int .i64 (t.l 0), .int .i64 (t.l 1), .int .i64 (t.l 2), .int .i64 (t.l 3), .int .i64 (t.b 0), .int .i64 (t.b 1), .int .i64 (t.b 2), .int .i64 (t.b 3), .int .i64 t.d] 27) = V at *
  have cp := HX.out.n.p.c 0 _ rfl
  obtain ⟨c0, c1, c2, c3, c4, c5, c6, c7, c8, c9, ca, cb, cc⟩ := HX.out.n.t.t13
  generalize w1.heap.size = q at *
  go_cut [48] (fun s wc => s = .bool false ∧ Nd w wc (.slice ao ps.length cap) t)
  case first =>
    by_cases h0 : ndE ps t = 0
    · rw [h0] at HT
      by_cases h8 : t.u 3 < 8
      · have HM' : Hid _ := HM.out h0 h8
        clear h0 HM
        go_wp2_with (first
          | (go_at_call 8; refine Calls.mono (HT.out _ HX.out.n.b) ?_; rintro e w2 ⟨rfl, hb⟩; have HX2 : Hid (Nw w w2 q (.slice ao ps.length cap) t _) := HX.out.go hb; clear hb HX HT cp c0 c1 c2 c3 c4 c5 c6 c7 c8 c9 ca cb cc; have cp := HX2.out.n.p.c 0 _ rfl; obtain ⟨c0, c1, c2, c3, c4, c5, c6, c7, c8, c9, ca, cb, cc⟩ := HX2.out.n.t.t13; obtain ⟨m0, m1, m2, m3, m4, m5, m6, m7, m8, m9, ma, mb, mc⟩ := HX2.out.m.t13)
          | (go_at_call 8; refine Calls.mono (HM'.out _ HX2.out.n.b) ?_; rintro e w3 ⟨rfl, hb⟩; have HX3 : Hid (Nw w w3 q (.slice ao ps.length cap) t _) := HX2.out.go hb; clear hb HX2))
        go_meet
        exact ⟨rfl, HX3.out.n⟩
      · clear h0 HM
        go_wp2_with (first
          | (go_at_call 8; refine Calls.mono (HT.out _ HX.out.n.b) ?_; rintro e w2 ⟨rfl, hb⟩; have HX2 : Hid (Nw w w2 q (.slice ao ps.length cap) t _) := HX.out.go hb; clear hb HX HT cp c0 c1 c2 c3 c4 c5 c6 c7 c8 c9 ca cb cc; have cp := HX2.out.n.p.c 0 _ rfl; obtain ⟨c0, c1, c2, c3, c4, c5, c6, c7, c8, c9, ca, cb, cc⟩ := HX2.out.n.t.t13))
        go_meet
        exact ⟨rfl, HX2.out.n⟩
    · have h0' : (ndE ps t == 0) = false := by simp [h0]
      go_wp2_with (first
        | (go_at_call 8; refine Calls.mono (HT.out _ HX.out.n.b) ?_; rintro e w2 ⟨rfl, hb⟩; have HX2 : Hid (Nw w w2 q (.slice ao ps.length cap) t _) := HX.out.go hb; clear hb HX HT cp c0 c1 c2 c3 c4 c5 c6 c7 c8 c9 ca cb cc))
      go_meet
      exact ⟨rfl, HX2.out.n⟩
  case rest =>
    obtain ⟨rfl, hnd⟩ := hcut
    clear cp c0 c1 c2 c3 c4 c5 c6 c7 c8 c9 ca cb cc HX HM
    have HD : Hid _ := hnd
    obtain ⟨c0, c1, c2, c3, c4, c5, c6, c7, c8, c9, ca, cb, cc⟩ := HD.out.t.t13
    clear hnd
    go_upto_region 9 with fail
    have HX : Hid (Nw w (wc.alloc (.cells #[.int .i64 (t.u 0), .int .i64 (t.u 1), .int .i64 (t.u 2), .int .i64 0, .int .i64 (t.l 0), .int .i64 (t.l 1), .int .i64 (t.l 2), .int .i64 (t.l 3), .int .i64 (t.b 0), .int .i64 (t.b 1), .int .i64 (t.b 2), .int .i64 (t.b 3), .int .i64 t.d] 27)) wc.heap.size (.slice ao ps.length cap) t (tput t 3 0)) := Nw.start HD.out (tput t 3 0) 27
    clear c0 c1 c2 c3 c4 c5 c6 c7 c8 c9 ca cb cc HD
    generalize wc.alloc (.cells #[.int .i64 (t.u 0), .int .i64 (t.u 1), .int .i64 (t.u 2), .int .i64 0, .int .i64 (t.l 0), .int .i64 (t.l 1), .int .i64 (t.l 2), .int .i64 (t.l 3), .int .i64 (t.b 0), .int .i64 (t.b 1), .int .i64 (t.b 2), .int .i64 (t.b 3), .int .i64 t.d] 27) = V2 at *
    generalize wc.heap.size = q2 at *
    go_wp2
    go_loopw [10, 9] (fun i s wr => ∃ k : Nat, k ≤ ps.length ∧ i = .int .i64 k ∧ s = .bool (true || (ps.take k).any (useK 3)) ∧ Nw w wr q2 (.slice ao ps.length cap) t (tput t 3 0)) (fun i _ _ => ps.length - (intOf i).toNat)
    case atStart => exact ⟨0, by omega, rfl, rfl, HX.out⟩
    case round =>
      rename World => wr
      obtain ⟨k, hk, rfl, rfl, hnw⟩ := hrel
      have HU : Hid _ := hnw
      have cp := hnw.n.p.c 0 _ rfl
      clear hnw HX
      by_cases hlt : k < ps.length
      · obtain ⟨b, f, rfl, hz, hx⟩ := HP.out.is (by omega)
        obtain ⟨p, h1, h2⟩ := hx k hlt
        obtain ⟨c0, c1, c2, c3, c4, c5⟩ := h1.below HU.out.n.b hz
        have HO : Hid (∀ w1, Below w.heap.size w w1 → Calls Tryd.prog 16 #[.slice p.oa ps[k].ops.length p.oc, .int .i64 3] w1 fun e w' => e = .returned (.bool (usesB ps[k].ops 3)) ∧ w' = w1) := fun w1 hb => uses_any _ _ _ _ _ (h2.o.below hb)
        have HB : Hid (∀ w1, Below w.heap.size w w1 → Calls Tryd.prog 16 #[.slice p.ba ps[k].body.length p.bc, .int .i64 3] w1 fun e w' => e = .returned (.bool (usesB ps[k].body 3)) ∧ w' = w1) := fun w1 hb => uses_any _ _ _ _ _ (h2.b.below hb)
        have HS0 : (ps.take (k + 1)).any (useK 3) = ((ps.take k).any (useK 3) || (usesB ps[k].ops 3 || usesB ps[k].body 3)) := by rw [List.take_succ_eq_append_getElem hlt, List.any_append]; simp only [List.any_cons, List.any_nil, Bool.or_false]; rfl
        have HS : Hid _ := HS0
        clear HS0 hx h1 h2 HP HT HZ HW
        generalize (ps.take k).any (useK 3) = s0 at *
        generalize usesB ps[k].ops 3 = s1 at *
        generalize usesB ps[k].body 3 = s2 at *
        cases s0
        · cases s1
          · cases s2
            all_goals
              go_wp2_with (first
                | (go_at_call 16; refine Calls.mono (HO.out _ HU.out.n.b) ?_; rintro e _ ⟨rfl, rfl⟩; clear HO)
                | (go_at_call 16; refine Calls.mono (HB.out _ HU.out.n.b) ?_; rintro e _ ⟨rfl, rfl⟩; clear HB))
              go_roundw
              case rel => exact ⟨k + 1, by omega, by go_num, by rw [HS.out]; rfl, HU.out⟩
              case measure => simp [intOf]; omega
          · go_wp2_with (first
              | (go_at_call 16; refine Calls.mono (HO.out _ HU.out.n.b) ?_; rintro e _ ⟨rfl, rfl⟩; clear HO))
            go_roundw
            case rel => exact ⟨k + 1, by omega, by go_num, by rw [HS.out]; rfl, HU.out⟩
            case measure => simp [intOf]; omega
        · go_wp2
          go_roundw
          case rel => exact ⟨k + 1, by omega, by go_num, by rw [HS.out]; rfl, HU.out⟩
          case measure => simp [intOf]; omega
      · obtain rfl : k = ps.length := by omega
        rw [List.take_length]
        obtain ⟨c0, c1, c2, c3, c4, c5, c6, c7, c8, c9, ca, cb, cc⟩ := HU.out.n.t.t13
        by_cases h0 : ndE ps t = 0
        · rw [nd_less h0 (by omega)] at HZ
          have hul : useL ps 3 = (true || ps.any (useK 3)) := useL_ok (ndE_parts h0).1 3
          rw [hul] at HZ
          rw [h0] at HT
          clear hul h0 HP
          generalize (true || ps.any (useK 3)) = s0 at *
          cases s0
          all_goals
            go_wp2_with (first
              | (go_at_call 8; refine Calls.mono (HT.out _ HU.out.n.b) ?_; rintro e w2 ⟨rfl, hb⟩; have HX2 : Hid (Nw w w2 q2 (.slice ao ps.length cap) t _) := HU.out.go hb; clear hb HU HT cp c0 c1 c2 c3 c4 c5 c6 c7 c8 c9 ca cb cc; have cp := HX2.out.n.p.c 0 _ rfl; obtain ⟨m0, m1, m2, m3, m4, m5, m6, m7, m8, m9, ma, mb, mc⟩ := HX2.out.m.t13)
              | (go_at_call 8; refine Calls.mono (HZ.out _ HX2.out.n.b) ?_; rintro e w3 ⟨rfl, hb⟩; have HX3 : Hid (Nw w w3 q2 (.slice ao ps.length cap) t _) := HX2.out.go hb; clear hb HX2)
              | (go_at_call 9; refine Calls.mono (HW.out _ HX3.out.n.b) ?_; rintro e w4 ⟨rfl, hb⟩; have HX4 : Hid (Nw w w4 q2 (.slice ao ps.length cap) t _) := HX3.out.go hb; clear hb HX3))
            go_ret
            exact ⟨rfl, HX4.out.n.b⟩
        · have h0' : (ndE ps t != 0) = true := by simp [h0]
          clear HP
          generalize (true || ps.any (useK 3)) = s0 at *
          go_wp2_with (first
            | (go_at_call 8; refine Calls.mono (HT.out _ HU.out.n.b) ?_; rintro e w2 ⟨rfl, hb⟩; have HX2 : Hid (Nw w w2 q2 (.slice ao ps.length cap) t _) := HU.out.go hb; clear hb HU HT cp c0 c1 c2 c3 c4 c5 c6 c7 c8 c9 ca cb cc; have cp := HX2.out.n.p.c 0 _ rfl; obtain ⟨m0, m1, m2, m3, m4, m5, m6, m7, m8, m9, ma, mb, mc⟩ := HX2.out.m.t13)
            | (go_at_call 8; refine Calls.mono (HZ.out _ HX2.out.n.b) ?_; rintro e w3 ⟨rfl, hb⟩; have HX3 : Hid (Nw w w3 q2 (.slice ao ps.length cap) t _) := HX2.out.go hb; clear hb HX2)
            | (go_at_call 9; refine Calls.mono (HW.out _ HX3.out.n.b) ?_; rintro e w4 ⟨rfl, hb⟩; have HX4 : Hid (Nw w w4 q2 (.slice ao ps.length cap) t _) := HX3.out.go hb; clear hb HX3))
          go_ret
          exact ⟨rfl, HX4.out.n.b⟩

theorem law_needs (ao : Option Addr) (cap : Nat) (ps : List Bk) (t : Tab) (c : Int) (w : World) (h : PAt w ao ps) (he : Env w) :
    Calls Tryd.prog 5 #[.agg #[.slice ao ps.length cap], t.val, .int .i64 c] w fun e w' => e = .returned (.bool true) ∧ Below w.heap.size w w' := by
  by_cases hx : c < 0 ∨ 4 ≤ c ∨ greatB ps = true
  · exact law_needs_out ao cap ps t c w h he hx
  · have hg : greatB ps = false := by cases hh : greatB ps with | false => rfl | true => exact absurd (.inr (.inr hh)) hx
    have h4 : c = 0 ∨ c = 1 ∨ c = 2 ∨ c = 3 := by omega
    rcases h4 with rfl | rfl | rfl | rfl
    · exact law_needs_0 ao cap ps t w h he hg
    · exact law_needs_1 ao cap ps t w h he hg
    · exact law_needs_2 ao cap ps t w h he hg
    · exact law_needs_3 ao cap ps t w h he hg
end Go.Proofs.YtecfbnfbpamegaaDoor.Op
