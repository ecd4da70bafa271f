/- The statement FlowTells, whole: for any program and any number of a block, what comes behind it, what is ahead of it, what is reached and the rings are as the document says; the listed variable is tied to the program's text. Conditions: none. -/
import Derived.Test.YtfdmahilgemlaaaDoorTb
import Derived.Test.YtfdmahilgemlaaaDoorRj
import Derived.Laws.OwnMore
import Derived.Deep.RegionHeld3
import Derived.Deep.DeepCutAuto
import Derived.Test.YtfdmahilgemlaaaDoorGv
import Derived.Test.YtfdmahilgemlaaaDoorGy
import Derived.Test.YtfdmahilgemlaaaDoorGz
import Derived.Test.YtfdmahilgemlaaaDoorLa
import Derived.Test.YtfdmahilgemlaaaDoorWk
import Derived.Test.YtfdmahilgemlaaaDoorPk
import Derived.Test.YtfdmahilgemlaaaDoorTie
import Derived.Test.YtfdmahilgemlaaaDoorCards
import Derived.ProofKit
import Derived.HandedShaped
import Derived.Shelf.Vars
import Derived.Lib.LaidU8
import Derived.Lay
import Derived.LaidHandle
import Derived.LaidLaws
import Derived.Stop.Joined
import Derived.RowKitTokens
import Derived.SevenTiedAt
import Derived.Carry
import Derived.ChangeMaps5
import Derived.Deep.Slices
import Derived.Lib.SmallJoins
import Derived.ChangeOld
import Derived.SizedLaws
namespace Go.Proofs.YtfdmahilgemlaaaDoor.Fl
open Go.ChangeShapes Go.WideShapes Go.ChangeAt Go.RowKit
open _root_.Go.Proofs.YtfdmahilgemlaaaDoor.So _root_.Go.Proofs.YtfdmahilgemlaaaDoor.Ss _root_.Go.Proofs.YtfdmahilgemlaaaDoor.Op
set_option maxRecDepth 20000

theorem beq_dec (a b : Int) : (a == b) = decide (a = b) := by rw [Bool.eq_iff_iff]; simp
theorem refTurns_any (x : Bk) (p : Pl) (y : Int) (w : World) (hok : x.Ok) :
    Calls Tryd.prog 25 #[x.val p, .int .i64 y] w fun e w' => e = .returned (.bool (decide (y ∈ turnL x))) ∧ Below w.heap.size w w' := by
  obtain ⟨f0, f1, a0, a1, t0, t1, e0, e1⟩ := hok
  by_cases h0 : x.fin = 0 ∨ x.fin = 3
  · have hL : decide (y ∈ turnL x) = (x.thn == y) := by
      rw [beq_dec]; unfold turnL; rw [if_pos h0]; simp [eq_comm]
    rw [hL]
    clear hL
    obtain ⟨xo, xf, xa, xb, xt, xe⟩ := x
    rcases h0 with h0 | h0
    · simp only at h0
      subst h0
      go_enter Tryd.func25, Tryd.ntmps25
      go_wp2
      go_ret
      exact ⟨rfl, by go_grown⟩
    · simp only at h0
      subst h0
      go_enter Tryd.func25, Tryd.ntmps25
      go_wp2
      go_ret
      exact ⟨rfl, by go_grown⟩
  · by_cases h1 : x.fin = 1
    · have hm := turnL_mem x h1 y
      by_cases hy : x.thn = y
      · have hL : decide (y ∈ turnL x) = true := decide_eq_true (hm.2 (Or.inl hy.symm))
        rw [hL]
        clear hL hm
        obtain ⟨xo, xf, xa, xb, xt, xe⟩ := x
        simp only at h1 hy
        subst h1
        subst hy
        go_enter Tryd.func25, Tryd.ntmps25
        go_wp2
        go_ret
        exact ⟨rfl, by go_grown⟩
      · have hL : decide (y ∈ turnL x) = (x.els == y) := by
          rw [beq_dec]
          by_cases he : x.els = y
          · rw [decide_eq_true (hm.2 (Or.inr he.symm)), decide_eq_true he]
          · rw [decide_eq_false fun h => ?_, decide_eq_false he]
            rcases hm.1 h with h | h
            · exact hy h.symm
            · exact he h.symm
        rw [hL]
        clear hL hm
        obtain ⟨xo, xf, xa, xb, xt, xe⟩ := x
        simp only at h1 hy
        subst h1
        have hb : (xt == y) = false := by rw [beq_eq_false_iff_ne]; exact hy
        go_enter Tryd.func25, Tryd.ntmps25
        go_wp2
        go_ret
        exact ⟨rfl, by go_grown⟩
    · have hL : decide (y ∈ turnL x) = false := by unfold turnL; rw [if_neg h0, if_neg h1]; simp
      rw [hL]
      clear hL
      obtain ⟨xo, xf, xa, xb, xt, xe⟩ := x
      simp only at h0 h1 f0 f1
      have z0 : ¬ xf = 0 := by omega
      have z3 : ¬ xf = 3 := by omega
      clear h0
      go_enter Tryd.func25, Tryd.ntmps25
      go_wp2
      go_ret
      exact ⟨rfl, by go_grown⟩
theorem right_any (ao : Option Addr) (cap : Nat) (ps : List Bk) (block : Int) (w : World) (h : PAt w ao ps) :
    Calls Tryd.prog 22 #[.agg #[.slice ao ps.length cap], .int .i64 block] w fun e w' => e = .returned (.bool (knB ps block)) ∧ Below w.heap.size w w' := by
  have hb1 : Below w.heap.size w (w.alloc (.cells #[.slice ao ps.length cap] 24)) := by go_grown
  have HC : Hid (Calls Tryd.prog 37 #[.agg #[.slice ao ps.length cap]] (w.alloc (.cells #[.slice ao ps.length cap] 24)) fun e w' => e = .returned (.int .i64 (ckP ps)) ∧ Below (w.alloc (.cells #[.slice ao ps.length cap] 24)).heap.size (w.alloc (.cells #[.slice ao ps.length cap] 24)) w') :=
    refCheckP_any ao cap ps _ (h.below hb1)
  clear h hb1
  obtain ⟨c, hc⟩ : ∃ c, c = ckP ps := ⟨_, rfl⟩
  unfold knB
  rw [← hc] at HC ⊢
  clear hc
  by_cases h2 : c = 0
  · subst h2
    by_cases h0 : 0 ≤ block
    · have h0' : block ≥ 0 := h0
      rw [decide_eq_true h0]
      go_enter Tryd.func22, Tryd.ntmps22
      go_wp2_with (first | (go_at_call 37; refine Calls.mono HC.out ?_; rintro e w' ⟨rfl, hb⟩; obtain ⟨a1, hb0, hz⟩ := one_new w _ _ hb; have HB : Hid (Below w.heap.size w w') := hb0; have cb := a1.c 0 _ rfl; clear hb hb0 a1 HC))
      go_ret
      exact ⟨by simp, HB.out⟩
    · have h0' : ¬ block ≥ 0 := h0
      rw [decide_eq_false h0]
      go_enter Tryd.func22, Tryd.ntmps22
      go_wp2_with (first | (go_at_call 37; refine Calls.mono HC.out ?_; rintro e w' ⟨rfl, hb⟩; obtain ⟨a1, hb0, hz⟩ := one_new w _ _ hb; have HB : Hid (Below w.heap.size w w') := hb0; have cb := a1.c 0 _ rfl; clear hb hb0 a1 HC))
      go_ret
      exact ⟨by simp, HB.out⟩
  · have hb2 : (c == 0) = false := by rw [beq_eq_false_iff_ne]; exact h2
    rw [decide_eq_false h2, Bool.and_false]
    clear h2
    go_enter Tryd.func22, Tryd.ntmps22
    go_wp2_with (first | (go_at_call 37; refine Calls.mono HC.out ?_; rintro e w' ⟨rfl, hb⟩; obtain ⟨a1, hb0, hz⟩ := one_new w _ _ hb; have HB : Hid (Below w.heap.size w w') := hb0; have cb := a1.c 0 _ rfl; clear hb hb0 a1 HC))
    go_ret
    exact ⟨by simp, HB.out⟩

/-- The blocks below k to which a block may turn. -/
def behindTo (x : Bk) (k : Nat) : List Int := ((List.range k).filter fun y => decide (((y : Nat) : Int) ∈ turnL x)).map fun (y : Nat) => (y : Int)
theorem behindTo_yes {x : Bk} {k : Nat} (h : (k : Int) ∈ turnL x) : behindTo x (k + 1) = behindTo x k ++ [(k : Int)] := by
  unfold behindTo
  rw [List.range_succ, List.filter_append, List.map_append]
  simp [h]
theorem behindTo_no {x : Bk} {k : Nat} (h : ¬ (k : Int) ∈ turnL x) : behindTo x (k + 1) = behindTo x k := by
  unfold behindTo
  rw [List.range_succ, List.filter_append, List.map_append]
  simp [h]
theorem behindTo_len (x : Bk) (k : Nat) : (behindTo x k).length ≤ k := by
  unfold behindTo
  rw [List.length_map]
  have := List.length_filter_le (fun y => decide (((y : Nat) : Int) ∈ turnL x)) (List.range k)
  simpa using this
theorem behind_turn {ps : List Bk} (hG : Good ps) {x : Bk} (hx : x ∈ ps) : behindTo x ps.length = turnL x := by
  refine rise_same _ _ ?_ (turnL_rise x) fun z => ?_
  · unfold behindTo
    rw [List.pairwise_map]
    refine ((List.pairwise_lt_range (n := ps.length)).filter _).imp ?_
    intro a b h; omega
  · unfold behindTo
    simp only [List.mem_map, List.mem_filter, List.mem_range]
    constructor
    · rintro ⟨y, ⟨_, h2⟩, rfl⟩
      simpa using h2
    · intro hz
      obtain ⟨h1, h2⟩ := hG.turn x hx z hz
      exact ⟨z.toNat, ⟨by omega, by rw [decide_eq_true_eq, show ((z.toNat : Nat) : Int) = z by omega]; exact hz⟩, by omega⟩

set_option maxHeartbeats 4000000 in
theorem refAfter_any (ao : Option Addr) (cap : Nat) (ps : List Bk) (block : Int) (w : World) (h : PAt w ao ps) :
    Calls Tryd.prog 9 #[.agg #[.slice ao ps.length cap], .int .i64 block] w fun e w' => ∃ v, e = .returned v ∧ Got w w' v (afterL ps block) := by
  have hb1 : Below w.heap.size w (w.alloc (.cells #[.slice ao ps.length cap] 24)) := by go_grown
  have HK : Hid (Calls Tryd.prog 22 #[.agg #[.slice ao ps.length cap], .int .i64 block] (w.alloc (.cells #[.slice ao ps.length cap] 24)) fun e w' => e = .returned (.bool (knB ps block)) ∧ Below (w.alloc (.cells #[.slice ao ps.length cap] 24)).heap.size (w.alloc (.cells #[.slice ao ps.length cap] 24)) w') := right_any ao cap ps block _ (h.below hb1)
  unfold afterL
  by_cases hk : knB ps block = true
  · rw [if_pos hk]
    rw [hk] at HK
    have hk' := hk
    unfold knB at hk'
    simp only [Bool.and_eq_true, decide_eq_true_eq] at hk'
    obtain ⟨⟨h0, h1⟩, hck⟩ := hk'
    have hG := good_of hck
    have hle := hG.le
    obtain ⟨b, f, rfl, hlt, hx⟩ := h.is (by omega)
    obtain ⟨i, rfl⟩ : ∃ i : Nat, block = i := ⟨block.toNat, by omega⟩
    have hi9 : i < ps.length := by omega
    rw [Int.toNat_natCast, List.getElem?_eq_getElem hi9]
    simp only []
    rw [← behind_turn hG (List.getElem_mem hi9)]
    have HX : Hid (∀ (i : Nat) (h : i < ps.length), ∃ p, BAt w b (f + i * 6) ps[i] p ∧ BIn w ps[i] p) := hx
    have HT : Hid (∀ (x : Bk) (p : Pl) (y : Int) w', x.Ok → Calls Tryd.prog 25 #[x.val p, .int .i64 y] w' fun e w2 => e = .returned (.bool (decide (y ∈ turnL x))) ∧ Below w'.heap.size w' w2) := fun x p y w' hok => refTurns_any x p y w' hok
    obtain ⟨i0, hi, hi2⟩ := Option.map_eq_some_iff.1 info3
    simp only [Prod.mk.injEq] at hi2
    obtain ⟨hz0, hz1, hz2⟩ := hi2
    have HI : Hid (Tryd.prog.info? 3 = some i0 ∧ i0.zero = some (.int .i64 0) ∧ i0.size = 1 ∧ i0.bytes = 8) := ⟨hi, hz0, hz1, hz2⟩
    clear h hx hk hb1 hi hz0 hz1 hz2 hck hG
    go_enter Tryd.func9, Tryd.ntmps9
    go_wp2_with (first
      | (go_at_call 22; refine Calls.mono HK.out ?_; rintro e w1 ⟨rfl, hb⟩; obtain ⟨a1, hb0, hz⟩ := one_new w _ _ hb; have HB1 : Hid (Below w.heap.size w w1) := hb0; have cb := a1.c 0 _ rfl; have HA1 : Hid (At w1 w.heap.size #[.slice (some ⟨b, f, none⟩) ps.length cap]) := a1; clear hb hb0 a1 HK))
    go_loopw [5, 6] (fun v vi wr => ∃ (k : Nat), k ≤ ps.length ∧ vi = .int .i64 k ∧ Hid (wr.ownsRow (w.heap.size + 1) 3 1 v (behindTo ps[i] k).length ((behindTo ps[i] k).map fun y => Value.int .i64 y) ∧ Below w.heap.size w wr ∧ At wr w.heap.size #[.slice (some ⟨b, f, none⟩) ps.length cap])) (fun _ vi _ => ps.length - (intOf vi).toNat)
    case atStart => exact ⟨0, by omega, rfl, World.ownsRow_nil _ _ _ _, HB1.out, HA1.out⟩
    case round =>
      rename_i wr
      obtain ⟨k, hk, rfl, hS⟩ := hrel
      clear cb HB1 HA1
      have cb := hS.out.2.2.c 0 _ rfl
      have hsz : Hid (w.heap.size < wr.heap.size) := hS.out.2.2.lt
      by_cases hlk : k < ps.length
      · obtain ⟨p, hp, hin⟩ := HX.out i hi9
        obtain ⟨c0, c1, c2, c3, c4, c5⟩ := hp.below hS.out.2.1 hlt
        have HT2 : Hid (Calls Tryd.prog 25 #[ps[i].val p, .int .i64 (k : Int)] wr fun e w2 => e = .returned (.bool (decide ((k : Int) ∈ turnL ps[i]))) ∧ Below wr.heap.size wr w2) := HT.out _ p _ wr hin.ok
        clear hp hin HX HT
        by_cases ht : (k : Int) ∈ turnL ps[i]
        · have hA : Hid (behindTo ps[i] (k + 1) = behindTo ps[i] k ++ [(k : Int)]) := behindTo_yes ht
          have hlen := behindTo_len ps[i] k
          rw [decide_eq_true ht] at HT2
          clear ht
          go_wp2_with (first
            | (go_at_call 25; refine Calls.mono HT2.out ?_; rintro e w2 ⟨rfl, hb2⟩; have HS2 : Hid (w2.ownsRow (w.heap.size + 1) 3 1 u5 (behindTo ps[i] k).length ((behindTo ps[i] k).map fun y => Value.int .i64 y) ∧ Below w.heap.size w w2 ∧ At w2 w.heap.size #[.slice (some ⟨b, f, none⟩) ps.length cap]) := ⟨row_below' hS.out.1 hb2, hS.out.2.1.trans (hb2.mono hS.out.2.1.size), hS.out.2.2.below hb2 hS.out.2.2.lt⟩; clear hb2 hS HT2)
            | (at_builtin; refine wpList_append_lies _ rfl _ _ 28 rfl (w.heap.size + 1) 3 i0 (.int .i64 0) 1 8 Tryd.underlying28 HI.out.1 HI.out.2.1 HI.out.2.2.1 HI.out.2.2.2 rfl (by decide) _ _ _ rfl (HS2.out.1.alloc _) ⟨w2.heap.size, 0, none⟩ 1 1 [.int .i64 (k : Int)] rfl rfl (World.news_of_block (heap_alloc_new w2 _)) (by simp [Value.oneCell']) (by decide) (by unfold maxLen; omega) (by omega) (by have := HS2.out.2.2.lt; simp; omega) (w2.heap.size + 1) (by simp) ?_; intro g cap' w4 hown1 hgrow hat hlt3))
          go_roundw
          case rel =>
            refine ⟨k + 1, by omega, by go_num, ?_, ?_, ?_⟩
            · rw [hA.out, intL_snoc, List.length_append]; exact hown1
            · exact (HS2.out.2.1.alloc HS2.out.2.1.size _).grown hgrow (by have := HS2.out.2.1.size; simp; omega) (fun b hb => by have := ((HS2.out.1).lt b hb).1; omega)
            · have hF : Fr (fun q => w.heap.size + 1 ≤ q) (w2.alloc (.cells #[.int .i64 (k : Int)] 3)) w4 := ⟨hgrow.os, hgrow.tape, hgrow.output, hgrow.size, fun q hq hx => hgrow.block q hq fun e => hx ((HS2.out.1).lt q e.symm).1⟩
              have hA2 := HS2.out.2.2.alloc (.cells #[.int .i64 (k : Int)] 3)
              exact ⟨fun j v e => by rw [hF.cell hA2.lt (by simp)]; exact hA2.c j v e, fun j => by rw [hF.frozen hA2.lt (by simp)]; exact hA2.f j, Nat.lt_of_lt_of_le hA2.lt hF.size⟩
          case measure => simp [intOf]; omega
        · have hA : Hid (behindTo ps[i] (k + 1) = behindTo ps[i] k) := behindTo_no ht
          rw [decide_eq_false ht] at HT2
          clear ht
          go_wp2_with (first
            | (go_at_call 25; refine Calls.mono HT2.out ?_; rintro e w2 ⟨rfl, hb2⟩; have HS2 : Hid (w2.ownsRow (w.heap.size + 1) 3 1 u5 (behindTo ps[i] k).length ((behindTo ps[i] k).map fun y => Value.int .i64 y) ∧ Below w.heap.size w w2 ∧ At w2 w.heap.size #[.slice (some ⟨b, f, none⟩) ps.length cap]) := ⟨row_below' hS.out.1 hb2, hS.out.2.1.trans (hb2.mono hS.out.2.1.size), hS.out.2.2.below hb2 hS.out.2.2.lt⟩; clear hb2 hS HT2))
          go_roundw
          case rel => exact ⟨k + 1, by omega, by go_num, by rw [hA.out]; exact HS2.out⟩
          case measure => simp [intOf]; omega
      · obtain rfl : k = ps.length := by omega
        go_wp2
        go_ret
        obtain ⟨a, c, e⟩ := row_slice hS.out.1
        exact ⟨_, rfl, a, c, e, (il_row (e ▸ hS.out.1)).low (by omega), hS.out.2.1⟩
  · rw [if_neg hk]
    have hk' : knB ps block = false := by simpa using hk
    rw [hk'] at HK
    clear h hk hb1
    go_enter Tryd.func9, Tryd.ntmps9
    go_wp2_with (first | (go_at_call 22; refine Calls.mono HK.out ?_; rintro e w1 ⟨rfl, hb⟩; obtain ⟨a1, hb0, hz⟩ := one_new w _ _ hb; have HB1 : Hid _ := hb0; clear hb hb0 a1 HK))
    go_ret
    exact ⟨_, rfl, _, _, rfl, Il.nil _ _ _, HB1.out⟩

set_option maxHeartbeats 4000000 in
theorem refAhead_any (ao : Option Addr) (cap : Nat) (ps : List Bk) (block : Int) (w : World) (h : PAt w ao ps) :
    Calls Tryd.prog 11 #[.agg #[.slice ao ps.length cap], .int .i64 block] w fun e w' => ∃ v, e = .returned v ∧ Got w w' v (aheadL ps block) := by
  have hb1 : Below w.heap.size w (w.alloc (.cells #[.slice ao ps.length cap] 24)) := by go_grown
  have HK : Hid (Calls Tryd.prog 22 #[.agg #[.slice ao ps.length cap], .int .i64 block] (w.alloc (.cells #[.slice ao ps.length cap] 24)) fun e w' => e = .returned (.bool (knB ps block)) ∧ Below (w.alloc (.cells #[.slice ao ps.length cap] 24)).heap.size (w.alloc (.cells #[.slice ao ps.length cap] 24)) w') := right_any ao cap ps block _ (h.below hb1)
  unfold aheadL
  by_cases hk : knB ps block = true
  · rw [if_pos hk]
    rw [hk] at HK
    have hk' := hk
    unfold knB at hk'
    simp only [Bool.and_eq_true, decide_eq_true_eq] at hk'
    obtain ⟨⟨h0, h1⟩, hck⟩ := hk'
    have hG := good_of hck
    have hle := hG.le
    obtain ⟨b, f, rfl, hlt, hx⟩ := h.is (by omega)
    have HX : Hid (∀ (i : Nat) (h : i < ps.length), ∃ p, BAt w b (f + i * 6) ps[i] p ∧ BIn w ps[i] p) := hx
    have HT : Hid (∀ (x : Bk) (p : Pl) (y : Int) w', x.Ok → Calls Tryd.prog 25 #[x.val p, .int .i64 y] w' fun e w2 => e = .returned (.bool (decide (y ∈ turnL x))) ∧ Below w'.heap.size w' w2) := fun x p y w' hok => refTurns_any x p y w' hok
    obtain ⟨i0, hi, hi2⟩ := Option.map_eq_some_iff.1 info3
    simp only [Prod.mk.injEq] at hi2
    obtain ⟨hz0, hz1, hz2⟩ := hi2
    have HI : Hid (Tryd.prog.info? 3 = some i0 ∧ i0.zero = some (.int .i64 0) ∧ i0.size = 1 ∧ i0.bytes = 8) := ⟨hi, hz0, hz1, hz2⟩
    clear h hx hk hb1 hi hz0 hz1 hz2 hck hG
    go_enter Tryd.func11, Tryd.ntmps11
    go_wp2_with (first
      | (go_at_call 22; refine Calls.mono HK.out ?_; rintro e w1 ⟨rfl, hb⟩; obtain ⟨a1, hb0, hz⟩ := one_new w _ _ hb; have HB1 : Hid (Below w.heap.size w w1) := hb0; have cb := a1.c 0 _ rfl; have HA1 : Hid (At w1 w.heap.size #[.slice (some ⟨b, f, none⟩) ps.length cap]) := a1; clear hb hb0 a1 HK))
    go_loopw [5, 6] (fun v vi wr => ∃ (k : Nat), k ≤ ps.length ∧ vi = .int .i64 k ∧ Hid (wr.ownsRow (w.heap.size + 1) 3 1 v (aheadTo ps block k).length ((aheadTo ps block k).map fun y => Value.int .i64 y) ∧ Below w.heap.size w wr ∧ At wr w.heap.size #[.slice (some ⟨b, f, none⟩) ps.length cap])) (fun _ vi _ => ps.length - (intOf vi).toNat)
    case atStart => exact ⟨0, by omega, rfl, World.ownsRow_nil _ _ _ _, HB1.out, HA1.out⟩
    case round =>
      rename_i wr
      obtain ⟨k, hk, rfl, hS⟩ := hrel
      clear cb HB1 HA1
      have cb := hS.out.2.2.c 0 _ rfl
      have hsz : Hid (w.heap.size < wr.heap.size) := hS.out.2.2.lt
      by_cases hlk : k < ps.length
      · obtain ⟨p, hp, hin⟩ := HX.out k hlk
        obtain ⟨c0, c1, c2, c3, c4, c5⟩ := hp.below hS.out.2.1 hlt
        have HT2 : Hid (Calls Tryd.prog 25 #[ps[k].val p, .int .i64 block] wr fun e w2 => e = .returned (.bool (decide (block ∈ turnL ps[k]))) ∧ Below wr.heap.size wr w2) := HT.out _ p _ wr hin.ok
        clear hp hin HX HT
        by_cases ht : block ∈ turnL ps[k]
        · have hA : Hid (aheadTo ps block (k + 1) = aheadTo ps block k ++ [(k : Int)]) := aheadTo_yes hlk ht
          have hlen := aheadTo_len ps block k
          rw [decide_eq_true ht] at HT2
          clear ht
          go_wp2_with (first
            | (go_at_call 25; refine Calls.mono HT2.out ?_; rintro e w2 ⟨rfl, hb2⟩; have HS2 : Hid (w2.ownsRow (w.heap.size + 1) 3 1 u5 (aheadTo ps block k).length ((aheadTo ps block k).map fun y => Value.int .i64 y) ∧ Below w.heap.size w w2 ∧ At w2 w.heap.size #[.slice (some ⟨b, f, none⟩) ps.length cap]) := ⟨row_below' hS.out.1 hb2, hS.out.2.1.trans (hb2.mono hS.out.2.1.size), hS.out.2.2.below hb2 hS.out.2.2.lt⟩; clear hb2 hS HT2)
            | (at_builtin; refine wpList_append_lies _ rfl _ _ 28 rfl (w.heap.size + 1) 3 i0 (.int .i64 0) 1 8 Tryd.underlying28 HI.out.1 HI.out.2.1 HI.out.2.2.1 HI.out.2.2.2 rfl (by decide) _ _ _ rfl (HS2.out.1.alloc _) ⟨w2.heap.size, 0, none⟩ 1 1 [.int .i64 (k : Int)] rfl rfl (World.news_of_block (heap_alloc_new w2 _)) (by simp [Value.oneCell']) (by decide) (by unfold maxLen; omega) (by omega) (by have := HS2.out.2.2.lt; simp; omega) (w2.heap.size + 1) (by simp) ?_; intro g cap' w4 hown1 hgrow hat hlt3))
          go_roundw
          case rel =>
            refine ⟨k + 1, by omega, by go_num, ?_, ?_, ?_⟩
            · rw [hA.out, intL_snoc, List.length_append]; exact hown1
            · exact (HS2.out.2.1.alloc HS2.out.2.1.size _).grown hgrow (by have := HS2.out.2.1.size; simp; omega) (fun b hb => by have := ((HS2.out.1).lt b hb).1; omega)
            · have hF : Fr (fun q => w.heap.size + 1 ≤ q) (w2.alloc (.cells #[.int .i64 (k : Int)] 3)) w4 := ⟨hgrow.os, hgrow.tape, hgrow.output, hgrow.size, fun q hq hx => hgrow.block q hq fun e => hx ((HS2.out.1).lt q e.symm).1⟩
              have hA2 := HS2.out.2.2.alloc (.cells #[.int .i64 (k : Int)] 3)
              exact ⟨fun j v e => by rw [hF.cell hA2.lt (by simp)]; exact hA2.c j v e, fun j => by rw [hF.frozen hA2.lt (by simp)]; exact hA2.f j, Nat.lt_of_lt_of_le hA2.lt hF.size⟩
          case measure => simp [intOf]; omega
        · have hA : Hid (aheadTo ps block (k + 1) = aheadTo ps block k) := aheadTo_no hlk ht
          rw [decide_eq_false ht] at HT2
          clear ht
          go_wp2_with (first
            | (go_at_call 25; refine Calls.mono HT2.out ?_; rintro e w2 ⟨rfl, hb2⟩; have HS2 : Hid (w2.ownsRow (w.heap.size + 1) 3 1 u5 (aheadTo ps block k).length ((aheadTo ps block k).map fun y => Value.int .i64 y) ∧ Below w.heap.size w w2 ∧ At w2 w.heap.size #[.slice (some ⟨b, f, none⟩) ps.length cap]) := ⟨row_below' hS.out.1 hb2, hS.out.2.1.trans (hb2.mono hS.out.2.1.size), hS.out.2.2.below hb2 hS.out.2.2.lt⟩; clear hb2 hS HT2))
          go_roundw
          case rel => exact ⟨k + 1, by omega, by go_num, by rw [hA.out]; exact HS2.out⟩
          case measure => simp [intOf]; omega
      · obtain rfl : k = ps.length := by omega
        go_wp2
        go_ret
        obtain ⟨a, c, e⟩ := row_slice hS.out.1
        exact ⟨_, rfl, a, c, e, (il_row (e ▸ hS.out.1)).low (by omega), hS.out.2.1⟩
  · rw [if_neg hk]
    have hk' : knB ps block = false := by simpa using hk
    rw [hk'] at HK
    clear h hk hb1
    go_enter Tryd.func11, Tryd.ntmps11
    go_wp2_with (first | (go_at_call 22; refine Calls.mono HK.out ?_; rintro e w1 ⟨rfl, hb⟩; obtain ⟨a1, hb0, hz⟩ := one_new w _ _ hb; have HB1 : Hid _ := hb0; clear hb hb0 a1 HK))
    go_ret
    exact ⟨_, rfl, _, _, rfl, Il.nil _ _ _, HB1.out⟩
end Go.Proofs.YtfdmahilgemlaaaDoor.Fl

namespace Go.Proofs.YtfdmahilgemlaaaDoor.Fl
open Go.ChangeShapes Go.WideShapes Go.ChangeAt Go.RowKit
open _root_.Go.Proofs.YtfdmahilgemlaaaDoor.So _root_.Go.Proofs.YtfdmahilgemlaaaDoor.Ss _root_.Go.Proofs.YtfdmahilgemlaaaDoor.Op _root_.Go.Proofs.YtfdmahilgemlaaaDoor.Fw
set_option maxRecDepth 20000

/-- A row of truths in memory. -/
structure Bl (w : World) (q n : Nat) (f : Nat → Bool) : Prop where
  lt : q < w.heap.size
  c : ∀ i, i < n → w.cell? ⟨q, i, none⟩ = some (.bool (f i))
theorem Bl.below {w w' : World} {q n : Nat} {f : Nat → Bool} (h : Bl w q n f) (hb : Below w.heap.size w w') : Bl w' q n f :=
  ⟨Nat.lt_of_lt_of_le h.lt hb.size, fun i hi => by rw [World.cell?_of_block (w := w) (hb.block q h.lt)]; exact h.c i hi⟩
theorem info4 : (Tryd.prog.info? 4).map (fun i => (i.zero, i.size, i.bytes)) = some (some (.bool false), 1, 1) := by kernel_rfl
theorem made_false (n i : Nat) (h : i < n) : (madeCells (#[.bool false] : Array Value) (n * 1)).toList[i]? = some (.bool false) := by
  simp [madeCells, h, Nat.mod_one]
/-- The search in memory: the program's box, what was met, the row. -/
structure Fm (w wr : World) (n : Nat) (pv v : Value) (met : List Bool) (rs : List Nat) : Prop where
  b : Below w.heap.size w wr
  box : wr.cell? ⟨w.heap.size, 0, none⟩ = some pv
  mt : ∀ i, i < n → wr.cell? ⟨w.heap.size + 1, i, none⟩ = some (.bool ((met[i]?).getD false))
  mz : ∀ i, wr.frozen? ⟨w.heap.size + 1, i, none⟩ = false
  lt : w.heap.size + 1 < wr.heap.size
  row : wr.ownsRow (w.heap.size + 2) 3 1 v rs.length (rs.map fun (y : Nat) => Value.int .i64 (y : Int))
theorem Fm.go {w wr w' : World} {n : Nat} {pv v : Value} {met : List Bool} {rs : List Nat} (h : Fm w wr n pv v met rs) (hb : Below wr.heap.size wr w') : Fm w w' n pv v met rs :=
  ⟨h.b.trans (hb.mono h.b.size), by rw [World.cell?_of_block (w := wr) (hb.block _ (by have := h.lt; show w.heap.size < _; omega))]; exact h.box, fun i hi => by rw [World.cell?_of_block (w := wr) (hb.block _ h.lt)]; exact h.mt i hi, fun i => by rw [World.frozen?_of_block (w := wr) (a := ⟨w.heap.size + 1, i, none⟩) (hb.block _ h.lt)]; exact h.mz i, Nat.lt_of_lt_of_le h.lt hb.size, row_below' h.row hb⟩
theorem Fm.mark {w wr : World} {n y : Nat} {pv v : Value} {met : List Bool} {rs : List Nat} (h : Fm w wr n pv v met rs) (hy : y < n) (hl : met.length = n) : Fm w (wr.setCell ⟨w.heap.size + 1, y, none⟩ (.bool true)) n pv v (met.set y true) rs := by
  have hF : Fr (One (w.heap.size + 1)) wr (wr.setCell ⟨w.heap.size + 1, y, none⟩ (.bool true)) := (Fr.refl (One (w.heap.size + 1)) wr).setCell (Or.inr rfl) _ _
  have hlt := h.lt
  refine ⟨h.b.trans (hF.below h.b.size fun k hk e => by have : k = w.heap.size + 1 := e; omega), ?_, fun i hi => ?_, fun i => by rw [World.frozen?_setCell]; exact h.mz i, by simpa using h.lt, ?_⟩
  · rw [hF.cell (by omega) fun e => by have : w.heap.size = w.heap.size + 1 := e; omega]; exact h.box
  · by_cases e : i = y
    · subst e
      rw [World.cell?_setCell_same (h := h.mt i hi), List.getElem?_set_self (by omega)]; rfl
    · rw [World.cell?_setCell_other, h.mt i hi, List.getElem?_set_ne fun e' => e e'.symm]
      intro h'; injection h' with _ h2; exact e h2.symm
  · refine h.row.kept (row := some (w.heap.size + 1)) ⟨rfl, rfl, rfl, by simp, fun k hk hne => Below.heap_setCell _ _ _ _ fun e => hne (by rw [e])⟩ ?_
    cases hv : v.ownBlock with
    | none => left; rfl
    | some g => right; have := (h.row.lt g hv).1; intro e; injection e with e; omega
theorem Fm.push {w wr w1 : World} {n : Nat} {pv v v1 : Value} {met : List Bool} {rs : List Nat} {y : Nat} {o : Obj} (h : Fm w wr n pv v met rs) (ho : w1.ownsRow (w.heap.size + 2) 3 1 v1 (rs.length + 1) (rs.map (fun (y : Nat) => Value.int .i64 (y : Int)) ++ [.int .i64 (y : Int)])) (hg : (wr.alloc o).grownBy w1 v.ownBlock) : Fm w w1 n pv v1 met (rs ++ [y]) := by
  have h2 : Fm w (wr.alloc o) n pv v met rs := h.go ((Below.refl _ _).alloc (Nat.le_refl _) o)
  have hF : Fr (fun q => w.heap.size + 2 ≤ q) (wr.alloc o) w1 := ⟨hg.os, hg.tape, hg.output, hg.size, fun q hq hx => hg.block q hq fun e => hx (h.row.lt q e.symm).1⟩
  have hlt := h2.lt
  exact ⟨h2.b.trans (hF.below h2.b.size fun k hk e => by have : w.heap.size + 2 ≤ k := e; omega), by rw [hF.cell (by omega) (by simp)]; exact h2.box, fun i hi => by rw [hF.cell hlt (by simp)]; exact h2.mt i hi, fun i => by rw [hF.frozen hlt (by simp)]; exact h2.mz i, Nat.lt_of_lt_of_le hlt hF.size, by rw [List.length_append, List.map_append]; exact ho⟩
theorem Fm.start {w wm : World} {n b : Nat} {pv : Value} (hg : (w.alloc (.cells #[pv] 24)).grownBy wm none) (hrow : wm.ownsRow (w.heap.size + 1) 4 1 (.slice (some ⟨w.heap.size + 1, 0, none⟩) n n) n (madeCells (#[.bool false] : Array Value) (n * 1)).toList) :
    Fm w (wm.alloc (.cells #[.int .i64 (b : Int)] 3)) n pv (.slice (some ⟨wm.heap.size, 0, none⟩) 1 1) (List.replicate n false) [b] := by
  have hb0 : Below (w.alloc (.cells #[pv] 24)).heap.size (w.alloc (.cells #[pv] 24)) wm := ⟨hg.os, hg.tape, hg.output, hg.size, fun k hk => hg.block k hk (by simp)⟩
  obtain ⟨a1, hb1, hz⟩ := one_new w _ _ hb0
  have hq : w.heap.size + 1 < wm.heap.size := (hrow.lt _ rfl).2
  have hh : ∃ cur, wm.heap[w.heap.size + 1]? = some (.cells cur 4 (0, 0)) := by
    rcases hrow.2 with ⟨h1, _⟩ | ⟨g, cap, cur, h1, _, h3, _⟩
    · cases h1
    · injection h1 with h1; injection h1 with h1; injection h1 with h1; subst h1; exact ⟨cur, h3⟩
  obtain ⟨cur, hh⟩ := hh
  have hA := (Below.refl _ wm).alloc (Nat.le_refl _) (.cells #[.int .i64 (b : Int)] 3)
  refine ⟨hb1.trans (hA.mono hb1.size), ?_, fun i hi => ?_, fun i => ?_, by simp; omega, ⟨rfl, .inr ⟨wm.heap.size, 1, #[.int .i64 (b : Int)], rfl, by omega, heap_alloc_new wm _, Nat.le_refl _, by unfold maxLen; omega, rfl, rfl⟩⟩⟩
  · rw [World.cell?_of_block (w := wm) (hA.block _ (by show w.heap.size < _; omega))]; exact a1.c 0 _ rfl
  · rw [World.cell?_of_block (w := wm) (hA.block _ hq)]
    have := hrow.cells (g := w.heap.size + 1) rfl i _ (made_false n i hi)
    have e : (⟨w.heap.size + 1, 0, none⟩ : Addr).add i = ⟨w.heap.size + 1, i, none⟩ := by
      by_cases c : i = 0
      · subst c; simp [Addr.add]
      · simp [Addr.add, c]
    rw [e] at this
    rw [this]; simp [hi]
  · rw [World.frozen?_of_block (w := wm) (a := ⟨w.heap.size + 1, i, none⟩) (hA.block _ hq)]
    simp [World.frozen?, hh]

set_option maxHeartbeats 16000000 in
theorem from_any (ao : Option Addr) (cap : Nat) (ps : List Bk) (bl : Nat) (w : World) (h : PAt w ao ps) (hG : Good ps) (hbl : bl < ps.length) :
    Calls Tryd.prog 23 #[.agg #[.slice ao ps.length cap], .int .i64 (bl : Int)] w fun e w' => e = .returned (.slice (some ⟨w.heap.size + 1, 0, none⟩) ps.length ps.length) ∧ Bl w' (w.heap.size + 1) ps.length (wB (tB ps) ps.length bl) ∧ Below w.heap.size w w' := by
  have hle := hG.le
  obtain ⟨b, f, rfl, hlt, hx⟩ := h.is hG.pos
  have HX : Hid (∀ (i : Nat) (h : i < ps.length), ∃ p, BAt w b (f + i * 6) ps[i] p ∧ BIn w ps[i] p) := hx
  have HT : Hid (∀ (x : Bk) (p : Pl) (y : Int) w', x.Ok → Calls Tryd.prog 25 #[x.val p, .int .i64 y] w' fun e w2 => e = .returned (.bool (decide (y ∈ turnL x))) ∧ Below w'.heap.size w' w2) := fun x p y w' hok => refTurns_any x p y w' hok
  obtain ⟨j0, hj, hj2⟩ := Option.map_eq_some_iff.1 info4
  simp only [Prod.mk.injEq] at hj2
  obtain ⟨hy0, hy1, hy2⟩ := hj2
  obtain ⟨wm, hrun, hrow, hgm⟩ := run_makeSlice_full (P := Tryd.prog) (w.alloc (.cells #[.slice (some ⟨b, f, none⟩) ps.length cap] 24)) (w.heap.size + 1) 44 4 j0 (.bool false) 1 Tryd.underlying44 hj hy0 hy1 .i64 .i64 ps.length (by omega) (by rw [hy2]; omega) (by unfold maxLen; omega) (by simp)
  have e1 : (w.alloc (.cells #[.slice (some ⟨b, f, none⟩) ps.length cap] 24)).heap.size = w.heap.size + 1 := by simp
  rw [e1] at hrun hrow
  have HF0 : Hid (Fm w (wm.alloc (.cells #[.int .i64 (bl : Int)] 3)) ps.length (.slice (some ⟨b, f, none⟩) ps.length cap) (.slice (some ⟨wm.heap.size, 0, none⟩) 1 1) (List.replicate ps.length false) [bl]) := Fm.start hgm hrow
  obtain ⟨i0, hi, hi2⟩ := Option.map_eq_some_iff.1 info3
  simp only [Prod.mk.injEq] at hi2
  obtain ⟨hz0, hz1, hz2⟩ := hi2
  have HI : Hid (Tryd.prog.info? 3 = some i0 ∧ i0.zero = some (.int .i64 0) ∧ i0.size = 1 ∧ i0.bytes = 8) := ⟨hi, hz0, hz1, hz2⟩
  clear h hx hi hz0 hz1 hz2 hj hy0 hy1 hy2 hrow hgm e1 hG
  go_enter Tryd.func23, Tryd.ntmps23
  go_wp2
  clear hrun
  go_loopg [6, 7, 8] 400 (fun g1 v vi v8 wr => ∃ (i : Nat) (r : List Nat) (met : List Bool), vi = .int .i64 i ∧ i ≤ r.length + 1 ∧ ps.length + 1 - i < g1 ∧ Hid (Fm w wr ps.length (.slice (some ⟨b, f, none⟩) ps.length cap) v met (bl :: r) ∧ Fi (tB ps) ps.length bl met r i 0))
  case atStart => exact ⟨0, [], _, rfl, by simp, by omega, HF0.out, Fi.init _ _ _⟩
  case round =>
    clear HF0
    obtain ⟨i, r, met, rfl, hi1, hg1, HM⟩ := hrel
    have hrl := HM.out.2.small
    obtain ⟨aV, cV, hV⟩ := row_slice HM.out.1.row
    simp only [List.length_cons] at hV
    subst hV
    by_cases hli : i < r.length + 1
    · have hzi : (i : Int) < (r.length : Int) + 1 := by omega
      have hzd : decide ((i : Int) < (r.length : Int) + 1) = true := decide_eq_true hzi
      obtain ⟨x, hx⟩ : ∃ x, (bl :: r)[i]? = some x := ⟨_, List.getElem?_eq_getElem (by simp; omega)⟩
      have hxn : x < ps.length := by
        rcases HM.out.2.at hx with e | e
        · omega
        · exact HM.out.2.lt x e
      have hXi : Hid ((bl :: r)[i]? = some x) := hx
      clear hx
      obtain ⟨p, hp0, hin⟩ := HX.out x hxn
      have HP : Hid (BAt w b (f + x * 6) ps[x] p) := hp0
      have HT2 : Hid (∀ (y : Nat) W, Calls Tryd.prog 25 #[ps[x].val p, .int .i64 (y : Int)] W fun e w2 => e = .returned (.bool (tB ps x y)) ∧ Below W.heap.size W w2) := fun y W => by rw [tB_of hxn]; exact HT.out ps[x] p (y : Int) W hin.ok
      clear hp0 hin
      go_wp2
      go_loopg [6, 8] 400 (fun g2 v vy wr2 => ∃ (y : Nat) (r : List Nat) (met : List Bool), vy = .int .i64 y ∧ y ≤ ps.length ∧ ps.length - y < g2 ∧ i < r.length + 1 ∧ Hid (Fm w wr2 ps.length (.slice (some ⟨b, f, none⟩) ps.length cap) v met (bl :: r) ∧ Fi (tB ps) ps.length bl met r i y ∧ (bl :: r)[i]? = some x))
      case atStart => exact ⟨0, r, met, rfl, by omega, by omega, hli, HM.out.1, HM.out.2, hXi.out⟩
      case round =>
        clear HM hXi
        rename World => wz
        obtain ⟨y, r, met, rfl, hy, hg2, hli2, HM⟩ := hrel
        have cb := HM.out.1.box
        have hrl2 := HM.out.2.1.small
        obtain ⟨aV, cV, hV⟩ := row_slice HM.out.1.row
        simp only [List.length_cons] at hV
        subst hV
        by_cases hly : y < ps.length
        · have hzy : (y : Int) < (ps.length : Int) := by omega
          obtain ⟨g, rfl⟩ : ∃ g, aV = some ⟨g, 0, none⟩ := by
            rcases HM.out.1.row.2 with ⟨h1, h2⟩ | ⟨g, cp, cur, h1, _⟩
            · simp at h2
            · injection h1 with h1; exact ⟨g, h1⟩
          have hzx : (x : Int) < (ps.length : Int) := by omega
          have hz2 : (i : Int) < ((r.length + 1 : Nat) : Int) := by omega
          have hz3 : (i : Int) < (r.length : Int) + 1 := by omega
          have hcb : Hid (∀ w', Below wz.heap.size wz w' → w'.cell? ⟨w.heap.size, 0, none⟩ = some (.slice (some ⟨b, f, none⟩) ps.length cap)) := fun w' hb => (HM.out.1.go hb).box
          have hcr : Hid (∀ w', Below wz.heap.size wz w' → w'.cell? ⟨g, i, none⟩ = some (.int .i64 (x : Int))) := fun w' hb => by
            have := (HM.out.1.go hb).row.cells (g := g) rfl i (.int .i64 (x : Int)) (by rw [List.getElem?_map, HM.out.2.2]; rfl)
            have e : (⟨g, 0, none⟩ : Addr).add i = ⟨g, i, none⟩ := by
              by_cases c : i = 0
              · subst c; simp [Addr.add]
              · simp [Addr.add, c]
            rw [e] at this
            exact this
          have hcp : Hid (∀ w', Below wz.heap.size wz w' → BAt w' b (f + x * 6) ps[x] p) := fun w' hb => HP.out.below (HM.out.1.go hb).b hlt
          have hml : met.length = ps.length := HM.out.2.1.len
          have hmy : Hid (met[y]? = some met[y]) := List.getElem?_eq_getElem (by omega)
          have hcm0 : Hid (∀ w', Below wz.heap.size wz w' → w'.cell? ⟨w.heap.size + 1, y, none⟩ = some (.bool met[y])) := fun w' hb => by rw [(HM.out.1.go hb).mt y hly, hmy.out]; rfl
          by_cases htv : tB ps x y = true
          · have HT3 : Hid (∀ W, Calls Tryd.prog 25 #[ps[x].val p, .int .i64 (y : Int)] W fun e w2 => e = .returned (.bool true) ∧ Below W.heap.size W w2) := fun W => by rw [← htv]; exact HT2.out y W
            cases hmv : met[y] with
            | false =>
              have hcm : Hid (∀ w', Below wz.heap.size wz w' → w'.cell? ⟨w.heap.size + 1, y, none⟩ = some (.bool false)) := fun w' hb => by rw [hcm0.out w' hb, hmv]
              have HFi : Hid (Fi (tB ps) ps.length bl (met.set y true) (r ++ [y]) i (y + 1) ∧ (bl :: (r ++ [y]))[i]? = some x) := ⟨HM.out.2.1.yes hly HM.out.2.2 htv (by rw [hmy.out, hmv]), by rw [old (by simp; omega)]; exact HM.out.2.2⟩
              clear htv hmv hcm0 hmy HX HT HT2
              go_wp2_with fail
              refine wp_region_held_drew (S := fun w' => Below wz.heap.size wz w') (by kernel_rfl) ((Below.refl _ _).drew) (fun hHeld => ?_)
              refine wpAnyH_take (i := 0) (v := .pointer (some ⟨w.heap.size, 0, none⟩)) rfl (by kernel_rfl) (by kernel_rfl) (by kernel_rfl) (fun _ _ _ h => h) (Or.inl ⟨by rfl, fun w' hSw => by (go_simp)⟩) hHeld ?_
              simp only [Act.put, List.setIfInBounds_toArray, List.set_cons_zero, List.set_cons_succ, List.getElem_cons_zero, List.getElem_toArray]
              refine wpAnyH_take (i := 1) (v := .slice (some ⟨b, f, none⟩) ps.length cap) rfl (by kernel_rfl) (by kernel_rfl) (by kernel_rfl) (fun _ _ _ h => h) (Or.inl ⟨by rfl, fun w' hSw => by (have c0 := hcb.out w' hSw; go_simp)⟩) hHeld ?_
              simp only [Act.put, List.setIfInBounds_toArray, List.set_cons_zero, List.set_cons_succ, List.getElem_cons_zero, List.getElem_cons_succ, List.getElem_toArray]
              refine wpAnyH_take (i := 2) (v := .slice (some ⟨g, 0, none⟩) (r.length + 1) cV) rfl (by kernel_rfl) (by kernel_rfl) (by kernel_rfl) (fun _ _ _ h => h) (Or.inl ⟨by rfl, fun w' hSw => by (go_simp)⟩) hHeld ?_
              simp only [Act.put, List.setIfInBounds_toArray, List.set_cons_zero, List.set_cons_succ, List.getElem_cons_zero, List.getElem_cons_succ, List.getElem_toArray]
              refine wpAnyH_take (i := 3) (v := .int .i64 (i : Int)) rfl (by kernel_rfl) (by kernel_rfl) (by kernel_rfl) (fun _ _ _ h => h) (Or.inl ⟨by rfl, fun w' hSw => by (go_simp)⟩) hHeld ?_
              simp only [Act.put, List.setIfInBounds_toArray, List.set_cons_zero, List.set_cons_succ, List.getElem_cons_zero, List.getElem_cons_succ, List.getElem_toArray]
              refine wpAnyH_take (i := 4) (v := .pointer (some ⟨g, i, none⟩)) rfl (by kernel_rfl) (by kernel_rfl) (by kernel_rfl) (fun _ _ _ h => h) (Or.inl ⟨by rfl, fun w' hSw => by (go_simp)⟩) hHeld ?_
              simp only [Act.put, List.setIfInBounds_toArray, List.set_cons_zero, List.set_cons_succ, List.getElem_cons_zero, List.getElem_cons_succ, List.getElem_toArray]
              refine wpAnyH_take (i := 5) (v := .int .i64 (x : Int)) rfl (by kernel_rfl) (by kernel_rfl) (by kernel_rfl) (fun _ _ _ h => h) (Or.inl ⟨by rfl, fun w' hSw => by (have c0 := hcr.out w' hSw; go_simp)⟩) hHeld ?_
              simp only [Act.put, List.setIfInBounds_toArray, List.set_cons_zero, List.set_cons_succ, List.getElem_cons_zero, List.getElem_cons_succ, List.getElem_toArray]
              refine wpAnyH_take (i := 6) (v := .pointer (some ⟨b, f + x * 6, none⟩)) rfl (by kernel_rfl) (by kernel_rfl) (by kernel_rfl) (fun _ _ _ h => h) (Or.inl ⟨by rfl, fun w' hSw => by (go_simp)⟩) hHeld ?_
              simp only [Act.put, List.setIfInBounds_toArray, List.set_cons_zero, List.set_cons_succ, List.getElem_cons_zero, List.getElem_cons_succ, List.getElem_toArray]
              refine wpAnyH_take (i := 7) (v := ps[x].val p) rfl (by kernel_rfl) (by kernel_rfl) (by kernel_rfl) (fun _ _ _ h => h) (Or.inl ⟨by rfl, fun w' hSw => by (obtain ⟨c0, c1, c2, c3, c4, c5⟩ := hcp.out w' hSw; go_simp)⟩) hHeld ?_
              simp only [Act.put, List.setIfInBounds_toArray, List.set_cons_zero, List.set_cons_succ, List.getElem_cons_zero, List.getElem_cons_succ, List.getElem_toArray]
              refine wpAnyH_take (i := 8) (v := .int .i64 (y : Int)) rfl (by kernel_rfl) (by kernel_rfl) (by kernel_rfl) (fun _ _ _ h => h) (Or.inl ⟨by rfl, fun w' hSw => by (go_simp)⟩) hHeld ?_
              simp only [Act.put, List.setIfInBounds_toArray, List.set_cons_zero, List.set_cons_succ, List.getElem_cons_zero, List.getElem_cons_succ, List.getElem_toArray]
              refine wpAnyH_ready (rs := [9]) (by kernel_rfl) (by simp) ?_
              refine AllReadyH.cons rfl (fun K hK => ?_) AllReadyH.nil
              go_simp
              refine Calls.mono (HT3.out _) ?_
              rintro e w6 ⟨rfl, hb6⟩
              have HB6 : Hid (Below wz.heap.size wz w6) := ((Below.refl _ wz).drew).trans hb6
              have HM6 : Hid (Fm w w6 ps.length (.slice (some ⟨b, f, none⟩) ps.length cap) (.slice (some ⟨g, 0, none⟩) (r.length + 1) cV) met (bl :: r)) := HM.out.1.go HB6.out
              clear hb6
              refine hK.out _ _ HB6.out (fun hHeld => ?_)
              clear hK K
              refine wpAnyH_take (i := 10) (v := .bool true) rfl (by kernel_rfl) (by kernel_rfl) (by kernel_rfl) (fun _ _ _ h => h) (Or.inl ⟨by rfl, fun w' hSw => by (go_simp)⟩) hHeld ?_
              simp only [Act.put, List.setIfInBounds_toArray, List.set_cons_zero, List.set_cons_succ, List.getElem_cons_zero, List.getElem_cons_succ, List.getElem_toArray]
              refine wpAnyH_take (i := 11) (v := .slice (some ⟨w.heap.size + 1, 0, none⟩) ps.length ps.length) rfl (by kernel_rfl) (by kernel_rfl) (by kernel_rfl) (fun _ _ _ h => h) (Or.inl ⟨by rfl, fun w' hSw => by (go_simp)⟩) hHeld ?_
              simp only [Act.put, List.setIfInBounds_toArray, List.set_cons_zero, List.set_cons_succ, List.getElem_cons_zero, List.getElem_cons_succ, List.getElem_toArray]
              refine wpAnyH_take (i := 12) (v := .int .i64 (y : Int)) rfl (by kernel_rfl) (by kernel_rfl) (by kernel_rfl) (fun _ _ _ h => h) (Or.inl ⟨by rfl, fun w' hSw => by (go_simp)⟩) hHeld ?_
              simp only [Act.put, List.setIfInBounds_toArray, List.set_cons_zero, List.set_cons_succ, List.getElem_cons_zero, List.getElem_cons_succ, List.getElem_toArray]
              refine wpAnyH_take (i := 13) (v := .pointer (some ⟨w.heap.size + 1, y, none⟩)) rfl (by kernel_rfl) (by kernel_rfl) (by kernel_rfl) (fun _ _ _ h => h) (Or.inl ⟨by rfl, fun w' hSw => by (go_simp)⟩) hHeld ?_
              simp only [Act.put, List.setIfInBounds_toArray, List.set_cons_zero, List.set_cons_succ, List.getElem_cons_zero, List.getElem_cons_succ, List.getElem_toArray]
              refine wpAnyH_take (i := 14) (v := .bool false) rfl (by kernel_rfl) (by kernel_rfl) (by kernel_rfl) (fun _ _ _ h => h) (Or.inl ⟨by rfl, fun w' hSw => by (have c0 := hcm.out w' hSw; go_simp)⟩) hHeld ?_
              simp only [Act.put, List.setIfInBounds_toArray, List.set_cons_zero, List.set_cons_succ, List.getElem_cons_zero, List.getElem_cons_succ, List.getElem_toArray]
              refine wpAnyH_take (i := 15) (v := .bool true) rfl (by kernel_rfl) (by kernel_rfl) (by kernel_rfl) (fun _ _ _ h => h) (Or.inl ⟨by rfl, fun w' hSw => by (go_simp)⟩) hHeld ?_
              simp only [Act.put, List.setIfInBounds_toArray, List.set_cons_zero, List.set_cons_succ, List.getElem_cons_zero, List.getElem_cons_succ, List.getElem_toArray]
              refine wpAnyH_take (i := 16) (v := .bool true) rfl (by kernel_rfl) (by kernel_rfl) (by kernel_rfl) (fun _ _ _ h => h) (Or.inl ⟨by rfl, fun w' hSw => by (go_simp)⟩) hHeld ?_
              simp only [Act.put, List.setIfInBounds_toArray, List.set_cons_zero, List.set_cons_succ, List.getElem_cons_zero, List.getElem_cons_succ, List.getElem_toArray]
              refine wpAnyH_done (by kernel_rfl) ?_ _
              have cy := hcm.out w6 HB6.out
              have fy := HM6.out.mz y
              have HM7 : Hid (Fm w (w6.setCell ⟨w.heap.size + 1, y, none⟩ (.bool true)) ps.length (.slice (some ⟨b, f, none⟩) ps.length cap) (.slice (some ⟨g, 0, none⟩) (r.length + 1) cV) (met.set y true) (bl :: r)) := HM6.out.mark hly hml
              clear HM HM6 hcb hcr hcp hcm HB6 hHeld HT3
              go_upto_region 11 with (fail)
              clear cy fy
              generalize w6.setCell ⟨w.heap.size + 1, y, none⟩ (.bool true) = w7 at HM7 ⊢
              have hlo := HM7.out.lt
              go_wp2_with (first | (at_builtin; refine wpList_append_lies _ rfl _ _ 28 rfl (w.heap.size + 2) 3 i0 (.int .i64 0) 1 8 Tryd.underlying28 HI.out.1 HI.out.2.1 HI.out.2.2.1 HI.out.2.2.2 rfl (by decide) _ _ _ rfl (HM7.out.row.alloc _) ⟨w7.heap.size, 0, none⟩ 1 1 [.int .i64 (y : Int)] rfl rfl (World.news_of_block (heap_alloc_new w7 _)) (by simp [Value.oneCell']) (by decide) (by unfold maxLen; simp; omega) (by simp; omega) (by simp; omega) (w7.heap.size + 1) (by simp) ?_; intro g2 cap' w8 hown1 hgrow hat hlt3))
              go_roundg (ps.length - y)
              case measure => omega
              case rel => exact ⟨y + 1, r ++ [y], met.set y true, by go_num, by omega, by omega, by simp; omega, HM7.out.push hown1 hgrow, HFi.out.1, HFi.out.2⟩
            | true =>
              have hcm : Hid (∀ w', Below wz.heap.size wz w' → w'.cell? ⟨w.heap.size + 1, y, none⟩ = some (.bool true)) := fun w' hb => by rw [hcm0.out w' hb, hmv]
              have HFi : Hid (Fi (tB ps) ps.length bl met r i (y + 1) ∧ (bl :: r)[i]? = some x) := ⟨HM.out.2.1.no HM.out.2.2 (Or.inr (by rw [hmy.out, hmv])), HM.out.2.2⟩
              clear htv hmv hcm0 hmy HX HT HT2
              go_wp2_with fail
              refine wp_region_held_drew (S := fun w' => Below wz.heap.size wz w') (by kernel_rfl) ((Below.refl _ _).drew) (fun hHeld => ?_)
              refine wpAnyH_take (i := 0) (v := .pointer (some ⟨w.heap.size, 0, none⟩)) rfl (by kernel_rfl) (by kernel_rfl) (by kernel_rfl) (fun _ _ _ h => h) (Or.inl ⟨by rfl, fun w' hSw => by (go_simp)⟩) hHeld ?_
              simp only [Act.put, List.setIfInBounds_toArray, List.set_cons_zero, List.set_cons_succ, List.getElem_cons_zero, List.getElem_toArray]
              refine wpAnyH_take (i := 1) (v := .slice (some ⟨b, f, none⟩) ps.length cap) rfl (by kernel_rfl) (by kernel_rfl) (by kernel_rfl) (fun _ _ _ h => h) (Or.inl ⟨by rfl, fun w' hSw => by (have c0 := hcb.out w' hSw; go_simp)⟩) hHeld ?_
              simp only [Act.put, List.setIfInBounds_toArray, List.set_cons_zero, List.set_cons_succ, List.getElem_cons_zero, List.getElem_cons_succ, List.getElem_toArray]
              refine wpAnyH_take (i := 2) (v := .slice (some ⟨g, 0, none⟩) (r.length + 1) cV) rfl (by kernel_rfl) (by kernel_rfl) (by kernel_rfl) (fun _ _ _ h => h) (Or.inl ⟨by rfl, fun w' hSw => by (go_simp)⟩) hHeld ?_
              simp only [Act.put, List.setIfInBounds_toArray, List.set_cons_zero, List.set_cons_succ, List.getElem_cons_zero, List.getElem_cons_succ, List.getElem_toArray]
              refine wpAnyH_take (i := 3) (v := .int .i64 (i : Int)) rfl (by kernel_rfl) (by kernel_rfl) (by kernel_rfl) (fun _ _ _ h => h) (Or.inl ⟨by rfl, fun w' hSw => by (go_simp)⟩) hHeld ?_
              simp only [Act.put, List.setIfInBounds_toArray, List.set_cons_zero, List.set_cons_succ, List.getElem_cons_zero, List.getElem_cons_succ, List.getElem_toArray]
              refine wpAnyH_take (i := 4) (v := .pointer (some ⟨g, i, none⟩)) rfl (by kernel_rfl) (by kernel_rfl) (by kernel_rfl) (fun _ _ _ h => h) (Or.inl ⟨by rfl, fun w' hSw => by (go_simp)⟩) hHeld ?_
              simp only [Act.put, List.setIfInBounds_toArray, List.set_cons_zero, List.set_cons_succ, List.getElem_cons_zero, List.getElem_cons_succ, List.getElem_toArray]
              refine wpAnyH_take (i := 5) (v := .int .i64 (x : Int)) rfl (by kernel_rfl) (by kernel_rfl) (by kernel_rfl) (fun _ _ _ h => h) (Or.inl ⟨by rfl, fun w' hSw => by (have c0 := hcr.out w' hSw; go_simp)⟩) hHeld ?_
              simp only [Act.put, List.setIfInBounds_toArray, List.set_cons_zero, List.set_cons_succ, List.getElem_cons_zero, List.getElem_cons_succ, List.getElem_toArray]
              refine wpAnyH_take (i := 6) (v := .pointer (some ⟨b, f + x * 6, none⟩)) rfl (by kernel_rfl) (by kernel_rfl) (by kernel_rfl) (fun _ _ _ h => h) (Or.inl ⟨by rfl, fun w' hSw => by (go_simp)⟩) hHeld ?_
              simp only [Act.put, List.setIfInBounds_toArray, List.set_cons_zero, List.set_cons_succ, List.getElem_cons_zero, List.getElem_cons_succ, List.getElem_toArray]
              refine wpAnyH_take (i := 7) (v := ps[x].val p) rfl (by kernel_rfl) (by kernel_rfl) (by kernel_rfl) (fun _ _ _ h => h) (Or.inl ⟨by rfl, fun w' hSw => by (obtain ⟨c0, c1, c2, c3, c4, c5⟩ := hcp.out w' hSw; go_simp)⟩) hHeld ?_
              simp only [Act.put, List.setIfInBounds_toArray, List.set_cons_zero, List.set_cons_succ, List.getElem_cons_zero, List.getElem_cons_succ, List.getElem_toArray]
              refine wpAnyH_take (i := 8) (v := .int .i64 (y : Int)) rfl (by kernel_rfl) (by kernel_rfl) (by kernel_rfl) (fun _ _ _ h => h) (Or.inl ⟨by rfl, fun w' hSw => by (go_simp)⟩) hHeld ?_
              simp only [Act.put, List.setIfInBounds_toArray, List.set_cons_zero, List.set_cons_succ, List.getElem_cons_zero, List.getElem_cons_succ, List.getElem_toArray]
              refine wpAnyH_ready (rs := [9]) (by kernel_rfl) (by simp) ?_
              refine AllReadyH.cons rfl (fun K hK => ?_) AllReadyH.nil
              go_simp
              refine Calls.mono (HT3.out _) ?_
              rintro e w6 ⟨rfl, hb6⟩
              have HB6 : Hid (Below wz.heap.size wz w6) := ((Below.refl _ wz).drew).trans hb6
              have HM6 : Hid (Fm w w6 ps.length (.slice (some ⟨b, f, none⟩) ps.length cap) (.slice (some ⟨g, 0, none⟩) (r.length + 1) cV) met (bl :: r)) := HM.out.1.go HB6.out
              clear hb6
              refine hK.out _ _ HB6.out (fun hHeld => ?_)
              clear hK K
              refine wpAnyH_take (i := 10) (v := .bool true) rfl (by kernel_rfl) (by kernel_rfl) (by kernel_rfl) (fun _ _ _ h => h) (Or.inl ⟨by rfl, fun w' hSw => by (go_simp)⟩) hHeld ?_
              simp only [Act.put, List.setIfInBounds_toArray, List.set_cons_zero, List.set_cons_succ, List.getElem_cons_zero, List.getElem_cons_succ, List.getElem_toArray]
              refine wpAnyH_take (i := 11) (v := .slice (some ⟨w.heap.size + 1, 0, none⟩) ps.length ps.length) rfl (by kernel_rfl) (by kernel_rfl) (by kernel_rfl) (fun _ _ _ h => h) (Or.inl ⟨by rfl, fun w' hSw => by (go_simp)⟩) hHeld ?_
              simp only [Act.put, List.setIfInBounds_toArray, List.set_cons_zero, List.set_cons_succ, List.getElem_cons_zero, List.getElem_cons_succ, List.getElem_toArray]
              refine wpAnyH_take (i := 12) (v := .int .i64 (y : Int)) rfl (by kernel_rfl) (by kernel_rfl) (by kernel_rfl) (fun _ _ _ h => h) (Or.inl ⟨by rfl, fun w' hSw => by (go_simp)⟩) hHeld ?_
              simp only [Act.put, List.setIfInBounds_toArray, List.set_cons_zero, List.set_cons_succ, List.getElem_cons_zero, List.getElem_cons_succ, List.getElem_toArray]
              refine wpAnyH_take (i := 13) (v := .pointer (some ⟨w.heap.size + 1, y, none⟩)) rfl (by kernel_rfl) (by kernel_rfl) (by kernel_rfl) (fun _ _ _ h => h) (Or.inl ⟨by rfl, fun w' hSw => by (go_simp)⟩) hHeld ?_
              simp only [Act.put, List.setIfInBounds_toArray, List.set_cons_zero, List.set_cons_succ, List.getElem_cons_zero, List.getElem_cons_succ, List.getElem_toArray]
              refine wpAnyH_take (i := 14) (v := .bool true) rfl (by kernel_rfl) (by kernel_rfl) (by kernel_rfl) (fun _ _ _ h => h) (Or.inl ⟨by rfl, fun w' hSw => by (have c0 := hcm.out w' hSw; go_simp)⟩) hHeld ?_
              simp only [Act.put, List.setIfInBounds_toArray, List.set_cons_zero, List.set_cons_succ, List.getElem_cons_zero, List.getElem_cons_succ, List.getElem_toArray]
              refine wpAnyH_take (i := 15) (v := .bool false) rfl (by kernel_rfl) (by kernel_rfl) (by kernel_rfl) (fun _ _ _ h => h) (Or.inl ⟨by rfl, fun w' hSw => by (go_simp)⟩) hHeld ?_
              simp only [Act.put, List.setIfInBounds_toArray, List.set_cons_zero, List.set_cons_succ, List.getElem_cons_zero, List.getElem_cons_succ, List.getElem_toArray]
              refine wpAnyH_take (i := 16) (v := .bool false) rfl (by kernel_rfl) (by kernel_rfl) (by kernel_rfl) (fun _ _ _ h => h) (Or.inl ⟨by rfl, fun w' hSw => by (go_simp)⟩) hHeld ?_
              simp only [Act.put, List.setIfInBounds_toArray, List.set_cons_zero, List.set_cons_succ, List.getElem_cons_zero, List.getElem_cons_succ, List.getElem_toArray]
              refine wpAnyH_done (by kernel_rfl) ?_ _
              clear HM hcb hcr hcp hcm HB6 hHeld HT3
              go_wp2
              go_roundg (ps.length - y)
              case measure => omega
              case rel => exact ⟨y + 1, r, met, by go_num, by omega, by omega, by omega, HM6.out, HFi.out.1, HFi.out.2⟩
          · have htf : tB ps x y = false := by simpa using htv
            have HT3 : Hid (∀ W, Calls Tryd.prog 25 #[ps[x].val p, .int .i64 (y : Int)] W fun e w2 => e = .returned (.bool false) ∧ Below W.heap.size W w2) := fun W => by rw [← htf]; exact HT2.out y W
            have HFi : Hid (Fi (tB ps) ps.length bl met r i (y + 1) ∧ (bl :: r)[i]? = some x) := ⟨HM.out.2.1.no HM.out.2.2 (Or.inl htf), HM.out.2.2⟩
            clear htv htf hcm0 hmy HX HT HT2
            go_wp2_with fail
            refine wp_region_held_drew (S := fun w' => Below wz.heap.size wz w') (by kernel_rfl) ((Below.refl _ _).drew) (fun hHeld => ?_)
            refine wpAnyH_take (i := 0) (v := .pointer (some ⟨w.heap.size, 0, none⟩)) rfl (by kernel_rfl) (by kernel_rfl) (by kernel_rfl) (fun _ _ _ h => h) (Or.inl ⟨by rfl, fun w' hSw => by (go_simp)⟩) hHeld ?_
            simp only [Act.put, List.setIfInBounds_toArray, List.set_cons_zero, List.set_cons_succ, List.getElem_cons_zero, List.getElem_toArray]
            refine wpAnyH_take (i := 1) (v := .slice (some ⟨b, f, none⟩) ps.length cap) rfl (by kernel_rfl) (by kernel_rfl) (by kernel_rfl) (fun _ _ _ h => h) (Or.inl ⟨by rfl, fun w' hSw => by (have c0 := hcb.out w' hSw; go_simp)⟩) hHeld ?_
            simp only [Act.put, List.setIfInBounds_toArray, List.set_cons_zero, List.set_cons_succ, List.getElem_cons_zero, List.getElem_cons_succ, List.getElem_toArray]
            refine wpAnyH_take (i := 2) (v := .slice (some ⟨g, 0, none⟩) (r.length + 1) cV) rfl (by kernel_rfl) (by kernel_rfl) (by kernel_rfl) (fun _ _ _ h => h) (Or.inl ⟨by rfl, fun w' hSw => by (go_simp)⟩) hHeld ?_
            simp only [Act.put, List.setIfInBounds_toArray, List.set_cons_zero, List.set_cons_succ, List.getElem_cons_zero, List.getElem_cons_succ, List.getElem_toArray]
            refine wpAnyH_take (i := 3) (v := .int .i64 (i : Int)) rfl (by kernel_rfl) (by kernel_rfl) (by kernel_rfl) (fun _ _ _ h => h) (Or.inl ⟨by rfl, fun w' hSw => by (go_simp)⟩) hHeld ?_
            simp only [Act.put, List.setIfInBounds_toArray, List.set_cons_zero, List.set_cons_succ, List.getElem_cons_zero, List.getElem_cons_succ, List.getElem_toArray]
            refine wpAnyH_take (i := 4) (v := .pointer (some ⟨g, i, none⟩)) rfl (by kernel_rfl) (by kernel_rfl) (by kernel_rfl) (fun _ _ _ h => h) (Or.inl ⟨by rfl, fun w' hSw => by (go_simp)⟩) hHeld ?_
            simp only [Act.put, List.setIfInBounds_toArray, List.set_cons_zero, List.set_cons_succ, List.getElem_cons_zero, List.getElem_cons_succ, List.getElem_toArray]
            refine wpAnyH_take (i := 5) (v := .int .i64 (x : Int)) rfl (by kernel_rfl) (by kernel_rfl) (by kernel_rfl) (fun _ _ _ h => h) (Or.inl ⟨by rfl, fun w' hSw => by (have c0 := hcr.out w' hSw; go_simp)⟩) hHeld ?_
            simp only [Act.put, List.setIfInBounds_toArray, List.set_cons_zero, List.set_cons_succ, List.getElem_cons_zero, List.getElem_cons_succ, List.getElem_toArray]
            refine wpAnyH_take (i := 6) (v := .pointer (some ⟨b, f + x * 6, none⟩)) rfl (by kernel_rfl) (by kernel_rfl) (by kernel_rfl) (fun _ _ _ h => h) (Or.inl ⟨by rfl, fun w' hSw => by (go_simp)⟩) hHeld ?_
            simp only [Act.put, List.setIfInBounds_toArray, List.set_cons_zero, List.set_cons_succ, List.getElem_cons_zero, List.getElem_cons_succ, List.getElem_toArray]
            refine wpAnyH_take (i := 7) (v := ps[x].val p) rfl (by kernel_rfl) (by kernel_rfl) (by kernel_rfl) (fun _ _ _ h => h) (Or.inl ⟨by rfl, fun w' hSw => by (obtain ⟨c0, c1, c2, c3, c4, c5⟩ := hcp.out w' hSw; go_simp)⟩) hHeld ?_
            simp only [Act.put, List.setIfInBounds_toArray, List.set_cons_zero, List.set_cons_succ, List.getElem_cons_zero, List.getElem_cons_succ, List.getElem_toArray]
            refine wpAnyH_take (i := 8) (v := .int .i64 (y : Int)) rfl (by kernel_rfl) (by kernel_rfl) (by kernel_rfl) (fun _ _ _ h => h) (Or.inl ⟨by rfl, fun w' hSw => by (go_simp)⟩) hHeld ?_
            simp only [Act.put, List.setIfInBounds_toArray, List.set_cons_zero, List.set_cons_succ, List.getElem_cons_zero, List.getElem_cons_succ, List.getElem_toArray]
            refine wpAnyH_ready (rs := [9]) (by kernel_rfl) (by simp) ?_
            refine AllReadyH.cons rfl (fun K hK => ?_) AllReadyH.nil
            go_simp
            refine Calls.mono (HT3.out _) ?_
            rintro e w6 ⟨rfl, hb6⟩
            have HB6 : Hid (Below wz.heap.size wz w6) := ((Below.refl _ wz).drew).trans hb6
            have HM6 : Hid (Fm w w6 ps.length (.slice (some ⟨b, f, none⟩) ps.length cap) (.slice (some ⟨g, 0, none⟩) (r.length + 1) cV) met (bl :: r)) := HM.out.1.go HB6.out
            clear hb6
            refine hK.out _ _ HB6.out (fun hHeld => ?_)
            clear hK K
            refine wpAnyH_take (i := 10) (v := .bool false) rfl (by kernel_rfl) (by kernel_rfl) (by kernel_rfl) (fun _ _ _ h => h) (Or.inl ⟨by rfl, fun w' hSw => by (go_simp)⟩) hHeld ?_
            simp only [Act.put, List.setIfInBounds_toArray, List.set_cons_zero, List.set_cons_succ, List.getElem_cons_zero, List.getElem_cons_succ, List.getElem_toArray]
            refine wpAnyH_take (i := 11) (v := undef) rfl (by kernel_rfl) (by kernel_rfl) (by kernel_rfl) (fun _ _ _ h => h) (Or.inr ⟨by rfl, rfl⟩) hHeld ?_
            simp only [Act.put, List.setIfInBounds_toArray, List.set_cons_zero, List.set_cons_succ, List.getElem_cons_zero, List.getElem_cons_succ, List.getElem_toArray]
            refine wpAnyH_take (i := 12) (v := undef) rfl (by kernel_rfl) (by kernel_rfl) (by kernel_rfl) (fun _ _ _ h => h) (Or.inr ⟨by rfl, rfl⟩) hHeld ?_
            simp only [Act.put, List.setIfInBounds_toArray, List.set_cons_zero, List.set_cons_succ, List.getElem_cons_zero, List.getElem_cons_succ, List.getElem_toArray]
            refine wpAnyH_take (i := 13) (v := undef) rfl (by kernel_rfl) (by kernel_rfl) (by kernel_rfl) (fun _ _ _ h => h) (Or.inr ⟨by rfl, rfl⟩) hHeld ?_
            simp only [Act.put, List.setIfInBounds_toArray, List.set_cons_zero, List.set_cons_succ, List.getElem_cons_zero, List.getElem_cons_succ, List.getElem_toArray]
            refine wpAnyH_take (i := 14) (v := undef) rfl (by kernel_rfl) (by kernel_rfl) (by kernel_rfl) (fun _ _ _ h => h) (Or.inr ⟨by rfl, rfl⟩) hHeld ?_
            simp only [Act.put, List.setIfInBounds_toArray, List.set_cons_zero, List.set_cons_succ, List.getElem_cons_zero, List.getElem_cons_succ, List.getElem_toArray]
            refine wpAnyH_take (i := 15) (v := undef) rfl (by kernel_rfl) (by kernel_rfl) (by kernel_rfl) (fun _ _ _ h => h) (Or.inr ⟨by rfl, rfl⟩) hHeld ?_
            simp only [Act.put, List.setIfInBounds_toArray, List.set_cons_zero, List.set_cons_succ, List.getElem_cons_zero, List.getElem_cons_succ, List.getElem_toArray]
            refine wpAnyH_take (i := 16) (v := .bool false) rfl (by kernel_rfl) (by kernel_rfl) (by kernel_rfl) (fun _ _ _ h => h) (Or.inl ⟨by rfl, fun w' hSw => by (go_simp)⟩) hHeld ?_
            simp only [Act.put, List.setIfInBounds_toArray, List.set_cons_zero, List.set_cons_succ, List.getElem_cons_zero, List.getElem_cons_succ, List.getElem_toArray]
            refine wpAnyH_done (by kernel_rfl) ?_ _
            clear HM hcb hcr hcp HB6 hHeld HT3
            go_wp2
            go_roundg (ps.length - y)
            case measure => omega
            case rel => exact ⟨y + 1, r, met, by go_num, by omega, by omega, by omega, HM6.out, HFi.out.1, HFi.out.2⟩
        · have hzy : ¬ (y : Int) < (ps.length : Int) := by omega
          have HM2 : Hid (Fm w wz ps.length (.slice (some ⟨b, f, none⟩) ps.length cap) (.slice aV (r.length + 1) cV) met (bl :: r) ∧ Fi (tB ps) ps.length bl met r (i + 1) 0) := ⟨HM.out.1, HM.out.2.1.turn (by omega)⟩
          clear HM
          go_wp2
          go_roundg (ps.length + 1 - i)
          case measure => omega
          case rel => exact ⟨i + 1, r, met, by go_num, by omega, by omega, HM2.out⟩
    · have hzi : ¬ (i : Int) < (r.length : Int) + 1 := by omega
      have HB : Hid (Bl wr (w.heap.size + 1) ps.length (wB (tB ps) ps.length bl) ∧ Below w.heap.size w wr) := ⟨⟨HM.out.1.lt, fun k hk => by
        rw [HM.out.1.mt k hk, HM.out.2.met (by omega)]
        simp [hk]⟩, HM.out.1.b⟩
      clear HM
      go_wp2
      go_ret
      exact ⟨rfl, HB.out⟩
end Go.Proofs.YtfdmahilgemlaaaDoor.Fl

namespace Go.Proofs.YtfdmahilgemlaaaDoor.Fl
open Go.ChangeShapes Go.WideShapes Go.ChangeAt Go.RowKit
open _root_.Go.Proofs.YtfdmahilgemlaaaDoor.So _root_.Go.Proofs.YtfdmahilgemlaaaDoor.Ss _root_.Go.Proofs.YtfdmahilgemlaaaDoor.Op _root_.Go.Proofs.YtfdmahilgemlaaaDoor.Fw
set_option maxRecDepth 20000

/-- What is marked of the first k, or comes first. -/
def markTo (f : Nat → Bool) (k : Nat) : List Int := ((List.range k).filter fun i => f i || i == 0).map fun (i : Nat) => (i : Int)
theorem markTo_yes {f : Nat → Bool} {k : Nat} (h : (f k || k == 0) = true) : markTo f (k + 1) = markTo f k ++ [(k : Int)] := by
  unfold markTo
  rw [List.range_succ, List.filter_append, List.map_append]
  simp [h]
theorem markTo_no {f : Nat → Bool} {k : Nat} (h : (f k || k == 0) = false) : markTo f (k + 1) = markTo f k := by
  unfold markTo
  rw [List.range_succ, List.filter_append, List.map_append]
  simp [h]
theorem markTo_len (f : Nat → Bool) (k : Nat) : (markTo f k).length ≤ k := by
  unfold markTo
  rw [List.length_map]
  have := List.length_filter_le (fun i => f i || i == 0) (List.range k)
  simpa using this
/-- A list of numbers under way, beside a row of truths. -/
structure Rm (w wr : World) (q n : Nat) (f : Nat → Bool) (v : Value) (acc : List Int) : Prop where
  row : wr.ownsRow (q + 1) 3 1 v acc.length (acc.map fun y => Value.int .i64 y)
  b : Below w.heap.size w wr
  m : Bl wr q n f
  lo : w.heap.size ≤ q
theorem Rm.put {w wr w1 : World} {q n : Nat} {f : Nat → Bool} {v v1 : Value} {acc : List Int} {x : Int} {o : Obj} (h : Rm w wr q n f v acc) (ho : w1.ownsRow (q + 1) 3 1 v1 (acc.length + 1) (acc.map (fun y => Value.int .i64 y) ++ [.int .i64 x])) (hg : (wr.alloc o).grownBy w1 v.ownBlock) : Rm w w1 q n f v1 (acc ++ [x]) := by
  have hA := (Below.refl _ wr).alloc (Nat.le_refl _) o
  have hF : Fr (fun k => q + 1 ≤ k) (wr.alloc o) w1 := ⟨hg.os, hg.tape, hg.output, hg.size, fun k hk hx => hg.block k hk fun e => hx (h.row.lt k e.symm).1⟩
  have hm := h.m.below hA
  have hlo := h.lo
  refine ⟨by rw [intL_snoc, List.length_append]; exact ho, (h.b.alloc h.b.size _).grown hg (by have := h.b.size; simp; omega) (fun b hb => by have := (h.row.lt b hb).1; omega), ⟨Nat.lt_of_lt_of_le hm.lt hF.size, fun i hi => by rw [hF.cell hm.lt (by simp)]; exact hm.c i hi⟩, h.lo⟩

set_option maxHeartbeats 4000000 in
theorem refReached_any (ao : Option Addr) (cap : Nat) (ps : List Bk) (w : World) (h : PAt w ao ps) :
    Calls Tryd.prog 13 #[.agg #[.slice ao ps.length cap]] w fun e w' => ∃ v, e = .returned v ∧ Got w w' v (reachI ps) := by
  have hb1 : Below w.heap.size w (w.alloc (.cells #[.slice ao ps.length cap] 24)) := by go_grown
  have HK : Hid (Calls Tryd.prog 22 #[.agg #[.slice ao ps.length cap], .int .i64 0] (w.alloc (.cells #[.slice ao ps.length cap] 24)) fun e w' => e = .returned (.bool (knB ps 0)) ∧ Below (w.alloc (.cells #[.slice ao ps.length cap] 24)).heap.size (w.alloc (.cells #[.slice ao ps.length cap] 24)) w') := right_any ao cap ps 0 _ (h.below hb1)
  unfold reachI
  by_cases hk : knB ps 0 = true
  · rw [if_pos hk]
    rw [hk] at HK
    have hk' := hk
    unfold knB at hk'
    simp only [Bool.and_eq_true, decide_eq_true_eq] at hk'
    have hG := good_of hk'.2
    have hpos := hG.pos
    have hle := hG.le
    have HF : Hid (∀ W, Below w.heap.size w W → Calls Tryd.prog 23 #[.agg #[.slice ao ps.length cap], .int .i64 0] W fun e w' => e = .returned (.slice (some ⟨W.heap.size + 1, 0, none⟩) ps.length ps.length) ∧ Bl w' (W.heap.size + 1) ps.length (wB (tB ps) ps.length 0) ∧ Below W.heap.size W w') := fun W hb => from_any ao cap ps 0 W (h.below hb) hG hpos
    have hE : Hid ((reachL (tB ps) ps.length).map (fun (i : Nat) => (i : Int)) = markTo (wB (tB ps) ps.length 0) ps.length) := rfl
    rw [hE.out]
    obtain ⟨i0, hi, hi2⟩ := Option.map_eq_some_iff.1 info3
    simp only [Prod.mk.injEq] at hi2
    obtain ⟨hz0, hz1, hz2⟩ := hi2
    have HI : Hid (Tryd.prog.info? 3 = some i0 ∧ i0.zero = some (.int .i64 0) ∧ i0.size = 1 ∧ i0.bytes = 8) := ⟨hi, hz0, hz1, hz2⟩
    generalize wB (tB ps) ps.length 0 = F at *
    clear h hk hb1 hi hz0 hz1 hz2 hk' hG hE
    go_enter Tryd.func13, Tryd.ntmps13
    go_wp2_with (first
      | (go_at_call 22; refine Calls.mono HK.out ?_; rintro e w1 ⟨rfl, hb⟩; obtain ⟨a1, hb0, hz⟩ := one_new w _ _ hb; have HB1 : Hid (Below w.heap.size w w1) := hb0; have cb := a1.c 0 _ rfl; clear hb hb0 a1 HK)
      | (go_at_call 23; refine Calls.mono (HF.out _ HB1.out) ?_; rintro e w2 ⟨rfl, hB, hb⟩; have HR0 : Hid (Rm w w2 (w1.heap.size + 1) ps.length F (.slice none 0 0) []) := ⟨World.ownsRow_nil _ _ _ _, HB1.out.trans (hb.mono HB1.out.size), hB, by have := HB1.out.size; omega⟩; clear hB hb HF cb HB1))
    generalize w1.heap.size + 1 = q at *
    go_loopw [4, 5] (fun v vi wr => ∃ (k : Nat), k ≤ ps.length ∧ vi = .int .i64 k ∧ Hid (Rm w wr q ps.length F v (markTo F k))) (fun _ vi _ => ps.length - (intOf vi).toNat)
    case atStart => exact ⟨0, by omega, rfl, HR0.out⟩
    case round =>
      rename_i wr
      clear HR0
      obtain ⟨k, hk, rfl, hS⟩ := hrel
      by_cases hlk : k < ps.length
      · have cm := hS.out.m.c k hlk
        have hlen := markTo_len F k
        have hlo := hS.out.m.lt
        cases hFk : F k with
        | true =>
          have hA : Hid (markTo F (k + 1) = markTo F k ++ [(k : Int)]) := markTo_yes (by rw [hFk]; rfl)
          rw [hFk] at cm
          clear hFk
          go_wp2_with (first
            | (at_builtin; refine wpList_append_lies _ rfl _ _ 28 rfl (q + 1) 3 i0 (.int .i64 0) 1 8 Tryd.underlying28 HI.out.1 HI.out.2.1 HI.out.2.2.1 HI.out.2.2.2 rfl (by decide) _ _ _ rfl (hS.out.row.alloc _) ⟨wr.heap.size, 0, none⟩ 1 1 [.int .i64 (k : Int)] rfl rfl (World.news_of_block (heap_alloc_new wr _)) (by simp [Value.oneCell']) (by decide) (by unfold maxLen; omega) (by omega) (by simp; omega) (wr.heap.size + 1) (by simp) ?_; intro g cap' w4 hown1 hgrow hat hlt3))
          go_roundw
          case rel => exact ⟨k + 1, by omega, by go_num, by rw [hA.out]; exact hS.out.put hown1 hgrow⟩
          case measure => simp [intOf]; omega
        | false =>
          rw [hFk] at cm
          by_cases hk0 : k = 0
          · subst hk0
            have hA : Hid (markTo F (0 + 1) = markTo F 0 ++ [((0 : Nat) : Int)]) := markTo_yes (by simp)
            clear hFk
            go_wp2_with (first
              | (at_builtin; refine wpList_append_lies _ rfl _ _ 28 rfl (q + 1) 3 i0 (.int .i64 0) 1 8 Tryd.underlying28 HI.out.1 HI.out.2.1 HI.out.2.2.1 HI.out.2.2.2 rfl (by decide) _ _ _ rfl (hS.out.row.alloc _) ⟨wr.heap.size, 0, none⟩ 1 1 [.int .i64 0] rfl rfl (World.news_of_block (heap_alloc_new wr _)) (by simp [Value.oneCell']) (by decide) (by unfold maxLen; omega) (by omega) (by simp; omega) (wr.heap.size + 1) (by simp) ?_; intro g cap' w4 hown1 hgrow hat hlt3))
            go_roundw
            case rel => exact ⟨1, by omega, rfl, by have := hS.out.put hown1 hgrow; rw [show (1 : Nat) = 0 + 1 from rfl, hA.out]; exact this⟩
            case measure => simp [intOf]; omega
          · have hA : Hid (markTo F (k + 1) = markTo F k) := markTo_no (by rw [hFk]; simp; exact hk0)
            have hkb : ((k : Int) == 0) = false := by rw [beq_eq_false_iff_ne]; omega
            clear hFk
            go_wp2
            go_roundw
            case rel => exact ⟨k + 1, by omega, by go_num, by rw [hA.out]; exact hS.out⟩
            case measure => simp [intOf]; omega
      · obtain rfl : k = ps.length := by omega
        go_wp2
        go_ret
        obtain ⟨a, c, e⟩ := row_slice hS.out.row
        exact ⟨_, rfl, a, c, e, (il_row (e ▸ hS.out.row)).low (by have := hS.out.lo; omega), hS.out.b⟩
  · rw [if_neg hk]
    have hk' : knB ps 0 = false := by simpa using hk
    rw [hk'] at HK
    clear h hk hb1
    go_enter Tryd.func13, Tryd.ntmps13
    go_wp2_with (first | (go_at_call 22; refine Calls.mono HK.out ?_; rintro e w1 ⟨rfl, hb⟩; obtain ⟨a1, hb0, hz⟩ := one_new w _ _ hb; have HB1 : Hid _ := hb0; clear hb hb0 a1 HK))
    go_ret
    exact ⟨_, rfl, _, _, rfl, Il.nil _ _ _, HB1.out⟩
end Go.Proofs.YtfdmahilgemlaaaDoor.Fl

namespace Go.Proofs.YtfdmahilgemlaaaDoor.Fl
open Go.ChangeShapes Go.WideShapes Go.ChangeAt Go.RowKit
open _root_.Go.Proofs.YtfdmahilgemlaaaDoor.So _root_.Go.Proofs.YtfdmahilgemlaaaDoor.Ss _root_.Go.Proofs.YtfdmahilgemlaaaDoor.Op _root_.Go.Proofs.YtfdmahilgemlaaaDoor.Fw
set_option maxRecDepth 20000

theorem info44 : (Tryd.prog.info? 44).map (fun i => (i.zero, i.size, i.bytes)) = some (some (.slice none 0 0), 1, 24) := by kernel_rfl
theorem add_cell (g k : Nat) : (⟨g, 0, none⟩ : Addr).add k = ⟨g, k, none⟩ := by
  by_cases c : k = 0
  · subst c; simp [Addr.add]
  · simp [Addr.add, c]
theorem row_fr' {X : Nat → Prop} {w w' : World} {B : Nat} {e : TypeId} {z : Nat} {v : Value} {n : Nat} {xs : List Value} (h : w.ownsRow B e z v n xs) (g : Fr X w w') (hX : ∀ b, v.ownBlock = some b → ¬ X b) : w'.ownsRow B e z v n xs := by
  refine ⟨h.1, ?_⟩
  rcases h.2 with h1 | ⟨b, cap, cur, h1, h2, h3, h4⟩
  · exact .inl h1
  · refine .inr ⟨b, cap, cur, h1, h2, ?_, h4⟩
    rw [g.block b (h.lt b (by rw [h1]; rfl)).2 (hX b (by rw [h1]; rfl))]
    exact h3
theorem Bl.fr {X : Nat → Prop} {w w' : World} {q n : Nat} {f : Nat → Bool} (h : Bl w q n f) (g : Fr X w w') (hX : ¬ X q) : Bl w' q n f :=
  ⟨Nat.lt_of_lt_of_le h.lt g.size, fun i hi => by rw [g.cell h.lt hX]; exact h.c i hi⟩
/-- What is met from each of the first blocks. -/
structure Q1 (w wr : World) (n : Nat) (pv : Value) (F : Nat → Nat → Bool) (v : Value) (qs : List Nat) : Prop where
  row : wr.ownsRow (w.heap.size + 1) 44 1 v qs.length (qs.map fun q => Value.slice (some ⟨q, 0, none⟩) n n)
  b : Below w.heap.size w wr
  box : wr.cell? ⟨w.heap.size, 0, none⟩ = some pv
  hw : w.heap.size < wr.heap.size
  el : ∀ j (hj : j < qs.length), Bl wr qs[j] n (F j) ∧ v.ownBlock ≠ some qs[j]
theorem Q1.put {w wr w2 w3 : World} {n q g cp : Nat} {pv v : Value} {F : Nat → Nat → Bool} {qs : List Nat} {o : Obj} (h : Q1 w wr n pv F v qs) (hb : Below wr.heap.size wr w2) (hq : wr.heap.size ≤ q) (hB : Bl w2 q n (F qs.length))
    (ho : w3.ownsRow (w.heap.size + 1) 44 1 (.slice (some ⟨g, 0, none⟩) (qs.length + 1) cp) (qs.length + 1) (qs.map (fun q => Value.slice (some ⟨q, 0, none⟩) n n) ++ [.slice (some ⟨q, 0, none⟩) n n])) (hg : (w2.alloc o).grownBy w3 v.ownBlock) (hat : v.ownBlock = some g ∨ g = w2.heap.size + 1) :
    Q1 w w3 n pv F (.slice (some ⟨g, 0, none⟩) (qs.length + 1) cp) (qs ++ [q]) := by
  have hA : Below wr.heap.size wr (w2.alloc o) := hb.alloc hb.size o
  have hF : Fr (fun k => v.ownBlock = some k) (w2.alloc o) w3 := ⟨hg.os, hg.tape, hg.output, hg.size, fun k hk hx => hg.block k hk fun e => hx e.symm⟩
  have hbs := h.b.size
  have hws := h.hw
  have hrow : ∀ k, v.ownBlock = some k → w.heap.size + 1 ≤ k ∧ k < wr.heap.size := fun k e => h.row.lt k e
  refine ⟨by rw [List.length_append, List.map_append]; exact ho, ?_, ?_, Nat.lt_of_lt_of_le h.hw (Nat.le_trans hA.size hF.size), fun j hj => ?_⟩
  · refine (h.b.trans (hA.mono h.b.size)).trans (hF.below ?_ fun k hk e => by have := (hrow k e).1; omega)
    have := hA.size; omega
  · rw [hF.cell (by have := hA.size; omega) (fun e => by have := (hrow _ e).1; omega), World.cell?_of_block (w := wr) (hA.block _ h.hw)]; exact h.box
  · by_cases c : j < qs.length
    · obtain ⟨e1, e2⟩ := h.el j c
      rw [List.getElem_append_left c]
      refine ⟨(e1.below hA).fr hF e2, ?_⟩
      simp only [Value.ownBlock, ne_eq, Option.some.injEq]
      rintro rfl
      rcases hat with hat | hat
      · exact e2 hat
      · have := e1.lt; have := hb.size; omega
    · obtain rfl : j = qs.length := by simp at hj; omega
      rw [List.getElem_append_right (Nat.le_refl _)]
      simp only [Nat.sub_self, List.getElem_singleton]
      refine ⟨(hB.below ((Below.refl _ w2).alloc (Nat.le_refl _) o)).fr hF fun e => ?_, ?_⟩
      · have := (hrow _ e).2; omega
      · simp only [Value.ownBlock, ne_eq, Option.some.injEq]
        rintro rfl
        rcases hat with hat | hat
        · have := (hrow _ hat).2; omega
        · have := hB.lt; omega
/-- All is met: where it lies. -/
structure Q2 (V : World) (n : Nat) (F : Nat → Nat → Bool) (g : Nat) (q : Nat → Nat) : Prop where
  lt : g < V.heap.size
  c : ∀ j, j < n → V.cell? ⟨g, j, none⟩ = some (.slice (some ⟨q j, 0, none⟩) n n)
  m : ∀ j, j < n → Bl V (q j) n (F j)
theorem Q2.below {V W : World} {n g : Nat} {F : Nat → Nat → Bool} {q : Nat → Nat} (h : Q2 V n F g q) (hb : Below V.heap.size V W) : Q2 W n F g q :=
  ⟨Nat.lt_of_lt_of_le h.lt hb.size, fun j hj => by rw [World.cell?_of_block (w := V) (hb.block g h.lt)]; exact h.c j hj, fun j hj => (h.m j hj).below hb⟩
theorem Q1.done {w wr : World} {n : Nat} {pv v : Value} {F : Nat → Nat → Bool} {qs : List Nat} (h : Q1 w wr n pv F v qs) (hn : qs.length = n) (hp : 0 < n) : ∃ g cp, v = .slice (some ⟨g, 0, none⟩) n cp ∧ Q2 wr n F g fun j => qs.getD j 0 := by
  rcases h.row.2 with ⟨_, h1⟩ | ⟨g, cp, cur, rfl, _⟩
  · omega
  · refine ⟨g, cp, by rw [hn], ⟨(h.row.lt g rfl).2, fun j hj => ?_, fun j hj => ?_⟩⟩
    · have := h.row.cells (g := g) rfl j _ (by rw [List.getElem?_map, List.getElem?_eq_getElem (by omega)]; rfl)
      rw [add_cell] at this
      rw [this, List.getD_eq_getElem?_getD, List.getElem?_eq_getElem (by omega)]; rfl
    · have := (h.el j (by omega)).1
      rw [List.getD_eq_getElem?_getD, List.getElem?_eq_getElem (by omega)]; exact this
/-- The lists that were told, and what was told. -/
structure Q3 (V wr : World) (n : Nat) (T : Nat → Bool) (v : Value) (es : List (Sg.Rg × List Int)) : Prop where
  b : Below V.heap.size V wr
  tc : ∀ j, j < n → wr.cell? ⟨V.heap.size, j, none⟩ = some (.bool (T j))
  tz : ∀ j, wr.frozen? ⟨V.heap.size, j, none⟩ = false
  lt : V.heap.size < wr.heap.size
  row : wr.ownsRow (V.heap.size + 1) 28 1 v es.length (es.map fun e => Value.slice (some ⟨e.1.q, 0, none⟩) e.1.n e.1.c)
  el : ∀ e ∈ es, e.1.n = e.2.length ∧ V.heap.size + 1 ≤ e.1.q ∧ e.1.q < wr.heap.size ∧ Il wr (V.heap.size + 1) (some ⟨e.1.q, 0, none⟩) e.2 ∧ v.ownBlock ≠ some e.1.q
/-- One list under way. -/
structure Q4 (V W wr : World) (n : Nat) (T : Nat → Bool) (v : Value) (acc : List Int) : Prop where
  fr : Fr (One V.heap.size) W wr
  tc : ∀ j, j < n → wr.cell? ⟨V.heap.size, j, none⟩ = some (.bool (T j))
  tz : ∀ j, wr.frozen? ⟨V.heap.size, j, none⟩ = false
  lt : V.heap.size < W.heap.size
  row : wr.ownsRow W.heap.size 3 1 v acc.length (acc.map fun y => Value.int .i64 y)
theorem Q4.put {V W wr w1 : World} {n x : Nat} {T : Nat → Bool} {v v1 : Value} {acc : List Int} {o : Obj} (h : Q4 V W wr n T v acc) (ho : w1.ownsRow W.heap.size 3 1 v1 (acc.length + 1) (acc.map (fun y => Value.int .i64 y) ++ [.int .i64 (x : Int)])) (hg : (wr.alloc o).grownBy w1 v.ownBlock) : Q4 V W w1 n T v1 (acc ++ [(x : Int)]) := by
  have hF : Fr (fun k => W.heap.size ≤ k) (wr.alloc o) w1 := ⟨hg.os, hg.tape, hg.output, hg.size, fun k hk hx => hg.block k hk fun e => hx (h.row.lt k e.symm).1⟩
  have hA : Below wr.heap.size wr (wr.alloc o) := (Below.refl _ wr).alloc (Nat.le_refl _) o
  have hws := h.fr.size
  have hlt := h.lt
  have hlt2 : V.heap.size < (wr.alloc o).heap.size := by simp; omega
  refine ⟨(h.fr.alloc o).trans hF fun k hk e => by have : W.heap.size ≤ k := e; omega, fun j hj => ?_, fun j => ?_, h.lt, by rw [intL_snoc, List.length_append]; exact ho⟩
  · rw [hF.cell hlt2 (by simp; omega), World.cell?_of_block (w := wr) (hA.block _ (by show V.heap.size < _; omega))]; exact h.tc j hj
  · rw [hF.frozen hlt2 (by simp; omega), World.frozen?_of_block (w := wr) (a := ⟨V.heap.size, j, none⟩) (hA.block _ (by show V.heap.size < _; omega))]; exact h.tz j
theorem Q4.mark {V W wr : World} {n x : Nat} {T T' : Nat → Bool} {v : Value} {acc : List Int} (h : Q4 V W wr n T v acc) (hT : ∀ j, j < n → T' j = (T j || j == x)) (hx : x < n) : Q4 V W (wr.setCell ⟨V.heap.size, x, none⟩ (.bool true)) n T' v acc := by
  have hlt := h.lt
  refine ⟨h.fr.setCell (Or.inr rfl) _ _, fun j hj => ?_, fun j => by rw [World.frozen?_setCell]; exact h.tz j, h.lt, ?_⟩
  · by_cases e : j = x
    · subst e
      rw [World.cell?_setCell_same (h := h.tc j hj), hT j hj]; simp
    · rw [World.cell?_setCell_other, h.tc j hj, hT j hj]
      · simp [e]
      · intro h'; injection h' with _ h2; exact e h2.symm
  · refine h.row.kept (row := some V.heap.size) ⟨rfl, rfl, rfl, by simp, fun k hk hne => Below.heap_setCell _ _ _ _ fun e => hne (by rw [e])⟩ ?_
    cases hv : v.ownBlock with
    | none => left; rfl
    | some g => right; have := (h.row.lt g hv).1; intro e; injection e with e; omega
theorem Q3.same {V wr : World} {n : Nat} {T T' : Nat → Bool} {v : Value} {es : List (Sg.Rg × List Int)} (h : Q3 V wr n T v es) (hT : ∀ j, j < n → T' j = T j) : Q3 V wr n T' v es :=
  ⟨h.b, fun j hj => by rw [hT j hj]; exact h.tc j hj, h.tz, h.lt, h.row, h.el⟩
theorem Q3.start {V W : World} {n : Nat} {T : Nat → Bool} {v : Value} {es : List (Sg.Rg × List Int)} (h : Q3 V W n T v es) : Q4 V W W n T (.slice none 0 0) [] := ⟨Fr.refl _ _, h.tc, h.tz, h.lt, World.ownsRow_nil _ _ _ _⟩
theorem Q3.put {V W wr w3 : World} {n q c g cp : Nat} {T T' : Nat → Bool} {v : Value} {l : List Int} {es : List (Sg.Rg × List Int)} {o : Obj} (h : Q3 V W n T v es) (hq : Q4 V W wr n T' (.slice (some ⟨q, 0, none⟩) l.length c) l)
    (ho : w3.ownsRow (V.heap.size + 1) 28 1 (.slice (some ⟨g, 0, none⟩) (es.length + 1) cp) (es.length + 1) (es.map (fun e => Value.slice (some ⟨e.1.q, 0, none⟩) e.1.n e.1.c) ++ [.slice (some ⟨q, 0, none⟩) l.length c])) (hg : (wr.alloc o).grownBy w3 v.ownBlock) (hat : v.ownBlock = some g ∨ g = wr.heap.size + 1) :
    Q3 V w3 n T' (.slice (some ⟨g, 0, none⟩) (es.length + 1) cp) (es ++ [(⟨q, l.length, c⟩, l)]) := by
  have hql := hq.row.lt q rfl
  have hws := hq.fr.size
  have hlt := h.lt
  have hVW := h.b.size
  have hA : Below wr.heap.size wr (wr.alloc o) := (Below.refl _ wr).alloc (Nat.le_refl _) o
  have hF : Fr (fun k => v.ownBlock = some k) (wr.alloc o) w3 := ⟨hg.os, hg.tape, hg.output, hg.size, fun k hk hx => hg.block k hk fun e => hx e.symm⟩
  have hrow : ∀ k, v.ownBlock = some k → V.heap.size + 1 ≤ k ∧ k < W.heap.size := fun k e => h.row.lt k e
  have hlt2 : V.heap.size < (wr.alloc o).heap.size := by simp; omega
  have hb2 : Below V.heap.size V wr := h.b.trans (hq.fr.below h.b.size fun k hk e => by have : k = V.heap.size := e; omega)
  refine ⟨hb2.trans ((hA.mono hb2.size).trans (hF.below (by simp; omega) fun k hk e => by have := (hrow k e).1; omega)), fun j hj => ?_, fun j => ?_, Nat.lt_of_lt_of_le hlt2 hF.size, by rw [List.length_append, List.map_append]; exact ho, fun e he => ?_⟩
  · rw [hF.cell hlt2 (fun e => by have := (hrow _ e).1; omega), World.cell?_of_block (w := wr) (hA.block _ (by show V.heap.size < _; omega))]; exact hq.tc j hj
  · rw [hF.frozen hlt2 (fun e => by have := (hrow _ e).1; omega), World.frozen?_of_block (w := wr) (a := ⟨V.heap.size, j, none⟩) (hA.block _ (by show V.heap.size < _; omega))]; exact hq.tz j
  · have one : ∀ (b : Nat) (xs : List Int), V.heap.size + 1 ≤ b → b < wr.heap.size → Il wr (V.heap.size + 1) (some ⟨b, 0, none⟩) xs → v.ownBlock ≠ some b → Il w3 (V.heap.size + 1) (some ⟨b, 0, none⟩) xs ∧ (Value.slice (some ⟨g, 0, none⟩) (es.length + 1) cp).ownBlock ≠ some b ∧ b < w3.heap.size := fun b xs h1 h2 h3 h4 => by
      refine ⟨⟨fun h0 => ?_⟩, ?_, ?_⟩
      · obtain ⟨b', eb, hB, hl, hc⟩ := (h3.below hA).is h0
        injection eb with eb
        injection eb with eb
        subst eb
        exact ⟨b, rfl, hB, Nat.lt_of_lt_of_le hl hF.size, fun i hi => by rw [hF.cell hl h4]; exact hc i hi⟩
      · simp only [Value.ownBlock, ne_eq, Option.some.injEq]
        rintro rfl
        rcases hat with hat | hat
        · exact h4 hat
        · omega
      · have := hF.size; simp at this; omega
    rcases List.mem_append.1 he with he | he
    · obtain ⟨e1, e2, e3, e4, e5⟩ := h.el e he
      have hIl : Il wr (V.heap.size + 1) (some ⟨e.1.q, 0, none⟩) e.2 := by
        refine ⟨fun h0 => ?_⟩
        obtain ⟨b', eb, hB, hl, hc⟩ := e4.is h0
        injection eb with eb
        injection eb with eb
        subst eb
        exact ⟨e.1.q, rfl, hB, Nat.lt_of_lt_of_le hl hws, fun i hi => by rw [hq.fr.cell hl fun e' => by have : e.1.q = V.heap.size := e'; omega]; exact hc i hi⟩
      obtain ⟨f1, f2, f3⟩ := one e.1.q e.2 e2 (by omega) hIl e5
      exact ⟨e1, e2, f3, f1, f2⟩
    · simp only [List.mem_singleton] at he
      subst he
      obtain ⟨f1, f2, f3⟩ := one q l (by omega) hql.2 ((il_row hq.row).low (by omega)) (fun e => by have := (hrow q e).2; omega)
      exact ⟨rfl, by show _ ≤ q; omega, f3, f1, f2⟩
theorem Q3.done {w V wr : World} {n : Nat} {T : Nat → Bool} {v : Value} {es : List (Sg.Rg × List Int)} {xss : List (List Int)} (h : Q3 V wr n T v es) (hb : Below w.heap.size w V) (he : es.map (·.2) = xss) : GotL w wr v xss := by
  subst he
  obtain ⟨a, c, e⟩ := row_slice h.row
  have hbs := hb.size
  refine ⟨a, c, by rw [e, List.length_map], ⟨fun h0 => ?_⟩, hb.trans (h.b.mono hb.size)⟩
  rw [List.length_map] at h0
  rcases h.row.2 with ⟨_, h1⟩ | ⟨g, cp, cur, h1, h2, _⟩
  · omega
  · have hg := h.row.lt g (by rw [h1]; rfl)
    rw [h1] at e
    injection e with e _ _
    refine ⟨g, e.symm, by omega, hg.2, fun i hi => ?_⟩
    rw [List.length_map] at hi
    obtain ⟨e1, e2, e3, e4, e5⟩ := h.el es[i] (List.getElem_mem hi)
    have hc := h.row.cells (g := g) (by rw [h1]; rfl) i _ (by rw [List.getElem?_map, List.getElem?_eq_getElem hi]; rfl)
    rw [add_cell] at hc
    rw [List.getElem_map]
    exact ⟨some ⟨es[i].1.q, 0, none⟩, es[i].1.c, by rw [hc, ← e1], e4.low (by omega)⟩
end Go.Proofs.YtfdmahilgemlaaaDoor.Fl

namespace Go.Proofs.YtfdmahilgemlaaaDoor.Fl
open Go.ChangeShapes Go.WideShapes Go.ChangeAt Go.RowKit
open _root_.Go.Proofs.YtfdmahilgemlaaaDoor.So _root_.Go.Proofs.YtfdmahilgemlaaaDoor.Ss _root_.Go.Proofs.YtfdmahilgemlaaaDoor.Op _root_.Go.Proofs.YtfdmahilgemlaaaDoor.Fw
set_option maxRecDepth 20000

/-- The first j blocks of a ring. -/
def partTo (F : Nat → Nat → Bool) (i j : Nat) : List Int := ((List.range j).filter fun x => F i x && F x i).map fun (x : Nat) => (x : Int)
theorem partTo_yes {F : Nat → Nat → Bool} {i j : Nat} (h1 : F i j = true) (h2 : F j i = true) : partTo F i (j + 1) = partTo F i j ++ [(j : Int)] := by
  unfold partTo
  rw [List.range_succ, List.filter_append, List.map_append]
  simp [h1, h2]
theorem partTo_no {F : Nat → Nat → Bool} {i j : Nat} (h : (F i j && F j i) = false) : partTo F i (j + 1) = partTo F i j := by
  unfold partTo
  rw [List.range_succ, List.filter_append, List.map_append]
  simp [h]
theorem partTo_len (F : Nat → Nat → Bool) (i j : Nat) : (partTo F i j).length ≤ j := by
  unfold partTo
  rw [List.length_map]
  have := List.length_filter_le (fun x => F i x && F x i) (List.range j)
  simpa using this
/-- What was told when j blocks of the ring are told. -/
def toldTo (F : Nat → Nat → Bool) (T : Nat → Bool) (i j x : Nat) : Bool := T x || (decide (x < j) && F i x && F x i)
theorem toldTo_yes {F : Nat → Nat → Bool} {T : Nat → Bool} {i j x : Nat} (h1 : F i j = true) (h2 : F j i = true) : toldTo F T i (j + 1) x = (toldTo F T i j x || x == j) := by
  unfold toldTo
  by_cases e : x = j
  · subst e; simp [h1, h2]
  · by_cases c : x < j
    · simp [c, e, show x < j + 1 by omega]
    · simp [c, e, show ¬ x < j + 1 by omega]
theorem toldTo_no {F : Nat → Nat → Bool} {T : Nat → Bool} {i j x : Nat} (h : (F i j && F j i) = false) : toldTo F T i (j + 1) x = toldTo F T i j x := by
  unfold toldTo
  by_cases e : x = j
  · subst e
    simp only [Nat.lt_irrefl, decide_false, Bool.false_and, Bool.or_false, Nat.lt_succ_self, decide_true, Bool.true_and]
    rw [h]; simp
  · by_cases c : x < j
    · simp [c, show x < j + 1 by omega]
    · simp [c, show ¬ x < j + 1 by omega]
theorem Q4.same {V W wr : World} {n : Nat} {T T' : Nat → Bool} {v : Value} {acc : List Int} (h : Q4 V W wr n T v acc) (hT : ∀ j, j < n → T' j = T j) : Q4 V W wr n T' v acc :=
  ⟨h.fr, fun j hj => by rw [hT j hj]; exact h.tc j hj, h.tz, h.lt, h.row⟩

set_option maxHeartbeats 32000000 in
theorem refRings_any (ao : Option Addr) (cap : Nat) (ps : List Bk) (w : World) (h : PAt w ao ps) :
    Calls Tryd.prog 6 #[.agg #[.slice ao ps.length cap]] w fun e w' => ∃ v, e = .returned v ∧ GotL w w' v (ringsI ps) := by
  have hb1 : Below w.heap.size w (w.alloc (.cells #[.slice ao ps.length cap] 24)) := by go_grown
  have HK : Hid (Calls Tryd.prog 22 #[.agg #[.slice ao ps.length cap], .int .i64 0] (w.alloc (.cells #[.slice ao ps.length cap] 24)) fun e w' => e = .returned (.bool (knB ps 0)) ∧ Below (w.alloc (.cells #[.slice ao ps.length cap] 24)).heap.size (w.alloc (.cells #[.slice ao ps.length cap] 24)) w') := right_any ao cap ps 0 _ (h.below hb1)
  unfold ringsI
  by_cases hk : knB ps 0 = true
  · rw [if_pos hk]
    rw [hk] at HK
    have hk' := hk
    unfold knB at hk'
    simp only [Bool.and_eq_true, decide_eq_true_eq] at hk'
    have hG := good_of hk'.2
    have hpos := hG.pos
    have hle := hG.le
    have HF : Hid (∀ (k : Nat) W, k < ps.length → Below w.heap.size w W → Calls Tryd.prog 23 #[.agg #[.slice ao ps.length cap], .int .i64 (k : Int)] W fun e w' => e = .returned (.slice (some ⟨W.heap.size + 1, 0, none⟩) ps.length ps.length) ∧ Bl w' (W.heap.size + 1) ps.length (wB (tB ps) ps.length k) ∧ Below W.heap.size W w') := fun k W hk hb => from_any ao cap ps k W (h.below hb) hG hk
    obtain ⟨i4, hi, hi2⟩ := Option.map_eq_some_iff.1 info44
    simp only [Prod.mk.injEq] at hi2
    obtain ⟨hz0, hz1, hz2⟩ := hi2
    have HI : Hid (Tryd.prog.info? 44 = some i4 ∧ i4.zero = some (.slice none 0 0) ∧ i4.size = 1 ∧ i4.bytes = 24) := ⟨hi, hz0, hz1, hz2⟩
    clear h hk hb1 hi hz0 hz1 hz2 hk' hG
    go_enter Tryd.func6, Tryd.ntmps6
    go_wp2_with (first
      | (go_at_call 22; refine Calls.mono HK.out ?_; rintro e w1 ⟨rfl, hb⟩; obtain ⟨a1, hb0, hz⟩ := one_new w _ _ hb; have HQ0 : Hid (Q1 w w1 ps.length (.slice ao ps.length cap) (wB (tB ps) ps.length) (.slice none 0 0) []) := ⟨World.ownsRow_nil _ _ _ _, hb0, a1.c 0 _ rfl, a1.lt, fun j hj => by simp at hj⟩; clear hb hb0 a1 HK))
    go_loopg [3, 4] 200 (fun g1 v vi wr => ∃ (k : Nat) (qs : List Nat), vi = .int .i64 k ∧ k ≤ ps.length ∧ qs.length = k ∧ ps.length - k < g1 ∧ Hid (Q1 w wr ps.length (.slice ao ps.length cap) (wB (tB ps) ps.length) v qs))
    case atStart => exact ⟨0, [], rfl, by omega, rfl, by omega, HQ0.out⟩
    case round =>
      clear HQ0
      obtain ⟨k, qs, rfl, hk, hql, hg1, HQ⟩ := hrel
      have cb := HQ.out.box
      by_cases hlk : k < ps.length
      · have hzk : (k : Int) < (ps.length : Int) := by omega
        have HF2 : Hid _ := HF.out k wr hlk HQ.out.b
        go_wp2_with (first
          | (go_at_call 23; refine Calls.mono HF2.out ?_; rintro e w2 ⟨rfl, hB, hb⟩; have HB2 : Hid (Bl w2 (wr.heap.size + 1) ps.length (wB (tB ps) ps.length k) ∧ Below wr.heap.size wr w2) := ⟨hB, hb⟩; have hlo : wr.heap.size ≤ w2.heap.size := hb.size; have hlw := HQ.out.hw; clear hB hb HF2 cb)
          | (at_builtin; refine wpList_append_lies _ rfl _ _ 43 rfl (w.heap.size + 1) 44 i4 (.slice none 0 0) 1 24 Tryd.underlying43 HI.out.1 HI.out.2.1 HI.out.2.2.1 HI.out.2.2.2 rfl (by decide) _ _ _ rfl ((row_below' HQ.out.row HB2.out.2).alloc _) ⟨w2.heap.size, 0, none⟩ 1 1 [.slice (some ⟨wr.heap.size + 1, 0, none⟩) ps.length ps.length] rfl rfl (World.news_of_block (heap_alloc_new w2 _)) (by simp [Value.oneCell']) (by decide) (by unfold maxLen; omega) (by omega) (by simp; omega) (w2.heap.size + 1) (by simp) ?_; intro g cap' w3 hown1 hgrow hat hlt3))
        go_roundg (ps.length - k)
        case measure => omega
        case rel => exact ⟨k + 1, qs ++ [wr.heap.size + 1], by go_num, by omega, by simp [hql], by omega, by have h9 := HQ.out.put HB2.out.2 (by omega) (by rw [hql]; exact HB2.out.1) hown1 hgrow hat; rw [hql] at h9; exact h9⟩
      · have hzk : ¬ (k : Int) < (ps.length : Int) := by omega
        obtain rfl : k = ps.length := by omega
        obtain ⟨gM, cM, rfl, hQ2⟩ := HQ.out.done hql hpos
        obtain ⟨qf, hqf⟩ : ∃ qf : Nat → Nat, qf = fun j => qs.getD j 0 := ⟨_, rfl⟩
        rw [← hqf] at hQ2
        have HQ2 : Hid (Q2 wr ps.length (wB (tB ps) ps.length) gM qf) := hQ2
        have HBV : Hid (Below w.heap.size w wr) := HQ.out.b
        have hbx : Hid (wr.cell? ⟨w.heap.size, 0, none⟩ = some (.slice ao ps.length cap) ∧ w.heap.size < wr.heap.size) := ⟨HQ.out.box, HQ.out.hw⟩
        obtain ⟨j0, hj, hj2⟩ := Option.map_eq_some_iff.1 info4
        simp only [Prod.mk.injEq] at hj2
        obtain ⟨hy0, hy1, hy2⟩ := hj2
        obtain ⟨wm, hrun, hrow, hgm⟩ := run_makeSlice_full (P := Tryd.prog) wr wr.heap.size 44 4 j0 (.bool false) 1 Tryd.underlying44 hj hy0 hy1 .i64 .i64 ps.length (by omega) (by rw [hy2]; omega) (by unfold maxLen; omega) (Nat.le_refl _)
        have HQ3 : Hid (Q3 wr wm ps.length (told (tB ps) ps.length 0) (.slice none 0 0) []) := by
          have hh : ∃ cur, wm.heap[wr.heap.size]? = some (.cells cur 4 (0, 0)) := by
            rcases hrow.2 with ⟨h1, _⟩ | ⟨g, cap, cur, h1, _, h3, _⟩
            · cases h1
            · injection h1 with h1; injection h1 with h1; injection h1 with h1; subst h1; exact ⟨cur, h3⟩
          obtain ⟨cur, hh⟩ := hh
          refine ⟨⟨hgm.os, hgm.tape, hgm.output, hgm.size, fun k hk => hgm.block k hk (by simp)⟩, fun j hj => ?_, fun j => by simp [World.frozen?, hh], (hrow.lt _ rfl).2, World.ownsRow_nil _ _ _ _, fun e he => by simp at he⟩
          have := hrow.cells (g := wr.heap.size) rfl j _ (made_false ps.length j hj)
          rw [add_cell] at this
          rw [this, told_zero]
        clear HQ hQ2 hqf hj hy0 hy1 hy2 hrow hgm HF HI
        go_wp2
        clear hrun cb
        obtain ⟨i0, hi, hi2⟩ := Option.map_eq_some_iff.1 info3
        simp only [Prod.mk.injEq] at hi2
        obtain ⟨hz0, hz1, hz2⟩ := hi2
        have HI : Hid (Tryd.prog.info? 3 = some i0 ∧ i0.zero = some (.int .i64 0) ∧ i0.size = 1 ∧ i0.bytes = 8) := ⟨hi, hz0, hz1, hz2⟩
        obtain ⟨i8, hi8, hi82⟩ := Option.map_eq_some_iff.1 info28
        simp only [Prod.mk.injEq] at hi82
        obtain ⟨hx0, hx1, hx2⟩ := hi82
        have HI8 : Hid (Tryd.prog.info? 28 = some i8 ∧ i8.zero = some (.slice none 0 0) ∧ i8.size = 1 ∧ i8.bytes = 24) := ⟨hi8, hx0, hx1, hx2⟩
        clear hi hz0 hz1 hz2 hi8 hx0 hx1 hx2
        generalize wr = V at *
        go_loopg [6, 7, 8, 9] 200 (fun g2 v vi v8 v9 wr => ∃ (i : Nat) (es : List (Sg.Rg × List Int)), vi = .int .i64 i ∧ i ≤ ps.length ∧ ps.length - i < g2 ∧ es.length ≤ i ∧ Hid (Q3 V wr ps.length (told (tB ps) ps.length i) v es ∧ es.map (·.2) = (ringsTo (tB ps) ps.length i).map fun l => l.map fun (j : Nat) => (j : Int)))
        case atStart => exact ⟨0, [], rfl, by omega, by omega, by simp, HQ3.out, rfl⟩
        case round =>
          clear HQ3
          rename World => wy
          obtain ⟨i, es, rfl, hin, hg2, hel, HQ⟩ := hrel
          have cb : wy.cell? ⟨w.heap.size, 0, none⟩ = some (.slice ao ps.length cap) := by rw [World.cell?_of_block (w := V) (HQ.out.1.b.block _ hbx.out.2)]; exact hbx.out.1
          by_cases hli : i < ps.length
          · have hzi : (i : Int) < (ps.length : Int) := by omega
            have ct := HQ.out.1.tc i hli
            cases htd : told (tB ps) ps.length i i with
            | true =>
              have hh : headB (tB ps) ps.length i = false := by simp [headB, htd]
              rw [htd] at ct
              have HQn : Hid (Q3 V wy ps.length (told (tB ps) ps.length (i + 1)) u6 es ∧ es.map (·.2) = (ringsTo (tB ps) ps.length (i + 1)).map fun l => l.map fun (j : Nat) => (j : Int)) := ⟨HQ.out.1.same fun j _ => told_skip hh j, by rw [rings_skip hh]; exact HQ.out.2⟩
              clear HQ htd hh
              go_wp2
              go_roundg (ps.length - i)
              case measure => omega
              case rel => exact ⟨i + 1, es, by go_num, by omega, by omega, by omega, HQn.out⟩
            | false =>
              rw [htd] at ct
              have hQy := HQ2.out.below HQ.out.1.b
              have cM := hQy.c i hli
              have cii := (hQy.m i hli).c i hli
              clear hQy
              cases hw : wB (tB ps) ps.length i i with
              | false =>
                have hh : headB (tB ps) ps.length i = false := by simp [headB, hw]
                rw [hw] at cii
                have HQn : Hid (Q3 V wy ps.length (told (tB ps) ps.length (i + 1)) u6 es ∧ es.map (·.2) = (ringsTo (tB ps) ps.length (i + 1)).map fun l => l.map fun (j : Nat) => (j : Int)) := ⟨HQ.out.1.same fun j _ => told_skip hh j, by rw [rings_skip hh]; exact HQ.out.2⟩
                clear HQ htd hh hw
                go_wp2
                go_roundg (ps.length - i)
                case measure => omega
                case rel => exact ⟨i + 1, es, by go_num, by omega, by omega, by omega, HQn.out⟩
              | true =>
                have hh : Hid (headB (tB ps) ps.length i = true) := by show _ = _; simp [headB, hw, htd]
                have hwi : Hid (wB (tB ps) ps.length i i = true) := hw
                rw [hw] at cii
                clear htd hw
                go_wp2
                clear ct cM cii cb
                have HS0 : Hid (Q4 V wy wy ps.length (toldTo (wB (tB ps) ps.length) (told (tB ps) ps.length i) i 0) (.slice none 0 0) (partTo (wB (tB ps) ps.length) i 0)) := HQ.out.1.start.same fun j _ => by simp [toldTo]
                go_loopg [8, 9] 200 (fun g3 vl vj wr3 => ∃ (j : Nat), vj = .int .i64 j ∧ j ≤ ps.length ∧ ps.length - j < g3 ∧ Hid (Q4 V wy wr3 ps.length (toldTo (wB (tB ps) ps.length) (told (tB ps) ps.length i) i j) vl (partTo (wB (tB ps) ps.length) i j)))
                case atStart => exact ⟨0, rfl, by omega, by omega, HS0.out⟩
                case round =>
                  clear HS0
                  rename World => wx
                  obtain ⟨j, rfl, hjn, hg3, HS⟩ := hrel
                  have hbVx : Hid (Below V.heap.size V wx) := HQ.out.1.b.trans (HS.out.fr.below HQ.out.1.b.size fun k hk e => by have : k = V.heap.size := e; omega)
                  have cb : wx.cell? ⟨w.heap.size, 0, none⟩ = some (.slice ao ps.length cap) := by rw [World.cell?_of_block (w := V) (hbVx.out.block _ hbx.out.2)]; exact hbx.out.1
                  by_cases hlj : j < ps.length
                  · have hzj : (j : Int) < (ps.length : Int) := by omega
                    have hQx := HQ2.out.below hbVx.out
                    have cMi := hQx.c i hli
                    have cMj := hQx.c j hlj
                    have cij := (hQx.m i hli).c j hlj
                    have cji := (hQx.m j hlj).c i hli
                    clear hQx
                    have hpl := partTo_len (wB (tB ps) ps.length) i j
                    cases hij : wB (tB ps) ps.length i j with
                    | false =>
                      rw [hij] at cij
                      have HSn : Hid (Q4 V wy wx ps.length (toldTo (wB (tB ps) ps.length) (told (tB ps) ps.length i) i (j + 1)) u8 (partTo (wB (tB ps) ps.length) i (j + 1))) := by
                        have hf : (wB (tB ps) ps.length i j && wB (tB ps) ps.length j i) = false := by rw [hij]; rfl
                        rw [show partTo (wB (tB ps) ps.length) i (j + 1) = partTo (wB (tB ps) ps.length) i j from partTo_no hf]
                        exact HS.out.same fun x _ => toldTo_no hf
                      clear HS hij cji cMj
                      go_wp2
                      go_roundg (ps.length - j)
                      case measure => omega
                      case rel => exact ⟨j + 1, by go_num, by omega, by omega, HSn.out⟩
                    | true =>
                      rw [hij] at cij
                      cases hji : wB (tB ps) ps.length j i with
                      | false =>
                        rw [hji] at cji
                        have HSn : Hid (Q4 V wy wx ps.length (toldTo (wB (tB ps) ps.length) (told (tB ps) ps.length i) i (j + 1)) u8 (partTo (wB (tB ps) ps.length) i (j + 1))) := by
                          have hf : (wB (tB ps) ps.length i j && wB (tB ps) ps.length j i) = false := by rw [hji, Bool.and_false]
                          rw [show partTo (wB (tB ps) ps.length) i (j + 1) = partTo (wB (tB ps) ps.length) i j from partTo_no hf]
                          exact HS.out.same fun x _ => toldTo_no hf
                        clear HS hij hji
                        go_wp2
                        go_roundg (ps.length - j)
                        case measure => omega
                        case rel => exact ⟨j + 1, by go_num, by omega, by omega, HSn.out⟩
                      | true =>
                        rw [hji] at cji
                        have hA : Hid (partTo (wB (tB ps) ps.length) i (j + 1) = partTo (wB (tB ps) ps.length) i j ++ [(j : Int)]) := partTo_yes hij hji
                        have hT : Hid (∀ x, x < ps.length → toldTo (wB (tB ps) ps.length) (told (tB ps) ps.length i) i (j + 1) x = (toldTo (wB (tB ps) ps.length) (told (tB ps) ps.length i) i j x || x == j)) := fun x _ => toldTo_yes hij hji
                        have hlx := HS.out.fr.size
                        clear hij hji
                        go_wp2_with (first
                          | (at_builtin; refine wpList_append_lies _ rfl _ _ 28 rfl wy.heap.size 3 i0 (.int .i64 0) 1 8 Tryd.underlying28 HI.out.1 HI.out.2.1 HI.out.2.2.1 HI.out.2.2.2 rfl (by decide) _ _ _ rfl (HS.out.row.alloc _) ⟨wx.heap.size, 0, none⟩ 1 1 [.int .i64 (j : Int)] rfl rfl (World.news_of_block (heap_alloc_new wx _)) (by simp [Value.oneCell']) (by decide) (by unfold maxLen; omega) (by omega) (by simp; omega) (wx.heap.size + 1) (by simp) ?_; intro g cap' w4 hown1 hgrow hat hlt3; have HS4 : Hid (Q4 V wy w4 ps.length (toldTo (wB (tB ps) ps.length) (told (tB ps) ps.length i) i j) (.slice (some ⟨g, 0, none⟩) ((partTo (wB (tB ps) ps.length) i j).length + 1) cap') (partTo (wB (tB ps) ps.length) i j ++ [(j : Int)])) := HS.out.put hown1 hgrow; have ct4 := HS4.out.tc j hlj; have fz4 := HS4.out.tz j; clear hown1 hgrow hat hlt3 HS cb cMi cMj cij cji))
                        have HS5 : Hid (Q4 V wy (w4.setCell ⟨V.heap.size, j, none⟩ (.bool true)) ps.length (toldTo (wB (tB ps) ps.length) (told (tB ps) ps.length i) i (j + 1)) (.slice (some ⟨g, 0, none⟩) ((partTo (wB (tB ps) ps.length) i j).length + 1) cap') (partTo (wB (tB ps) ps.length) i (j + 1))) := by rw [hA.out]; exact HS4.out.mark hT.out hlj
                        go_roundg (ps.length - j)
                        case measure => omega
                        case rel => exact ⟨j + 1, by go_num, by omega, by omega, HS5.out⟩
                  · have hzj : ¬ (j : Int) < (ps.length : Int) := by omega
                    obtain rfl : j = ps.length := by omega
                    have hpl := partTo_len (wB (tB ps) ps.length) i ps.length
                    have hP : Hid (partTo (wB (tB ps) ps.length) i ps.length = (ringL (tB ps) ps.length i).map fun (j : Nat) => (j : Int)) := rfl
                    have hpp : 0 < (partTo (wB (tB ps) ps.length) i ps.length).length := by
                      have : (i : Int) ∈ partTo (wB (tB ps) ps.length) i ps.length := List.mem_map.2 ⟨i, List.mem_filter.2 ⟨List.mem_range.2 hli, by simp [hwi.out]⟩, rfl⟩
                      exact List.length_pos_of_mem this
                    obtain ⟨qL, cL, hvL⟩ : ∃ q c, u8 = .slice (some ⟨q, 0, none⟩) (partTo (wB (tB ps) ps.length) i ps.length).length c := by
                      rcases HS.out.row.2 with ⟨_, h1⟩ | ⟨g, cp, cur, h1, _⟩
                      · omega
                      · exact ⟨g, cp, h1⟩
                    subst hvL
                    have hlx := HS.out.fr.size
                    have hly := HQ.out.1.lt
                    have hrx : Hid (wx.ownsRow (V.heap.size + 1) 28 1 u6 es.length (es.map fun e => Value.slice (some ⟨e.1.q, 0, none⟩) e.1.n e.1.c)) := row_fr' HQ.out.1.row HS.out.fr fun b hb e => by have := (HQ.out.1.row.lt b hb).1; have : b = V.heap.size := e; omega
                    go_wp2_with (first
                      | (at_builtin; refine wpList_append_lies _ rfl _ _ 25 rfl (V.heap.size + 1) 28 i8 (.slice none 0 0) 1 24 Tryd.underlying25 HI8.out.1 HI8.out.2.1 HI8.out.2.2.1 HI8.out.2.2.2 rfl (by decide) _ _ _ rfl (hrx.out.alloc _) ⟨wx.heap.size, 0, none⟩ 1 1 [.slice (some ⟨qL, 0, none⟩) (partTo (wB (tB ps) ps.length) i ps.length).length cL] rfl rfl (World.news_of_block (heap_alloc_new wx _)) (by simp [Value.oneCell']) (by decide) (by unfold maxLen; omega) (by omega) (by simp; omega) (wx.heap.size + 1) (by simp) ?_; intro g cap' w4 hown1 hgrow hat hlt3))
                    go_roundg (ps.length - i)
                    case measure => omega
                    case rel =>
                      refine ⟨i + 1, _, by go_num, by omega, by omega, ?_, (HQ.out.1.put HS.out hown1 hgrow hat).same fun x hx => ?_, ?_⟩
                      · simp; omega
                      · rw [told_succ]; simp [toldTo, hx]
                      · rw [List.map_append, HQ.out.2, rings_ring hh.out, List.map_append]; simp only [List.map_cons, List.map_nil, hP.out]
          · have hzi : ¬ (i : Int) < (ps.length : Int) := by omega
            obtain rfl : i = ps.length := by omega
            have HG : Hid (GotL w wy u6 ((ringsTo (tB ps) ps.length ps.length).map fun l => l.map fun (j : Nat) => (j : Int))) := HQ.out.1.done HBV.out HQ.out.2
            clear HQ
            go_wp2
            go_ret
            exact ⟨_, rfl, HG.out⟩
  · rw [if_neg hk]
    have hk' : knB ps 0 = false := by simpa using hk
    rw [hk'] at HK
    clear h hk hb1
    go_enter Tryd.func6, Tryd.ntmps6
    go_wp2_with (first | (go_at_call 22; refine Calls.mono HK.out ?_; rintro e w1 ⟨rfl, hb⟩; obtain ⟨a1, hb0, hz⟩ := one_new w _ _ hb; have HB1 : Hid _ := hb0; clear hb hb0 a1 HK))
    go_ret
    exact ⟨_, rfl, _, _, rfl, Ll.nil _ _ _, HB1.out⟩
end Go.Proofs.YtfdmahilgemlaaaDoor.Fl

namespace Go.Proofs.YtfdmahilgemlaaaDoor.Fl
open Go.ChangeShapes Go.WideShapes Go.ChangeAt Go.RowKit
open _root_.Go.Proofs.YtfdmahilgemlaaaDoor.So _root_.Go.Proofs.YtfdmahilgemlaaaDoor.Ss _root_.Go.Proofs.YtfdmahilgemlaaaDoor.Op _root_.Go.Proofs.YtfdmahilgemlaaaDoor.Fw
set_option maxRecDepth 20000

theorem rings_flat (ps : List Bk) : (ringsI ps).flatten.Nodup ∧ ∀ z ∈ (ringsI ps).flatten, 0 ≤ z ∧ z < ps.length := by
  unfold ringsI
  split
  · constructor
    · unfold List.Nodup
      rw [List.pairwise_flatten]
      constructor
      · intro l hl
        obtain ⟨r, hr, rfl⟩ := List.mem_map.1 hl
        unfold ringsTo at hr
        obtain ⟨i, _, rfl⟩ := List.mem_map.1 hr
        rw [List.pairwise_map]
        refine (ring_nodup i).imp ?_
        intro a b h e; exact h (by omega)
      · rw [List.pairwise_map]
        unfold ringsTo
        rw [List.pairwise_map]
        have hs : ((List.range ps.length).filter (headB (tB ps) ps.length)).Pairwise (fun a b => a < b ∧ headB (tB ps) ps.length b = true) := by
          have h1 : ((List.range ps.length).filter (headB (tB ps) ps.length)).Pairwise (· < ·) := (List.pairwise_lt_range (n := ps.length)).filter _
          refine List.Pairwise.imp_of_mem (R := (· < ·)) (fun {a b} _ hb hab => ⟨hab, (List.mem_filter.1 hb).2⟩) h1
        refine hs.imp ?_
        rintro a b ⟨hab, hb⟩ x hx y hy e
        obtain ⟨i, hi, rfl⟩ := List.mem_map.1 hx
        obtain ⟨j, hj, rfl⟩ := List.mem_map.1 hy
        obtain rfl : i = j := by omega
        exact rings_apart hab hb hi hj
    · intro z hz
      obtain ⟨l, hl, hzl⟩ := List.mem_flatten.1 hz
      obtain ⟨r, hr, rfl⟩ := List.mem_map.1 hl
      obtain ⟨i, hi, rfl⟩ := List.mem_map.1 hzl
      unfold ringsTo at hr
      obtain ⟨k, _, rfl⟩ := List.mem_map.1 hr
      have := (ring_mem.1 hi).1
      omega
  · simp
/-- What is counted when k rings are through, and j blocks of the next. -/
def seen (xss : List (List Int)) (k j : Nat) : List Int := (xss.take k).flatten ++ ((xss[k]?).getD []).take j
theorem seen_next {xss : List (List Int)} {k j : Nat} (hk : k < xss.length) (hj : j < xss[k].length) : seen xss k (j + 1) = seen xss k j ++ [xss[k][j]] := by
  unfold seen
  rw [List.getElem?_eq_getElem hk]
  simp only [Option.getD_some]
  rw [List.take_succ_eq_append_getElem hj, List.append_assoc]
theorem seen_ring {xss : List (List Int)} {k : Nat} (hk : k < xss.length) : seen xss (k + 1) 0 = seen xss k xss[k].length := by
  unfold seen
  have e : (xss.take (k + 1)).flatten = (xss.take k).flatten ++ xss[k] := by
    rw [List.take_succ_eq_append_getElem hk, List.flatten_append, List.flatten_singleton]
  rw [List.getElem?_eq_getElem hk, e]
  simp
theorem seen_pre {xss : List (List Int)} {k j : Nat} (hk : k < xss.length) : ∃ r, seen xss k j ++ r = xss.flatten := by
  refine ⟨xss[k].drop j ++ (xss.drop (k + 1)).flatten, ?_⟩
  unfold seen
  rw [List.getElem?_eq_getElem hk]
  simp only [Option.getD_some]
  rw [List.append_assoc, ← List.append_assoc (xss[k].take j), List.take_append_drop]
  conv => rhs; rw [← List.take_append_drop k xss, List.flatten_append, List.drop_eq_getElem_cons hk, List.flatten_cons]
theorem fresh_next {xss : List (List Int)} {k j : Nat} (hn : xss.flatten.Nodup) (hk : k < xss.length) (hj : j < xss[k].length) : ¬ xss[k][j] ∈ seen xss k j := by
  obtain ⟨r, hr⟩ := seen_pre (j := j + 1) hk
  rw [seen_next hk hj] at hr
  rw [← hr, List.append_assoc] at hn
  intro hm
  have := (List.nodup_append.1 hn).2.2 _ hm xss[k][j] (by simp)
  exact this rfl
/-- A row of counts. -/
structure Ct (wr : World) (q n : Nat) (D : List Int) : Prop where
  lt : q < wr.heap.size
  c : ∀ i, i < n → wr.cell? ⟨q, i, none⟩ = some (.int .i64 (if (i : Int) ∈ D then 1 else 0))
  z : ∀ i, wr.frozen? ⟨q, i, none⟩ = false
theorem Ct.put {wr : World} {q n x : Nat} {D : List Int} (h : Ct wr q n D) (hx : x < n) : Ct (wr.setCell ⟨q, x, none⟩ (.int .i64 1)) q n (D ++ [(x : Int)]) := by
  refine ⟨by simpa using h.lt, fun i hi => ?_, fun i => by rw [World.frozen?_setCell]; exact h.z i⟩
  by_cases e : i = x
  · subst e
    rw [World.cell?_setCell_same (h := h.c i hi)]
    simp
  · rw [World.cell?_setCell_other, h.c i hi]
    · have : ((i : Int) ∈ D ++ [(x : Int)]) ↔ (i : Int) ∈ D := by simp; omega
      by_cases c : (i : Int) ∈ D
      · rw [if_pos c, if_pos (this.2 c)]
      · rw [if_neg c, if_neg fun h => c (this.1 h)]
    · intro h'; injection h' with _ h2; exact e h2.symm
theorem Ct.go {wr w' : World} {q n : Nat} {D : List Int} (h : Ct wr q n D) (hb : Below wr.heap.size wr w') : Ct w' q n D :=
  ⟨Nat.lt_of_lt_of_le h.lt hb.size, fun i hi => by rw [World.cell?_of_block (w := wr) (hb.block q h.lt)]; exact h.c i hi, fun i => by rw [World.frozen?_of_block (w := wr) (a := ⟨q, i, none⟩) (hb.block q h.lt)]; exact h.z i⟩
theorem Ll.fr {X : Nat → Prop} {w w' : World} {B : Nat} {a : Option Addr} {xss : List (List Int)} (h : Ll w B a xss) (hF : Fr X w w') (hX : ∀ b, B ≤ b → b < w.heap.size → ¬ X b) : Ll w' B a xss := by
  refine ⟨fun h0 => ?_⟩
  obtain ⟨b, e, hB, hlt, hc⟩ := h.is h0
  refine ⟨b, e, hB, Nat.lt_of_lt_of_le hlt hF.size, fun i hi => ?_⟩
  obtain ⟨a', c, h1, h2⟩ := hc i hi
  exact ⟨a', c, by rw [hF.cell hlt (hX b hB hlt)]; exact h1, h2.fr hF hX⟩
/-- Rings are counted. -/
structure T3 (w1 wr : World) (B bx : Nat) (v : Value) (aS : Option Addr) (xss : List (List Int)) (q n k j : Nat) : Prop where
  b : Below w1.heap.size w1 wr
  c : wr.cell? ⟨bx, 0, none⟩ = some v
  lx : bx < w1.heap.size
  hq : w1.heap.size ≤ q
  hB : q < B
  ll : Ll wr B aS xss
  ct : Ct wr q n (seen xss k j)
theorem T3.put {w1 wr : World} {B bx : Nat} {v : Value} {aS : Option Addr} {xss : List (List Int)} {q n k j x : Nat} (h : T3 w1 wr B bx v aS xss q n k j) (hx : x < n) (hk : k < xss.length) (hj : j < xss[k].length) (he : (x : Int) = xss[k][j]) :
    T3 w1 (wr.setCell ⟨q, x, none⟩ (.int .i64 1)) B bx v aS xss q n k (j + 1) := by
  have hF : Fr (One q) wr (wr.setCell ⟨q, x, none⟩ (.int .i64 1)) := (Fr.refl (One q) wr).setCell (Or.inr rfl) _ _
  refine ⟨h.b.trans (hF.below h.b.size fun k hk e => by have : k = q := e; have := h.hq; omega), ?_, h.lx, h.hq, h.hB, h.ll.fr hF fun b hb _ e => by (have : b = q := e; have := h.hB; omega), ?_⟩
  · rw [hF.cell (Nat.lt_of_lt_of_le h.lx h.b.size) fun e => by have : bx = q := e; have := h.hq; have := h.lx; omega]; exact h.c
  · have := h.ct.put hx
    rw [he, ← seen_next hk hj] at this
    exact this
theorem T3.ring {w1 wr : World} {B bx : Nat} {v : Value} {aS : Option Addr} {xss : List (List Int)} {q n k : Nat} (hk : k < xss.length) (h : T3 w1 wr B bx v aS xss q n k xss[k].length) : T3 w1 wr B bx v aS xss q n (k + 1) 0 :=
  ⟨h.b, h.c, h.lx, h.hq, h.hB, h.ll, by rw [seen_ring hk]; exact h.ct⟩
theorem rings_len (ps : List Bk) : (ringsI ps).length ≤ ps.length ∧ ∀ l ∈ ringsI ps, l.length ≤ ps.length := by
  unfold ringsI
  split
  · constructor
    · rw [List.length_map]
      unfold ringsTo
      rw [List.length_map]
      have := List.length_filter_le (headB (tB ps) ps.length) (List.range ps.length)
      simpa using this
    · intro l hl
      obtain ⟨r, hr, rfl⟩ := List.mem_map.1 hl
      unfold ringsTo at hr
      obtain ⟨i, _, rfl⟩ := List.mem_map.1 hr
      rw [List.length_map]
      unfold ringL
      have := List.length_filter_le (fun j => wB (tB ps) ps.length i j && wB (tB ps) ps.length j i) (List.range ps.length)
      simpa using this
  · simp
theorem made_zero (n i : Nat) (h : i < n) : (madeCells (#[.int .i64 0] : Array Value) (n * 1)).toList[i]? = some (.int .i64 0) := by
  simp [madeCells, h, Nat.mod_one]
theorem Ct.made {wm : World} {B q n : Nat} (hrow : wm.ownsRow B 3 1 (.slice (some ⟨q, 0, none⟩) n n) n (madeCells (#[.int .i64 0] : Array Value) (n * 1)).toList) (xss : List (List Int)) : Ct wm q n (seen xss 0 0) := by
  have hs : seen xss 0 0 = [] := by unfold seen; simp
  have hh : ∃ cur, wm.heap[q]? = some (.cells cur 3 (0, 0)) := by
    rcases hrow.2 with ⟨h1, _⟩ | ⟨g, cap, cur, h1, _, h3, _⟩
    · cases h1
    · injection h1 with h1; injection h1 with h1; injection h1 with h1; subst h1; exact ⟨cur, h3⟩
  obtain ⟨cur, hh⟩ := hh
  have hlt : q < wm.heap.size := (hrow.lt q rfl).2
  refine ⟨hlt, fun i hi => ?_, fun i => by simp [World.frozen?, hh]⟩
  rw [hs]
  have := hrow.cells (g := q) rfl i _ (made_zero n i hi)
  have e : (⟨q, 0, none⟩ : Addr).add i = ⟨q, i, none⟩ := by
    by_cases c : i = 0
    · subst c; simp [Addr.add]
    · simp [Addr.add, c]
  rw [e] at this
  rw [this]; simp
end Go.Proofs.YtfdmahilgemlaaaDoor.Fl

namespace Go.Proofs.YtfdmahilgemlaaaDoor.Fl
open Go.ChangeShapes Go.WideShapes Go.ChangeAt Go.RowKit
open _root_.Go.Proofs.YtfdmahilgemlaaaDoor.So _root_.Go.Proofs.YtfdmahilgemlaaaDoor.Ss _root_.Go.Proofs.YtfdmahilgemlaaaDoor.Op _root_.Go.Proofs.YtfdmahilgemlaaaDoor.Fw
set_option maxRecDepth 20000

theorem Ll.below {w w' : World} {B : Nat} {a : Option Addr} {xss : List (List Int)} (h : Ll w B a xss) (hb : Below w.heap.size w w') : Ll w' B a xss := h.fr (Fr.of (X := Non) hb) fun _ _ _ e => e

/-- Are they the same, however long? -/
theorem rowsW (a b : Option Addr) (c d : Nat) (xs ys : List Int) (B B' : Nat) (w : World) (h : Il w B a xs) (g : Il w B' b ys) (hl : xs.length ≤ 2199023255552) (hl' : ys.length ≤ 2199023255552) :
    Calls Tryd.prog 7 #[.slice a xs.length c, .slice b ys.length d] w fun e w' => e = .returned (.bool (decide (xs = ys))) ∧ ∃ q, w' = w.drewN q := by
  by_cases hlen : xs.length = ys.length
  · have hz : (xs.length : Int) = (ys.length : Int) := by omega
    go_enter Tryd.func7, Tryd.ntmps7
    go_wp2
    go_loopw [5, 13] (fun _ i wr => ∃ (k q : Nat), k ≤ xs.length ∧ i = .int .i64 k ∧ wr = w.drewN q ∧ Hid (∀ j (hj : j < xs.length) (hj' : j < ys.length), j < k → xs[j] = ys[j])) (fun _ i _ => xs.length - (intOf i).toNat)
    case atStart => exact ⟨0, 0, by omega, rfl, rfl, fun j _ _ hj => by omega⟩
    case round =>
      rename_i wr
      obtain ⟨k, q, hk, rfl, rfl, hN⟩ := hrel
      by_cases hlt : k < xs.length
      · obtain ⟨p, rfl, -, hb, hc⟩ := h.is (by omega)
        obtain ⟨p', rfl, -, hb', hc'⟩ := g.is (by omega)
        have c1 := hc k hlt
        have c2 := hc' k (by omega)
        have z1 : (k : Int) < (xs.length : Int) := by omega
        have z2 : (k : Int) < (ys.length : Int) := by omega
        by_cases he : xs[k] = ys[k]
        · have hN2 : Hid (∀ j (hj : j < xs.length) (hj' : j < ys.length), j < k + 1 → xs[j] = ys[j]) := fun j hj hj' hjk => by
            rcases Nat.lt_or_ge j k with h | h
            · exact hN.out j hj hj' h
            · obtain rfl : j = k := by omega
              exact he
          rw [he] at c1
          obtain ⟨y, hy⟩ : ∃ y, y = ys[k] := ⟨_, rfl⟩
          rw [← hy] at c1 c2
          clear hc hc' h g he hy hN
          go_wp2_with fail
          go_quiet (fail)
          go_wp2
          go_roundw
          case rel => exact ⟨k + 1, q + nq, by omega, by go_num, by first | rfl | rw [World.drewN_drewN], hN2⟩
          case measure => simp [intOf]; omega
        · have hR : Hid (decide (xs = ys) = false) := decide_eq_false fun e => he (by subst e; rfl)
          obtain ⟨x, hx⟩ : ∃ x, x = xs[k] := ⟨_, rfl⟩
          obtain ⟨y, hy⟩ : ∃ y, y = ys[k] := ⟨_, rfl⟩
          rw [← hx] at c1 he
          rw [← hy] at c2 he
          clear hc hc' h g hx hy hN
          go_wp2_with fail
          go_quiet (fail)
          go_wp2
          go_ret
          exact ⟨ret_bool hR.out.symm, q + nq, by first | rfl | rw [World.drewN_drewN]⟩
      · obtain rfl : k = xs.length := by omega
        have hR : Hid (decide (xs = ys) = true) := decide_eq_true (List.ext_getElem hlen fun j h1 h2 => hN.out j h1 h2 h1)
        go_wp2
        go_ret
        exact ⟨ret_bool hR.out.symm, q, rfl⟩
  · have hz : ¬ (xs.length : Int) = (ys.length : Int) := by omega
    have hR : Hid (decide (xs = ys) = false) := decide_eq_false fun e => hlen (by rw [e])
    clear h g
    go_enter Tryd.func7, Tryd.ntmps7
    go_wp2
    go_ret
    exact ⟨ret_bool hR.out.symm, 0, rfl⟩
theorem rowsTW {xs : List Int} (a b : Option Addr) (c d B B' : Nat) (W : World) (h : Il W B a xs) (g : Il W B' b xs) (hl : xs.length ≤ 2199023255552) :
    Calls Tryd.prog 7 #[.slice a xs.length c, .slice b xs.length d] W fun e w' => e = .returned (.bool true) ∧ Below W.heap.size W w' :=
  (rowsW a b c d xs xs B B' W h g hl hl).mono fun e w' ⟨h1, q, h2⟩ => ⟨by rw [h1]; simp, by subst h2; exact ⟨rfl, rfl, rfl, Nat.le_refl _, fun _ _ => rfl⟩⟩

set_option maxHeartbeats 64000000 in
theorem law_tells (ao : Option Addr) (cap : Nat) (ps : List Bk) (block : Int) (w : World) (h : PAt w ao ps) (he : Env w) :
    Calls Tryd.prog 3 #[.agg #[.slice ao ps.length cap], .int .i64 block] w fun e w' => e = .returned (.bool true) ∧ Below w.heap.size w w' := by
  have hlen := h.len
  obtain ⟨V, hV⟩ : ∃ V, V = w.alloc (.cells #[.slice ao ps.length cap] 24) := ⟨_, rfl⟩
  have hbV : Below w.heap.size w V := by rw [hV]; go_grown
  have hU0 : Up V V w.heap.size (.slice ao ps.length cap) := ⟨Below.refl _ _, by rw [hV]; simp, by rw [hV]; simp⟩
  have hP : PAt V ao ps := h.below hbV
  have hE : Env V := he.up hbV
  obtain ⟨hr1, hr2⟩ := rings_len ps
  have hra := after_len ps block
  have hrh := ahead_len ps block
  have hrr := reach_len ps
  have H5 : Hid (∀ W, Up V W w.heap.size (.slice ao ps.length cap) → Calls Tryd.prog 5 #[.agg #[.slice ao ps.length cap]] W fun e w' => ∃ a c, e = .returned (.slice a (ringsI ps).length c) ∧ Ll w' W.heap.size a (ringsI ps) ∧ Below W.heap.size W w') := fun W hU => by
    refine (rings_any ao cap ps W (hP.below hU.b) (hE.up hU.b)).mono ?_
    rintro e w' ⟨v, rfl, a, c, rfl, h1, h2⟩
    exact ⟨a, c, rfl, h1, h2⟩
  have H6 : Hid (∀ W, Up V W w.heap.size (.slice ao ps.length cap) → Calls Tryd.prog 6 #[.agg #[.slice ao ps.length cap]] W fun e w' => ∃ a c, e = .returned (.slice a (ringsI ps).length c) ∧ Ll w' W.heap.size a (ringsI ps) ∧ Below W.heap.size W w') := fun W hU => by
    refine (refRings_any ao cap ps W (hP.below hU.b)).mono ?_
    rintro e w' ⟨v, rfl, a, c, rfl, h1, h2⟩
    exact ⟨a, c, rfl, h1, h2⟩
  have H8 : Hid (∀ W, Up V W w.heap.size (.slice ao ps.length cap) → Calls Tryd.prog 8 #[.agg #[.slice ao ps.length cap], .int .i64 block] W fun e w' => ∃ a c, e = .returned (.slice a (afterL ps block).length c) ∧ Il w' W.heap.size a (afterL ps block) ∧ Below W.heap.size W w') := fun W hU => by
    refine (after_any ao cap ps block W (hP.below hU.b) (hE.up hU.b)).mono ?_
    rintro e w' ⟨v, rfl, a, c, rfl, h1, h2⟩
    exact ⟨a, c, rfl, h1, h2⟩
  have H9 : Hid (∀ W, Up V W w.heap.size (.slice ao ps.length cap) → Calls Tryd.prog 9 #[.agg #[.slice ao ps.length cap], .int .i64 block] W fun e w' => ∃ a c, e = .returned (.slice a (afterL ps block).length c) ∧ Il w' W.heap.size a (afterL ps block) ∧ Below W.heap.size W w') := fun W hU => by
    refine (refAfter_any ao cap ps block W (hP.below hU.b)).mono ?_
    rintro e w' ⟨v, rfl, a, c, rfl, h1, h2⟩
    exact ⟨a, c, rfl, h1, h2⟩
  have H10 : Hid (∀ W, Up V W w.heap.size (.slice ao ps.length cap) → Calls Tryd.prog 10 #[.agg #[.slice ao ps.length cap], .int .i64 block] W fun e w' => ∃ a c, e = .returned (.slice a (aheadL ps block).length c) ∧ Il w' W.heap.size a (aheadL ps block) ∧ Below W.heap.size W w') := fun W hU => by
    refine (ahead_any ao cap ps block W (hP.below hU.b) (hE.up hU.b)).mono ?_
    rintro e w' ⟨v, rfl, a, c, rfl, h1, h2⟩
    exact ⟨a, c, rfl, h1, h2⟩
  have H11 : Hid (∀ W, Up V W w.heap.size (.slice ao ps.length cap) → Calls Tryd.prog 11 #[.agg #[.slice ao ps.length cap], .int .i64 block] W fun e w' => ∃ a c, e = .returned (.slice a (aheadL ps block).length c) ∧ Il w' W.heap.size a (aheadL ps block) ∧ Below W.heap.size W w') := fun W hU => by
    refine (refAhead_any ao cap ps block W (hP.below hU.b)).mono ?_
    rintro e w' ⟨v, rfl, a, c, rfl, h1, h2⟩
    exact ⟨a, c, rfl, h1, h2⟩
  have H12 : Hid (∀ W, Up V W w.heap.size (.slice ao ps.length cap) → Calls Tryd.prog 12 #[.agg #[.slice ao ps.length cap]] W fun e w' => ∃ a c, e = .returned (.slice a (reachI ps).length c) ∧ Il w' W.heap.size a (reachI ps) ∧ Below W.heap.size W w') := fun W hU => by
    refine (reached_any ao cap ps W (hP.below hU.b) (hE.up hU.b)).mono ?_
    rintro e w' ⟨v, rfl, a, c, rfl, h1, h2⟩
    exact ⟨a, c, rfl, h1, h2⟩
  have H13 : Hid (∀ W, Up V W w.heap.size (.slice ao ps.length cap) → Calls Tryd.prog 13 #[.agg #[.slice ao ps.length cap]] W fun e w' => ∃ a c, e = .returned (.slice a (reachI ps).length c) ∧ Il w' W.heap.size a (reachI ps) ∧ Below W.heap.size W w') := fun W hU => by
    refine (refReached_any ao cap ps W (hP.below hU.b)).mono ?_
    rintro e w' ⟨v, rfl, a, c, rfl, h1, h2⟩
    exact ⟨a, c, rfl, h1, h2⟩
  have H14 : Hid (∀ W, Up V W w.heap.size (.slice ao ps.length cap) → Calls Tryd.prog 14 #[] W fun e w' => e = .returned (.bool true) ∧ Below W.heap.size W w') := fun W hU => wakes_any W (hE.up hU.b)
  have HRo : Hid (∀ (xs : List Int) a b c d B B' W, Il W B a xs → Il W B' b xs → xs.length ≤ 2199023255552 → Calls Tryd.prog 7 #[.slice a xs.length c, .slice b xs.length d] W fun e w' => e = .returned (.bool true) ∧ Below W.heap.size W w') := fun xs a b c d B B' W h g hl => rowsTW a b c d B B' W h g hl
  have HV : Hid (Below w.heap.size w V) := hbV
  have HU : Hid (Up V V.drew w.heap.size (.slice ao ps.length cap)) := ⟨⟨rfl, rfl, rfl, Nat.le_refl _, fun _ _ => rfl⟩, hU0.c, hU0.lt⟩
  obtain ⟨xss, hx1⟩ : ∃ l, l = ringsI ps := ⟨_, rfl⟩
  obtain ⟨xsA, hx2⟩ : ∃ l, l = afterL ps block := ⟨_, rfl⟩
  obtain ⟨xsD, hx3⟩ : ∃ l, l = aheadL ps block := ⟨_, rfl⟩
  obtain ⟨xsR, hx4⟩ : ∃ l, l = reachI ps := ⟨_, rfl⟩
  rw [← hx1] at H5 H6 hr1 hr2
  rw [← hx2] at H8 H9 hra
  rw [← hx3] at H10 H11 hrh
  rw [← hx4] at H12 H13 hrr
  have hr3 : Hid (∀ l ∈ xss, l.length ≤ ps.length) := hr2
  clear h he hbV hU0 hP hE hx1 hx2 hx3 hx4 hr2
  go_enter Tryd.func3, Tryd.ntmps3
  go_wp2_with fail
  rw [← hV]
  clear hV
  refine wp_region_held_drew (S := fun w' => w'.cell? ⟨w.heap.size, 0, none⟩ = some (.slice ao ps.length cap)) (by kernel_rfl) HU.out.c (fun hHeld => ?_)
  refine wpAnyH_take (i := 0) (v := .agg #[.slice ao ps.length cap]) rfl (by kernel_rfl) (by kernel_rfl) (by kernel_rfl) (fun _ _ _ h => h) (Or.inl ⟨by rfl, fun w' hSw => by (dsimp only at hSw; go_simp)⟩) hHeld ?_
  simp only [Act.put, List.setIfInBounds_toArray, List.set_cons_zero, List.set_cons_succ, List.getElem_cons_zero, List.getElem_toArray]
  refine wpAnyH_take (i := 2) (v := .agg #[.slice ao ps.length cap]) rfl (by kernel_rfl) (by kernel_rfl) (by kernel_rfl) (fun _ _ _ h => h) (Or.inl ⟨by rfl, fun w' hSw => by (dsimp only at hSw; go_simp)⟩) hHeld ?_
  simp only [Act.put, List.setIfInBounds_toArray, List.set_cons_zero, List.set_cons_succ, List.getElem_cons_zero, List.getElem_cons_succ, List.getElem_toArray]
  refine wpAnyH_ready (rs := [1]) (by kernel_rfl) (by simp) ?_
  refine AllReadyH.cons rfl (fun K hK => ?_) AllReadyH.nil
  go_simp
  refine Calls.mono (H5.out _ HU.out) ?_
  rintro e w5 ⟨aA, cA, rfl, hI, hb⟩
  have LA : Hid (Ll w5 _ aA xss) := hI
  have HUn : Hid (Up V w5 w.heap.size (.slice ao ps.length cap)) := HU.out.go hb
  clear HU
  have HU : Hid (Up V w5 w.heap.size (.slice ao ps.length cap)) := HUn.out
  clear HUn
  clear hI hb H5
  refine hK.out _ _ HU.out.c (fun hHeld => ?_)
  clear hK K
  refine wpAnyH_ready (rs := [3]) (by kernel_rfl) (by simp) ?_
  refine AllReadyH.cons rfl (fun K hK => ?_) AllReadyH.nil
  go_simp
  refine Calls.mono (H6.out _ HU.out) ?_
  rintro e w6 ⟨aB, cB, rfl, hI, hb⟩
  have LA6 : Hid (Ll w6 _ aA xss) := LA.out.below hb
  have LB6 : Hid (Ll w6 _ aB xss) := hI
  have HUn : Hid (Up V w6 w.heap.size (.slice ao ps.length cap)) := HU.out.go hb
  clear HU
  have HU : Hid (Up V w6 w.heap.size (.slice ao ps.length cap)) := HUn.out
  clear HUn
  clear hI hb H6 LA
  refine hK.out _ _ HU.out.c (fun hHeld => ?_)
  clear hK K
  refine wpAnyH_take (i := 4) (v := .slice aA xss.length cA) rfl (by kernel_rfl) (by kernel_rfl) (by kernel_rfl) (fun _ _ _ h => h) (Or.inl ⟨by rfl, fun w' hSw => by (dsimp only at hSw; go_simp)⟩) hHeld ?_
  simp only [Act.put, List.setIfInBounds_toArray, List.set_cons_zero, List.set_cons_succ, List.getElem_cons_zero, List.getElem_cons_succ, List.getElem_toArray]
  refine wpAnyH_take (i := 5) (v := .slice aB xss.length cB) rfl (by kernel_rfl) (by kernel_rfl) (by kernel_rfl) (fun _ _ _ h => h) (Or.inl ⟨by rfl, fun w' hSw => by (dsimp only at hSw; go_simp)⟩) hHeld ?_
  simp only [Act.put, List.setIfInBounds_toArray, List.set_cons_zero, List.set_cons_succ, List.getElem_cons_zero, List.getElem_cons_succ, List.getElem_toArray]
  refine wpAnyH_done (by kernel_rfl) ?_ _
  generalize V.drew.heap.size = BA at *
  generalize w5.heap.size = BB at *
  go_wp2
  go_loopg [7, 19] (xss.length + 1) (fun g1 v7 vi wr => ∃ (i : Nat), vi = .int .i64 i ∧ i ≤ xss.length ∧ xss.length - i < g1 ∧ Hid ((Up V wr w.heap.size (.slice ao ps.length cap)) ∧ Ll wr BA aA xss ∧ Ll wr BB aB xss))
  case atStart => exact ⟨0, rfl, by omega, by omega, HU.out, LA6.out, LB6.out⟩
  case round =>
    clear HU LA6 LB6
    obtain ⟨i, rfl, hi, hg1, HS⟩ := hrel
    by_cases hli : i < xss.length
    · have hzi : (i : Int) < (xss.length : Int) := by omega
      obtain ⟨bA, rfl, _, _, hA⟩ := HS.out.2.1.is (by omega)
      obtain ⟨bB, rfl, _, _, hB⟩ := HS.out.2.2.is (by omega)
      obtain ⟨a0, k0, c0, i0⟩ := hA i hli
      obtain ⟨a1, k1, c1, i1⟩ := hB i hli
      have hl := hr3.out xss[i] (List.getElem_mem hli)
      have HRn : Hid (∀ n, Calls Tryd.prog 7 #[.slice a0 xss[i].length k0, .slice a1 xss[i].length k1] (wr.drewN n) fun e w2 => e = .returned (.bool true) ∧ ∃ q, w2 = (wr.drewN n).drewN q) := fun n => by
        have hbn : Below wr.heap.size wr (wr.drewN n) := ⟨rfl, rfl, rfl, Nat.le_refl _, fun _ _ => rfl⟩
        refine (rowsW a0 a1 k0 k1 xss[i] xss[i] _ _ (wr.drewN n) (i0.below hbn) (i1.below hbn) (by omega) (by omega)).mono ?_
        rintro e w' ⟨rfl, hq⟩
        exact ⟨by simp, hq⟩
      clear hA hB i0 i1
      obtain ⟨ln, hln⟩ : ∃ n, n = xss[i].length := ⟨_, rfl⟩
      rw [← hln] at c0 c1 HRn
      clear hln
      go_wp2_with fail
      go_quiet (first | (go_at_call 7; refine Calls.quiet_of (HRn.out _)))
      have HS2 : Hid ((Up V (wr.drewN nq) w.heap.size (.slice ao ps.length cap)) ∧ Ll (wr.drewN nq) BA (some ⟨bA, 0, none⟩) xss ∧ Ll (wr.drewN nq) BB (some ⟨bB, 0, none⟩) xss) := by
        have hbn : Below wr.heap.size wr (wr.drewN nq) := ⟨rfl, rfl, rfl, Nat.le_refl _, fun _ _ => rfl⟩
        exact ⟨HS.out.1.go hbn, HS.out.2.1.below hbn, HS.out.2.2.below hbn⟩
      clear HS c0 c1 HRn
      generalize wr.drewN nq = wz at HS2 ⊢
      go_wp2
      go_roundg (xss.length - i)
      case measure => omega
      case rel => exact ⟨i + 1, by go_num, by omega, by omega, HS2.out⟩
    · have hzi : ¬ (i : Int) < (xss.length : Int) := by omega
      have HU : Hid (Up V wr.drew w.heap.size (.slice ao ps.length cap)) := HS.out.1.go ⟨rfl, rfl, rfl, Nat.le_refl _, fun _ _ => rfl⟩
      clear HS hr3
      go_wp2_with fail
      refine wp_region_held_drew (S := fun w' => w'.cell? ⟨w.heap.size, 0, none⟩ = some (.slice ao ps.length cap)) (by kernel_rfl) HU.out.c (fun hHeld => ?_)
      refine wpAnyH_take (i := 0) (v := .agg #[.slice ao ps.length cap]) rfl (by kernel_rfl) (by kernel_rfl) (by kernel_rfl) (fun _ _ _ h => h) (Or.inl ⟨by rfl, fun w' hSw => by (dsimp only at hSw; go_simp)⟩) hHeld ?_
      simp only [Act.put, List.setIfInBounds_toArray, List.set_cons_zero, List.set_cons_succ, List.getElem_cons_zero, List.getElem_toArray]
      refine wpAnyH_take (i := 1) (v := .int .i64 block) rfl (by kernel_rfl) (by kernel_rfl) (by kernel_rfl) (fun _ _ _ h => h) (Or.inl ⟨by rfl, fun w' hSw => by (dsimp only at hSw; go_simp)⟩) hHeld ?_
      simp only [Act.put, List.setIfInBounds_toArray, List.set_cons_zero, List.set_cons_succ, List.getElem_cons_zero, List.getElem_cons_succ, List.getElem_toArray]
      refine wpAnyH_take (i := 3) (v := .agg #[.slice ao ps.length cap]) rfl (by kernel_rfl) (by kernel_rfl) (by kernel_rfl) (fun _ _ _ h => h) (Or.inl ⟨by rfl, fun w' hSw => by (dsimp only at hSw; go_simp)⟩) hHeld ?_
      simp only [Act.put, List.setIfInBounds_toArray, List.set_cons_zero, List.set_cons_succ, List.getElem_cons_zero, List.getElem_cons_succ, List.getElem_toArray]
      refine wpAnyH_take (i := 4) (v := .int .i64 block) rfl (by kernel_rfl) (by kernel_rfl) (by kernel_rfl) (fun _ _ _ h => h) (Or.inl ⟨by rfl, fun w' hSw => by (dsimp only at hSw; go_simp)⟩) hHeld ?_
      simp only [Act.put, List.setIfInBounds_toArray, List.set_cons_zero, List.set_cons_succ, List.getElem_cons_zero, List.getElem_cons_succ, List.getElem_toArray]
      refine wpAnyH_ready (rs := [2]) (by kernel_rfl) (by simp) ?_
      refine AllReadyH.cons rfl (fun K hK => ?_) AllReadyH.nil
      go_simp
      refine Calls.mono (H8.out _ HU.out) ?_
      rintro e w8 ⟨a8, c8, rfl, hI, hb⟩
      have Ia8 : Hid (Il w8 _ a8 xsA) := hI
      have HUn : Hid (Up V w8 w.heap.size (.slice ao ps.length cap)) := HU.out.go hb
      clear HU
      have HU : Hid (Up V w8 w.heap.size (.slice ao ps.length cap)) := HUn.out
      clear HUn
      clear hI hb
      refine hK.out _ _ HU.out.c (fun hHeld => ?_)
      clear hK K
      refine wpAnyH_ready (rs := [5]) (by kernel_rfl) (by simp) ?_
      refine AllReadyH.cons rfl (fun K hK => ?_) AllReadyH.nil
      go_simp
      refine Calls.mono (H9.out _ HU.out) ?_
      rintro e w9 ⟨a9, c9, rfl, hI, hb⟩
      have Ia8n : Hid (Il w9 _ a8 xsA) := Ia8.out.below hb
      clear Ia8
      have Ia9 : Hid (Il w9 _ a9 xsA) := hI
      have HUn : Hid (Up V w9 w.heap.size (.slice ao ps.length cap)) := HU.out.go hb
      clear HU
      have HU : Hid (Up V w9 w.heap.size (.slice ao ps.length cap)) := HUn.out
      clear HUn
      clear hI hb
      refine hK.out _ _ HU.out.c (fun hHeld => ?_)
      clear hK K
      refine wpAnyH_ready (rs := [6]) (by kernel_rfl) (by simp) ?_
      refine AllReadyH.cons rfl (fun K hK => ?_) AllReadyH.nil
      go_simp
      refine Calls.mono (HRo.out _ _ _ _ _ _ _ _ Ia8n.out Ia9.out (by omega)) ?_
      rintro e w10 ⟨rfl, hb⟩
      have HUn : Hid (Up V w10 w.heap.size (.slice ao ps.length cap)) := HU.out.go hb
      clear HU
      have HU : Hid (Up V w10 w.heap.size (.slice ao ps.length cap)) := HUn.out
      clear HUn
      clear hb Ia8n Ia9
      refine hK.out _ _ HU.out.c (fun hHeld => ?_)
      clear hK K
      refine wpAnyH_take (i := 7) (v := .bool true) rfl (by kernel_rfl) (by kernel_rfl) (by kernel_rfl) (fun _ _ _ h => h) (Or.inl ⟨by rfl, fun w' hSw => by (dsimp only at hSw; go_simp)⟩) hHeld ?_
      simp only [Act.put, List.setIfInBounds_toArray, List.set_cons_zero, List.set_cons_succ, List.getElem_cons_zero, List.getElem_cons_succ, List.getElem_toArray]
      refine wpAnyH_take (i := 8) (v := .agg #[.slice ao ps.length cap]) rfl (by kernel_rfl) (by kernel_rfl) (by kernel_rfl) (fun _ _ _ h => h) (Or.inl ⟨by rfl, fun w' hSw => by (dsimp only at hSw; go_simp)⟩) hHeld ?_
      simp only [Act.put, List.setIfInBounds_toArray, List.set_cons_zero, List.set_cons_succ, List.getElem_cons_zero, List.getElem_cons_succ, List.getElem_toArray]
      refine wpAnyH_take (i := 9) (v := .int .i64 block) rfl (by kernel_rfl) (by kernel_rfl) (by kernel_rfl) (fun _ _ _ h => h) (Or.inl ⟨by rfl, fun w' hSw => by (dsimp only at hSw; go_simp)⟩) hHeld ?_
      simp only [Act.put, List.setIfInBounds_toArray, List.set_cons_zero, List.set_cons_succ, List.getElem_cons_zero, List.getElem_cons_succ, List.getElem_toArray]
      refine wpAnyH_take (i := 11) (v := .agg #[.slice ao ps.length cap]) rfl (by kernel_rfl) (by kernel_rfl) (by kernel_rfl) (fun _ _ _ h => h) (Or.inl ⟨by rfl, fun w' hSw => by (dsimp only at hSw; go_simp)⟩) hHeld ?_
      simp only [Act.put, List.setIfInBounds_toArray, List.set_cons_zero, List.set_cons_succ, List.getElem_cons_zero, List.getElem_cons_succ, List.getElem_toArray]
      refine wpAnyH_take (i := 12) (v := .int .i64 block) rfl (by kernel_rfl) (by kernel_rfl) (by kernel_rfl) (fun _ _ _ h => h) (Or.inl ⟨by rfl, fun w' hSw => by (dsimp only at hSw; go_simp)⟩) hHeld ?_
      simp only [Act.put, List.setIfInBounds_toArray, List.set_cons_zero, List.set_cons_succ, List.getElem_cons_zero, List.getElem_cons_succ, List.getElem_toArray]
      refine wpAnyH_ready (rs := [10]) (by kernel_rfl) (by simp) ?_
      refine AllReadyH.cons rfl (fun K hK => ?_) AllReadyH.nil
      go_simp
      refine Calls.mono (H10.out _ HU.out) ?_
      rintro e w11 ⟨a11, c11, rfl, hI, hb⟩
      have Ia11 : Hid (Il w11 _ a11 xsD) := hI
      have HUn : Hid (Up V w11 w.heap.size (.slice ao ps.length cap)) := HU.out.go hb
      clear HU
      have HU : Hid (Up V w11 w.heap.size (.slice ao ps.length cap)) := HUn.out
      clear HUn
      clear hI hb
      refine hK.out _ _ HU.out.c (fun hHeld => ?_)
      clear hK K
      refine wpAnyH_ready (rs := [13]) (by kernel_rfl) (by simp) ?_
      refine AllReadyH.cons rfl (fun K hK => ?_) AllReadyH.nil
      go_simp
      refine Calls.mono (H11.out _ HU.out) ?_
      rintro e w12 ⟨a12, c12, rfl, hI, hb⟩
      have Ia11n : Hid (Il w12 _ a11 xsD) := Ia11.out.below hb
      clear Ia11
      have Ia12 : Hid (Il w12 _ a12 xsD) := hI
      have HUn : Hid (Up V w12 w.heap.size (.slice ao ps.length cap)) := HU.out.go hb
      clear HU
      have HU : Hid (Up V w12 w.heap.size (.slice ao ps.length cap)) := HUn.out
      clear HUn
      clear hI hb
      refine hK.out _ _ HU.out.c (fun hHeld => ?_)
      clear hK K
      refine wpAnyH_ready (rs := [14]) (by kernel_rfl) (by simp) ?_
      refine AllReadyH.cons rfl (fun K hK => ?_) AllReadyH.nil
      go_simp
      refine Calls.mono (HRo.out _ _ _ _ _ _ _ _ Ia11n.out Ia12.out (by omega)) ?_
      rintro e w13 ⟨rfl, hb⟩
      have HUn : Hid (Up V w13 w.heap.size (.slice ao ps.length cap)) := HU.out.go hb
      clear HU
      have HU : Hid (Up V w13 w.heap.size (.slice ao ps.length cap)) := HUn.out
      clear HUn
      clear hb Ia11n Ia12
      refine hK.out _ _ HU.out.c (fun hHeld => ?_)
      clear hK K
      refine wpAnyH_take (i := 15) (v := .bool true) rfl (by kernel_rfl) (by kernel_rfl) (by kernel_rfl) (fun _ _ _ h => h) (Or.inl ⟨by rfl, fun w' hSw => by (dsimp only at hSw; go_simp)⟩) hHeld ?_
      simp only [Act.put, List.setIfInBounds_toArray, List.set_cons_zero, List.set_cons_succ, List.getElem_cons_zero, List.getElem_cons_succ, List.getElem_toArray]
      refine wpAnyH_take (i := 16) (v := .bool true) rfl (by kernel_rfl) (by kernel_rfl) (by kernel_rfl) (fun _ _ _ h => h) (Or.inl ⟨by rfl, fun w' hSw => by (dsimp only at hSw; go_simp)⟩) hHeld ?_
      simp only [Act.put, List.setIfInBounds_toArray, List.set_cons_zero, List.set_cons_succ, List.getElem_cons_zero, List.getElem_cons_succ, List.getElem_toArray]
      refine wpAnyH_take (i := 17) (v := .agg #[.slice ao ps.length cap]) rfl (by kernel_rfl) (by kernel_rfl) (by kernel_rfl) (fun _ _ _ h => h) (Or.inl ⟨by rfl, fun w' hSw => by (dsimp only at hSw; go_simp)⟩) hHeld ?_
      simp only [Act.put, List.setIfInBounds_toArray, List.set_cons_zero, List.set_cons_succ, List.getElem_cons_zero, List.getElem_cons_succ, List.getElem_toArray]
      refine wpAnyH_take (i := 19) (v := .agg #[.slice ao ps.length cap]) rfl (by kernel_rfl) (by kernel_rfl) (by kernel_rfl) (fun _ _ _ h => h) (Or.inl ⟨by rfl, fun w' hSw => by (dsimp only at hSw; go_simp)⟩) hHeld ?_
      simp only [Act.put, List.setIfInBounds_toArray, List.set_cons_zero, List.set_cons_succ, List.getElem_cons_zero, List.getElem_cons_succ, List.getElem_toArray]
      refine wpAnyH_ready (rs := [18]) (by kernel_rfl) (by simp) ?_
      refine AllReadyH.cons rfl (fun K hK => ?_) AllReadyH.nil
      go_simp
      refine Calls.mono (H12.out _ HU.out) ?_
      rintro e w14 ⟨a14, c14, rfl, hI, hb⟩
      have Ia14 : Hid (Il w14 _ a14 xsR) := hI
      have HUn : Hid (Up V w14 w.heap.size (.slice ao ps.length cap)) := HU.out.go hb
      clear HU
      have HU : Hid (Up V w14 w.heap.size (.slice ao ps.length cap)) := HUn.out
      clear HUn
      clear hI hb
      refine hK.out _ _ HU.out.c (fun hHeld => ?_)
      clear hK K
      refine wpAnyH_ready (rs := [20]) (by kernel_rfl) (by simp) ?_
      refine AllReadyH.cons rfl (fun K hK => ?_) AllReadyH.nil
      go_simp
      refine Calls.mono (H13.out _ HU.out) ?_
      rintro e w15 ⟨a15, c15, rfl, hI, hb⟩
      have Ia14n : Hid (Il w15 _ a14 xsR) := Ia14.out.below hb
      clear Ia14
      have Ia15 : Hid (Il w15 _ a15 xsR) := hI
      have HUn : Hid (Up V w15 w.heap.size (.slice ao ps.length cap)) := HU.out.go hb
      clear HU
      have HU : Hid (Up V w15 w.heap.size (.slice ao ps.length cap)) := HUn.out
      clear HUn
      clear hI hb
      refine hK.out _ _ HU.out.c (fun hHeld => ?_)
      clear hK K
      refine wpAnyH_ready (rs := [21]) (by kernel_rfl) (by simp) ?_
      refine AllReadyH.cons rfl (fun K hK => ?_) AllReadyH.nil
      go_simp
      refine Calls.mono (HRo.out _ _ _ _ _ _ _ _ Ia14n.out Ia15.out (by omega)) ?_
      rintro e w16 ⟨rfl, hb⟩
      have HUn : Hid (Up V w16 w.heap.size (.slice ao ps.length cap)) := HU.out.go hb
      clear HU
      have HU : Hid (Up V w16 w.heap.size (.slice ao ps.length cap)) := HUn.out
      clear HUn
      clear hb Ia14n Ia15
      refine hK.out _ _ HU.out.c (fun hHeld => ?_)
      clear hK K
      refine wpAnyH_take (i := 22) (v := .bool true) rfl (by kernel_rfl) (by kernel_rfl) (by kernel_rfl) (fun _ _ _ h => h) (Or.inl ⟨by rfl, fun w' hSw => by (dsimp only at hSw; go_simp)⟩) hHeld ?_
      simp only [Act.put, List.setIfInBounds_toArray, List.set_cons_zero, List.set_cons_succ, List.getElem_cons_zero, List.getElem_cons_succ, List.getElem_toArray]
      refine wpAnyH_take (i := 23) (v := .bool true) rfl (by kernel_rfl) (by kernel_rfl) (by kernel_rfl) (fun _ _ _ h => h) (Or.inl ⟨by rfl, fun w' hSw => by (dsimp only at hSw; go_simp)⟩) hHeld ?_
      simp only [Act.put, List.setIfInBounds_toArray, List.set_cons_zero, List.set_cons_succ, List.getElem_cons_zero, List.getElem_cons_succ, List.getElem_toArray]
      refine wpAnyH_ready (rs := [24]) (by kernel_rfl) (by simp) ?_
      refine AllReadyH.cons rfl (fun K hK => ?_) AllReadyH.nil
      go_simp
      refine Calls.mono (H14.out _ HU.out) ?_
      rintro e w17 ⟨rfl, hb⟩
      have HUn : Hid (Up V w17 w.heap.size (.slice ao ps.length cap)) := HU.out.go hb
      clear HU
      have HU : Hid (Up V w17 w.heap.size (.slice ao ps.length cap)) := HUn.out
      clear HUn
      clear hb
      refine hK.out _ _ HU.out.c (fun hHeld => ?_)
      clear hK K
      refine wpAnyH_take (i := 25) (v := .bool true) rfl (by kernel_rfl) (by kernel_rfl) (by kernel_rfl) (fun _ _ _ h => h) (Or.inl ⟨by rfl, fun w' hSw => by (dsimp only at hSw; go_simp)⟩) hHeld ?_
      simp only [Act.put, List.setIfInBounds_toArray, List.set_cons_zero, List.set_cons_succ, List.getElem_cons_zero, List.getElem_cons_succ, List.getElem_toArray]
      refine wpAnyH_take (i := 26) (v := .bool true) rfl (by kernel_rfl) (by kernel_rfl) (by kernel_rfl) (fun _ _ _ h => h) (Or.inl ⟨by rfl, fun w' hSw => by (dsimp only at hSw; go_simp)⟩) hHeld ?_
      simp only [Act.put, List.setIfInBounds_toArray, List.set_cons_zero, List.set_cons_succ, List.getElem_cons_zero, List.getElem_cons_succ, List.getElem_toArray]
      refine wpAnyH_done (by kernel_rfl) ?_ _
      go_wp2
      go_ret
      exact ⟨rfl, HV.out.trans (HU.out.b.mono HV.out.size)⟩
end Go.Proofs.YtfdmahilgemlaaaDoor.Fl

namespace Go.Proofs.YtfdmahilgemlaaaDoor.Op
open Go.ChangeShapes Go.WideShapes Go.ChangeAt Go.RowKit

theorem wf64 {n : Int} (h : (Lit.int .i64 n).wf = true) : -9223372036854775808 ≤ n ∧ n ≤ 9223372036854775807 := by
  simp [Lit.wf, IntKind.min, IntKind.max, IntKind.signed, IntKind.bits] at h
  omega
theorem wf8 {n : Int} (h : (Lit.int .i8 n).wf = true) : -128 ≤ n ∧ n ≤ 127 := by
  simp [Lit.wf, IntKind.min, IntKind.max, IntKind.signed, IntKind.bits] at h
  omega
theorem wfu8 {n : Int} (h : (Lit.int .u8 n).wf = true) : 0 ≤ n ∧ n ≤ 255 := by
  simp [Lit.wf, IntKind.min, IntKind.max, IntKind.signed, IntKind.bits] at h
  omega
theorem own : ownKnob Tryd.prog.godebug = none := by kernel_rfl
def laid1 : List (String × DataW Unit) := [("hayloft/program.ends", Rows.laid_hayloft_program_ends)]
theorem four {p : Nat → Prop} (h0 : p 0) (h1 : p 1) (h2 : p 2) (h3 : p 3) : ∀ k, k < 4 → p k := by
  intro k hk
  match k, hk with
  | 0, _ => exact h0
  | 1, _ => exact h1
  | 2, _ => exact h2
  | 3, _ => exact h3
theorem trod_bool1 {H : Type} {enc : TypeId × Value → H} {W : World} {base fuel : Nat} {sp : Nat → Bool} {held : Bool} {c : Value} {y : DataW H × List MemPlace} (h : DataW.trod enc Tryd.prog W base sp held fuel 4 [c] = some y) : ∃ b : Bool, c = .bool b ∧ y.1 = .lit (.bool b) := by
  obtain ⟨b, e, f⟩ := DataW.trod_bool Tryd.underlying4 h
  exact ⟨b, by simpa using e, by rw [f]⟩
theorem trod_end {H : Type} {enc : TypeId × Value → H} {W : World} {base fuel : Nat} {sp : Nat → Bool} {held : Bool} {c0 c1 c2 c3 : Value} {y : DataW H × List MemPlace} (h : DataW.trod enc Tryd.prog W base sp held fuel 73 [c0, c1, c2, c3] = some y) :
    ∃ a b c d : Bool, c0 = .bool a ∧ c1 = .bool b ∧ c2 = .bool c ∧ c3 = .bool d ∧ y.1 = .agg [.lit (.bool a), .lit (.bool b), .lit (.bool c), .lit (.bool d)] := by
  obtain ⟨y0, y1, y2, y3, n, hx, _, h0, h1, h2, h3⟩ := Joins.trod_struct4 Tryd.underlying73 h
  have k4 : Tryd.prog.cellsOf 4 = 1 := by kernel_rfl
  rw [k4] at h0 h1 h2 h3
  obtain ⟨a, e0, f0⟩ := trod_bool1 h0
  obtain ⟨b, e1, f1⟩ := trod_bool1 h1
  obtain ⟨c, e2, f2⟩ := trod_bool1 h2
  obtain ⟨d, e3, f3⟩ := trod_bool1 h3
  exact ⟨a, b, c, d, e0, e1, e2, e3, by rw [hx, f0, f1, f2, f3]⟩
set_option maxRecDepth 20000 in
theorem ends_of {W : World} (h : Lib.VarReads Tryd.prog W "hayloft/program.ends" Rows.laid_hayloft_program_ends) : EndsAt W ∧ 1 ≤ W.heap.size := by
  have hg : Tryd.prog.globalNamed "hayloft/program.ends" = some 0 := by kernel_rfl
  have ht : (Tryd.prog.globals[0]?).map (·.type) = some 85 := by kernel_rfl
  obtain ⟨g0, t0, cs, fuel, p, h1, h2, h3, h4⟩ := h
  obtain rfl := Option.some.inj (hg.symm.trans h1)
  obtain rfl := Option.some.inj (ht.symm.trans h2)
  have hbig : 1 ≤ W.heap.size := by
    have h3' := h3
    rw [World.var?, hg, Option.bind_some] at h3'
    rcases Nat.lt_or_ge 0 W.heap.size with h | h
    · exact h
    · rw [Array.getElem?_eq_none h] at h3'; cases h3'
  obtain ⟨xs, m, _, hx, hl, hn, he⟩ := DataW.trod_array Tryd.underlying85 h4
  have c73 : Tryd.prog.cellsOf 73 = 4 := by kernel_rfl
  have c85 : Tryd.prog.cellsOf 85 = 16 := by kernel_rfl
  rw [c85] at hl
  rw [c73] at he
  obtain ⟨l⟩ := cs
  match xs, hn, l, hl with
  | [x0, x1, x2, x3], _, [v0, v1, v2, v3, v4, v5, v6, v7, v8, v9, va, vb, vc, vd, ve, vf], _ =>
    obtain ⟨a0, a1, a2, a3, rfl, rfl, rfl, rfl, e0⟩ := trod_end (he 0 (by omega))
    obtain ⟨b0, b1, b2, b3, rfl, rfl, rfl, rfl, e1⟩ := trod_end (he 1 (by omega))
    obtain ⟨c0, c1, c2, c3, rfl, rfl, rfl, rfl, e2⟩ := trod_end (he 2 (by omega))
    obtain ⟨d0, d1, d2, d3, rfl, rfl, rfl, rfl, e3⟩ := trod_end (he 3 (by omega))
    simp [Rows.laid_hayloft_program_ends, e0, e1, e2, e3] at hx
    obtain ⟨⟨⟨rfl, rfl, rfl, rfl⟩, ⟨rfl, rfl, rfl, rfl⟩, ⟨rfl, rfl, rfl, rfl⟩, ⟨rfl, rfl, rfl, rfl⟩⟩, _⟩ := hx
    have cc := fun i => World.var?_cell h1 h3 i
    refine ⟨⟨four (p := fun k => W.cell? ⟨0, k * 4, none⟩ = some (.bool (eA k)) ∧ W.cell? ⟨0, k * 4 + 1, none⟩ = some (.bool (eB k)) ∧ W.cell? ⟨0, k * 4 + 2, none⟩ = some (.bool (eT k)) ∧ W.cell? ⟨0, k * 4 + 3, none⟩ = some (.bool (eE k))) ⟨?_, ?_, ?_, ?_⟩ ⟨?_, ?_, ?_, ?_⟩ ⟨?_, ?_, ?_, ?_⟩ ⟨?_, ?_, ?_, ?_⟩⟩, hbig⟩
    · exact (cc 0)
    · exact (cc 1)
    · exact (cc 2)
    · exact (cc 3)
    · exact (cc 4)
    · exact (cc 5)
    · exact (cc 6)
    · exact (cc 7)
    · exact (cc 8)
    · exact (cc 9)
    · exact (cc 10)
    · exact (cc 11)
    · exact (cc 12)
    · exact (cc 13)
    · exact (cc 14)
    · exact (cc 15)
set_option maxRecDepth 20000 in
theorem env_of {W : World} (hL : laidMetH Tryd.prog laid1 W) : Env W := by
  have hP : laidMet Tryd.prog laid1 W := hL
  have he := ends_of (Lib.laidMet.reads hP (n := "hayloft/program.ends") (d := Rows.laid_hayloft_program_ends) (by simp [laid1]))
  exact ⟨he.1, he.2⟩

set_option maxRecDepth 100000 in
/-- The wrap: what the listed variables hold, and the world's shape, are handed to the contract. -/
theorem wrap {H : Type} {enc : TypeId × Value → H} {os : Os} {f : FuncId} {fn : Func} {s : ChangeSpec} {lv : List (String × DataW Unit)} (started : os.Started) (noInit : Tryd.prog.inits.idxOf? f = none) (hfn : Tryd.prog.funcs[f]? = some fn)
    (witness : ∃ (w : World) (tape : Tape) (i : Input), w.os = os ∧ (w.forCall tape i).Shaped Tryd.prog ∧ i.vars = [] ∧ Input.okWide Tryd.prog (w.forCall tape i) .any w.heap.size f i ∧
      ((s.pre enc Tryd.prog fn [] false (w.forCall tape i).memory i.args ∧ laidMetH Tryd.prog lv (w.forCall tape i).memory) ∧ sizedMet enc Tryd.prog fn (OpenSpec.ofChange s) false (w.forCall tape i).memory i.args) ∧ Assume.holds {} Tryd.prog (lone (Frame.enter Tryd.prog f i.args .normal) [] (w.forCall tape i)))
    (contract : ∀ (W : World) (base : Nat) (args : Array Value) (ds gs : List (DataW H)) (before : List MemPlace),
      (∀ (j : Nat) t v, fn.params[j]? = some t → args[j]? = some v → Value.okWide Tryd.prog W .any base t v) →
      DataW.Whole enc Tryd.prog fn.params.toList s.vars false W args.toList ds gs before →
      (DataW.weightsEach Tryd.prog (fn.params.toList ++ s.plain.varTypes Tryd.prog) (ds ++ gs)).all (· ≤ reachBytes) = true →
      laidMetH Tryd.prog lv W → W.ShapedOpen Tryd.prog →
      Calls Tryd.prog f args W fun e W' => ∃ v, e = .returned v ∧ s.post enc Tryd.prog fn false true false false W args v W') :
    ReturnsInHanded {} Tryd.checked os f .any (fun w args => (s.pre enc Tryd.prog fn [] false w args ∧ laidMetH Tryd.prog lv w) ∧ sizedMet enc Tryd.prog fn (OpenSpec.ofChange s) false w args) (s.post enc Tryd.prog fn false true false false) := by
  refine returnsInHanded_of_calls (C := Tryd.checked) own started noInit witness ?_
  intro w tape i _ hsh _ hok hpre hholds
  obtain ⟨_, _, _, fn', hfn', _, _, _, _, hval⟩ := hok
  have e : fn' = fn := Option.some.inj (hfn'.symm.trans hfn)
  subst e
  obtain ⟨⟨⟨ds, gs, before, hw, hc⟩, hx⟩, hz⟩ := hpre
  have hw' := DataW.Whole.of_heap (w' := w.forCall tape i) (by rfl) hw
  refine (contract (w.forCall tape i) w.heap.size i.args ds gs before hval hw' (hz.weights hw) (hx.of_heap (by rfl)) hsh).mono fun e W' ⟨v, he, hp⟩ => ?_
  subst he
  exact ChangeSpec.post_blind hp


set_option maxRecDepth 100000 in
theorem wit_met (os : Os) (args : Array Value) : laidMetH Tryd.prog laid1 ((((World.holding Tryd.prog os ⟨#[], #[], []⟩).layVars Tryd.prog laid1).forCall (fun _ _ => 0) ⟨#[], args, []⟩).memory) := by
  refine laidMetH_of_parts ?_ (by kernel_rfl)
  have h : laidMet Tryd.prog laid1 ((World.holding Tryd.prog os ⟨#[], #[], []⟩).layVars Tryd.prog laid1) :=
    laidMet_layVars (w0 := World.holding Tryd.prog os ⟨#[], #[], []⟩) ["hayloft/program.ends"] [] (by rw [show (laid1.filter fun x => (["hayloft/program.ends"] : List String).contains x.1) = laid1 from by kernel_rfl]) (by kernel_rfl) (by kernel_rfl) (by rw [show (laid1.filter fun x => !(["hayloft/program.ends"] : List String).contains x.1) = [] from by kernel_rfl]; exact LaidIn.none)
  exact h.of_heap (by simp [World.memory, World.forCall, Input.heap])
theorem wit_os (os : Os) : ((World.holding Tryd.prog os ⟨#[], #[], []⟩).layVars Tryd.prog laid1).os = os := World.layVars_os _ _ _
theorem tySize : Tryd.prog.types.size = 124 := by kernel_rfl
theorem laidOut : laidOutB Tryd.prog = true := by kernel_rfl
theorem trod_struct5 {H : Type} {enc : TypeId × Value → H} {P : Program} {w : World} {base : Nat} {spare : Nat → Bool} {held : Bool} {t : TypeId} {f0 f1 f2 f3 f4 : Field} {fuel : Nat} {cs : List Value} {x : DataW H × List MemPlace} (ht : P.underlying t = some (.struct #[f0, f1, f2, f3, f4])) (h : DataW.trod enc P w base spare held fuel t cs = some x) :
    ∃ y0 y1 y2 y3 y4 n, x = (.agg [y0.1, y1.1, y2.1, y3.1, y4.1], y0.2 ++ (y1.2 ++ (y2.2 ++ (y3.2 ++ y4.2)))) ∧ cs.length = P.cellsOf t ∧ DataW.trod enc P w base spare held n f0.type ((cs.drop f0.offset).take (P.cellsOf f0.type)) = some y0 ∧
      DataW.trod enc P w base spare held n f1.type ((cs.drop f1.offset).take (P.cellsOf f1.type)) = some y1 ∧ DataW.trod enc P w base spare held n f2.type ((cs.drop f2.offset).take (P.cellsOf f2.type)) = some y2 ∧
      DataW.trod enc P w base spare held n f3.type ((cs.drop f3.offset).take (P.cellsOf f3.type)) = some y3 ∧ DataW.trod enc P w base spare held n f4.type ((cs.drop f4.offset).take (P.cellsOf f4.type)) = some y4 := by
  obtain ⟨xs, n, _, rfl, hl, hlen, hf⟩ := DataW.trod_struct ht h
  match xs, hlen with
  | [y0, y1, y2, y3, y4], _ => exact ⟨y0, y1, y2, y3, y4, n, by simp, hl, by simpa using hf 0 f0 rfl, by simpa using hf 1 f1 rfl, by simpa using hf 2 f2 rfl, by simpa using hf 3 f3 rfl, by simpa using hf 4 f4 rfl⟩

end Go.Proofs.YtfdmahilgemlaaaDoor.Op

namespace Go.Proofs.YtfdmahilgemlaaaDoor.Op
open Go.ChangeShapes Go.WideShapes Go.ChangeAt Go.RowKit
set_option maxRecDepth 20000

theorem opsAt_nil (w : World) (ao : Option Addr) : OpsAt w ao [] := ⟨by simp, by simp, fun h => by simp at h⟩
theorem pAt_nil (w : World) (ao : Option Addr) : PAt w ao [] := ⟨by simp, fun h => by simp at h⟩
theorem reach_eq : reachBytes = 140737488351232 := rfl
theorem addr_add (b f : Nat) (n : Nat) : (⟨b, f, none⟩ : Addr).add n = ⟨b, f + n, none⟩ := by
  unfold Addr.add
  split
  · rename_i h; subst h; rfl
  · rfl
/-- Cells in a row, told by block and offset. -/
theorem cells_at {w : World} {b f n : Nat} {cs : List Value} (h : w.cells? 0 ⟨b, f, none⟩ n = some cs) (hn : 0 < n) : b < w.heap.size ∧ ∀ i v, cs[i]? = some v → w.cell? ⟨b, f + i, none⟩ = some v := by
  obtain ⟨_, hl, hc⟩ := World.cells?_some h
  refine ⟨World.cells?_block h hn, fun i v e => ?_⟩
  have hi : i < n := by
    rcases Nat.lt_or_ge i n with h | h
    · exact h
    · rw [List.getElem?_eq_none (by omega)] at e; cases e
  have := hc i hi
  rw [addr_add, e] at this
  exact this
theorem spot_none {w : World} {a : Addr} {n : Nat} {cs : List Value} (h : w.cells? 0 a n = some cs) (hn : 0 < n) : a = ⟨a.block, a.off, none⟩ := by
  obtain ⟨_, hl, hc⟩ := World.cells?_some h
  have h0 := hc 0 hn
  have ha : a.add 0 = a := by unfold Addr.add; simp
  rw [ha, List.getElem?_eq_getElem (by omega)] at h0
  obtain ⟨b, f, s⟩ := a
  cases s with
  | none => rfl
  | some s =>
    unfold World.cell? at h0
    split at h0
    · simp at h0
    · cases h0
instance : Inhabited O := ⟨⟨0, 0, 0, 0, 0⟩⟩
instance : Inhabited Bk := ⟨⟨[], 0, 0, [], 0, 0⟩⟩

theorem weightsAll_mem {H : Type} {P : Program} {e : TypeId} {d : DataW H} {n : Nat} : ∀ {l : List (DataW H)}, d ∈ l → n ∈ d.weights P e → n ∈ DataW.weightsAll P e l
  | x :: r, hd, hn => by
    unfold DataW.weightsAll
    rcases List.mem_cons.1 hd with rfl | hd
    · exact List.mem_append_left _ hn
    · exact List.mem_append_right _ (weightsAll_mem hd hn)

/-- One operation, out of its cells. -/
theorem open_o {H : Type} {enc : TypeId × Value → H} {W : World} {base fuel : Nat} {sp : Nat → Bool} {held : Bool} {cs : List Value} {y : DataW H × List MemPlace} (h : DataW.trod enc Tryd.prog W base sp held fuel 82 cs = some y) : ∃ o : O, o.Ok ∧ cs = [.int .i8 o.op, .int .u8 o.d, .int .u8 o.a, .int .u8 o.b, .int .i64 o.im] := by
  have k49 : Tryd.prog.cellsOf 82 = 5 := by kernel_rfl
  have k38 : Tryd.prog.cellsOf 48 = 1 := by kernel_rfl
  have k5 : Tryd.prog.cellsOf 5 = 1 := by kernel_rfl
  have k2 : Tryd.prog.cellsOf 2 = 1 := by kernel_rfl
  obtain ⟨y0, y1, y2, y3, y4, n, hx, hl, h0, h1, h2, h3, h4⟩ := trod_struct5 Tryd.underlying82 h
  rw [k49] at hl
  match cs, hl with
  | [c0, c1, c2, c3, c4], _ =>
    rw [k38] at h0
    rw [k5] at h1 h2 h3
    rw [k2] at h4
    obtain ⟨a, a1, a2, a3⟩ := DataW.trod_int Tryd.underlying48 h0
    obtain ⟨b, b1, b2, b3⟩ := DataW.trod_int Tryd.underlying5 h1
    obtain ⟨c, c1', c2', c3'⟩ := DataW.trod_int Tryd.underlying5 h2
    obtain ⟨e, e1, e2, e3⟩ := DataW.trod_int Tryd.underlying5 h3
    obtain ⟨g, g1, g2, g3⟩ := DataW.trod_int Tryd.underlying2 h4
    have a1' : [c0] = [Value.int .i8 a] := a1
    have b1' : [c1] = [Value.int .u8 b] := b1
    have c1'' : [c2] = [Value.int .u8 c] := c1'
    have e1' : [c3] = [Value.int .u8 e] := e1
    have g1' : [c4] = [Value.int .i64 g] := g1
    obtain rfl : c0 = .int .i8 a := by simpa using a1'
    obtain rfl : c1 = .int .u8 b := by simpa using b1'
    obtain rfl : c2 = .int .u8 c := by simpa using c1''
    obtain rfl : c3 = .int .u8 e := by simpa using e1'
    obtain rfl : c4 = .int .i64 g := by simpa using g1'
    have w0 := wf8 a3
    have w1 := wfu8 b3
    have w2 := wfu8 c3'
    have w3 := wfu8 e3
    have w4 := wf64 g3
    exact ⟨⟨a, b, c, e, g⟩, ⟨w0.1, w0.2, w1.1, w1.2, w2.1, w2.2, w3.1, w3.2, w4.1, w4.2⟩, rfl⟩

/-- A list of operations, out of its cell. -/
theorem open_list {H : Type} {enc : TypeId × Value → H} {W : World} {fuel : Nat} {held : Bool} {cs : List Value} {y : DataW H × List MemPlace} (h : DataW.trod enc Tryd.prog W 0 (fun _ => true) held fuel 47 cs = some y) (hw : ∀ n, n ∈ y.1.weights Tryd.prog 47 → n ≤ reachBytes) :
    ∃ (ao : Option Addr) (cap : Nat) (xs : List O), cs = [.slice ao xs.length cap] ∧ OpsAt W ao xs := by
  have k49 : Tryd.prog.cellsOf 82 = 5 := by kernel_rfl
  have b49 : Tryd.prog.bytesOf 82 = 16 := by kernel_rfl
  rcases Deep.open_slice Tryd.underlying47 h with ⟨rfl, rfl⟩ | ⟨a, len, cap, m, n, D, Pl, rfl, _, hlc, _, hm, rfl, hx⟩
  · exact ⟨none, 0, [], rfl, opsAt_nil _ _⟩
  · have hmc : m = cap := by simpa using hm
    subst hmc
    have hcap : m * 16 ≤ reachBytes := by
      refine hw _ ?_
      unfold DataW.weights
      simp only [Tryd.underlying47, b49]
      refine List.mem_cons.2 (.inl ?_)
      simp; omega
    rw [reach_eq] at hcap
    rw [k49] at hx
    obtain ⟨X, hX⟩ := Deep.choose_lt (α := O) (n := len) (p := fun i o => o.Ok ∧ W.cells? 0 (a.add (i * 5)) 5 = some [.int .i8 o.op, .int .u8 o.d, .int .u8 o.a, .int .u8 o.b, .int .i64 o.im]) (fun i hi => by
      obtain ⟨cs', h1, h2⟩ := hx i (by omega)
      obtain ⟨o, ho, rfl⟩ := open_o h2
      exact ⟨o, ho, h1⟩)
    refine ⟨some a, m, (List.range len).map X, by simp, ⟨fun o ho => ?_, by simp; omega, fun h0 => ?_⟩⟩
    · obtain ⟨i, hi, rfl⟩ := List.mem_map.1 ho
      exact (hX i (List.mem_range.1 hi)).1
    · have h0' : 0 < len := by simpa using h0
      have ha : a = ⟨a.block, a.off, none⟩ := by
        have := (hX 0 h0').2
        rw [show a.add (0 * 5) = a by unfold Addr.add; simp] at this
        exact spot_none this (by omega)
      refine ⟨a.block, a.off, by rw [← ha], ?_, fun i hi => ?_⟩
      · have := (hX 0 h0').2
        rw [ha, addr_add] at this
        exact (cells_at this (by omega)).1
      · have hi' : i < len := by simpa using hi
        have := (hX i hi').2
        rw [ha, addr_add] at this
        have hc := (cells_at this (by omega)).2
        simp only [List.getElem_map, List.getElem_range]
        exact ⟨hc 0 _ rfl, hc 1 _ rfl, hc 2 _ rfl, hc 3 _ rfl, hc 4 _ rfl⟩

theorem trod_struct6 {H : Type} {enc : TypeId × Value → H} {P : Program} {w : World} {base : Nat} {spare : Nat → Bool} {held : Bool} {t : TypeId} {f0 f1 f2 f3 f4 f5 : Field} {fuel : Nat} {cs : List Value} {x : DataW H × List MemPlace} (ht : P.underlying t = some (.struct #[f0, f1, f2, f3, f4, f5])) (h : DataW.trod enc P w base spare held fuel t cs = some x) :
    ∃ y0 y1 y2 y3 y4 y5 n, x.1 = .agg [y0.1, y1.1, y2.1, y3.1, y4.1, y5.1] ∧ cs.length = P.cellsOf t ∧ DataW.trod enc P w base spare held n f0.type ((cs.drop f0.offset).take (P.cellsOf f0.type)) = some y0 ∧
      DataW.trod enc P w base spare held n f1.type ((cs.drop f1.offset).take (P.cellsOf f1.type)) = some y1 ∧ DataW.trod enc P w base spare held n f2.type ((cs.drop f2.offset).take (P.cellsOf f2.type)) = some y2 ∧
      DataW.trod enc P w base spare held n f3.type ((cs.drop f3.offset).take (P.cellsOf f3.type)) = some y3 ∧ DataW.trod enc P w base spare held n f4.type ((cs.drop f4.offset).take (P.cellsOf f4.type)) = some y4 ∧ DataW.trod enc P w base spare held n f5.type ((cs.drop f5.offset).take (P.cellsOf f5.type)) = some y5 := by
  obtain ⟨xs, n, _, rfl, hl, hlen, hf⟩ := DataW.trod_struct ht h
  match xs, hlen with
  | [y0, y1, y2, y3, y4, y5], _ => exact ⟨y0, y1, y2, y3, y4, y5, n, by simp, hl, by simpa using hf 0 f0 rfl, by simpa using hf 1 f1 rfl, by simpa using hf 2 f2 rfl, by simpa using hf 3 f3 rfl, by simpa using hf 4 f4 rfl, by simpa using hf 5 f5 rfl⟩

/-- One block, out of its cells. -/
theorem open_b {H : Type} {enc : TypeId × Value → H} {W : World} {fuel : Nat} {held : Bool} {cs : List Value} {y : DataW H × List MemPlace} (h : DataW.trod enc Tryd.prog W 0 (fun _ => true) held fuel 50 cs = some y) (hw : ∀ n, n ∈ y.1.weights Tryd.prog 50 → n ≤ reachBytes) :
    ∃ (x : Bk) (p : Pl), BIn W x p ∧ cs = (x.cells p).toList := by
  have k40 : Tryd.prog.cellsOf 50 = 6 := by kernel_rfl
  have k37 : Tryd.prog.cellsOf 47 = 1 := by kernel_rfl
  have k38 : Tryd.prog.cellsOf 48 = 1 := by kernel_rfl
  have k5 : Tryd.prog.cellsOf 5 = 1 := by kernel_rfl
  have k3 : Tryd.prog.cellsOf 3 = 1 := by kernel_rfl
  obtain ⟨y0, y1, y2, y3, y4, y5, n, hx, hl, h0, h1, h2, h3, h4, h5⟩ := trod_struct6 Tryd.underlying50 h
  rw [k40] at hl
  have hw' : ∀ n, n ∈ DataW.weightsEach Tryd.prog [47, 48, 5, 47, 3, 3] [y0.1, y1.1, y2.1, y3.1, y4.1, y5.1] → n ≤ reachBytes := fun n hn => by
    refine hw n ?_
    rw [hx]
    unfold DataW.weights
    simp only [Tryd.underlying50]
    exact hn
  match cs, hl with
  | [c0, c1, c2, c3, c4, c5], _ =>
    rw [k37] at h0 h3
    rw [k38] at h1
    rw [k5] at h2
    rw [k3] at h4 h5
    obtain ⟨oa, oc, os, e0, i0⟩ := open_list h0 fun n hn => hw' n (DataW.weights_mem_each (j := 0) rfl rfl n hn)
    obtain ⟨ba, bc, bs, e3, i3⟩ := open_list h3 fun n hn => hw' n (DataW.weights_mem_each (j := 3) rfl rfl n hn)
    obtain ⟨f, f1, _, f3⟩ := DataW.trod_int Tryd.underlying48 h1
    obtain ⟨a, a1, _, a3⟩ := DataW.trod_int Tryd.underlying5 h2
    obtain ⟨u, u1, _, u3⟩ := DataW.trod_int Tryd.underlying3 h4
    obtain ⟨v, v1, _, v3⟩ := DataW.trod_int Tryd.underlying3 h5
    have e0' : [c0] = [Value.slice oa os.length oc] := e0
    have e3' : [c3] = [Value.slice ba bs.length bc] := e3
    have f1' : [c1] = [Value.int .i8 f] := f1
    have a1' : [c2] = [Value.int .u8 a] := a1
    have u1' : [c4] = [Value.int .i64 u] := u1
    have v1' : [c5] = [Value.int .i64 v] := v1
    obtain rfl : c0 = .slice oa os.length oc := by simpa using e0'
    obtain rfl : c3 = .slice ba bs.length bc := by simpa using e3'
    obtain rfl : c1 = .int .i8 f := by simpa using f1'
    obtain rfl : c2 = .int .u8 a := by simpa using a1'
    obtain rfl : c4 = .int .i64 u := by simpa using u1'
    obtain rfl : c5 = .int .i64 v := by simpa using v1'
    have w1 := wf8 f3
    have w2 := wfu8 a3
    have w4 := wf64 u3
    have w5 := wf64 v3
    exact ⟨⟨os, f, a, bs, u, v⟩, ⟨oa, oc, ba, bc⟩, ⟨⟨w1.1, w1.2, w2.1, w2.2, w4.1, w4.2, w5.1, w5.2⟩, i0, i3⟩, rfl⟩

/-- The blocks, out of their cell. -/
theorem open_blocks {H : Type} {enc : TypeId × Value → H} {W : World} {fuel : Nat} {held : Bool} {cs : List Value} {y : DataW H × List MemPlace} (h : DataW.trod enc Tryd.prog W 0 (fun _ => true) held fuel 22 cs = some y) (hw : ∀ n, n ∈ y.1.weights Tryd.prog 22 → n ≤ reachBytes) :
    ∃ (ao : Option Addr) (cap : Nat) (ps : List Bk), cs = [.slice ao ps.length cap] ∧ PAt W ao ps ∧ ps.length ≤ cap ∧ cap ≤ maxLen := by
  have k40 : Tryd.prog.cellsOf 50 = 6 := by kernel_rfl
  have b40 : Tryd.prog.bytesOf 50 = 72 := by kernel_rfl
  rcases Deep.open_slice Tryd.underlying22 h with ⟨rfl, rfl⟩ | ⟨a, len, cap, m, n, D, Pl, rfl, _, hlc, hmx, hm, rfl, hx⟩
  · exact ⟨none, 0, [], rfl, pAt_nil _ _, Nat.le_refl _, Nat.zero_le _⟩
  · have hmc : m = cap := by simpa using hm
    subst hmc
    have hall : ∀ n, n ∈ (m * 72) :: (DataW.weightsAll Tryd.prog 50 ((List.range len).map D) ++ DataW.weightsAll Tryd.prog 50 ((List.range (m - len)).map fun j => D (len + j))) → n ≤ reachBytes := fun n hn => by
      refine hw n ?_
      unfold DataW.weights
      simp only [Tryd.underlying22, b40]
      rw [show ((List.range len).map D).length + ((List.range (m - len)).map fun j => D (len + j)).length = m by simp; omega]
      exact hn
    have hcap : m * 72 ≤ reachBytes := hall _ (List.mem_cons_self ..)
    rw [reach_eq] at hcap
    rw [k40] at hx
    obtain ⟨X, hX⟩ := Deep.choose_lt (α := Bk) (n := len) (p := fun i x => ∃ p, BIn W x p ∧ W.cells? 0 (a.add (i * 6)) 6 = some (x.cells p).toList) (fun i hi => by
      obtain ⟨cs', h1, h2⟩ := hx i (by omega)
      obtain ⟨x, p, hb, rfl⟩ := open_b h2 fun n hn => hall n (List.mem_cons_of_mem _ (List.mem_append_left _ (weightsAll_mem (List.mem_map.2 ⟨i, List.mem_range.2 hi, rfl⟩) hn)))
      exact ⟨x, p, hb, h1⟩)
    refine ⟨some a, m, (List.range len).map X, by simp, ⟨by simp; omega, fun h0 => ?_⟩, by simpa using hlc, hmx⟩
    have h0' : 0 < len := by simpa using h0
    have ha : a = ⟨a.block, a.off, none⟩ := by
      obtain ⟨_, _, this⟩ := hX 0 h0'
      rw [show a.add (0 * 6) = a by unfold Addr.add; simp] at this
      exact spot_none this (by omega)
    refine ⟨a.block, a.off, by rw [← ha], ?_, fun i hi => ?_⟩
    · obtain ⟨_, _, this⟩ := hX 0 h0'
      rw [ha, addr_add] at this
      exact (cells_at this (by omega)).1
    · have hi' : i < len := by simpa using hi
      obtain ⟨p, hb, this⟩ := hX i hi'
      rw [ha, addr_add] at this
      have hc := (cells_at this (by omega)).2
      simp only [List.getElem_map, List.getElem_range]
      exact ⟨p, ⟨hc 0 _ rfl, hc 1 _ rfl, hc 2 _ rfl, hc 3 _ rfl, hc 4 _ rfl, hc 5 _ rfl⟩, hb⟩

/-- A program that comes in. -/
theorem open_prog {H : Type} {enc : TypeId × Value → H} {W : World} {r : Reach} {b0 : Nat} {held : Bool} {v : Value} {d : DataW H} {p : List MemPlace} (hv : Value.okWide Tryd.prog W r b0 24 v) (h : DataW.Trod enc Tryd.prog W 0 (fun _ => true) held 24 v d p) (hw : ∀ n, n ∈ d.weights Tryd.prog 24 → n ≤ reachBytes) :
    ∃ (ao : Option Addr) (cap : Nat) (ps : List Bk), v = .agg #[.slice ao ps.length cap] ∧ PAt W ao ps ∧ ps.length ≤ cap ∧ cap ≤ maxLen := by
  obtain ⟨cs, rfl, hsz⟩ := okWide_struct Tryd.underlying24 hv
  have k24 : Tryd.prog.cellsOf 24 = 1 := by kernel_rfl
  have k22 : Tryd.prog.cellsOf 22 = 1 := by kernel_rfl
  rw [k24] at hsz
  obtain ⟨l⟩ := cs
  clear hv
  match l, hsz with
  | [c0], _ =>
    obtain ⟨fuel, hf⟩ := h
    obtain ⟨xs, n, _, hx, _, hlen, hff⟩ := DataW.trod_struct Tryd.underlying24 hf
    match xs, hlen with
    | [y0], _ =>
      have h0 : DataW.trod enc Tryd.prog W 0 (fun _ => true) held n 22 ((([c0] : List Value).drop 0).take (Tryd.prog.cellsOf 22)) = some y0 := hff 0 _ rfl
      rw [k22] at h0
      have hd : d = .agg [y0.1] := by simpa using congrArg Prod.fst hx
      obtain ⟨ao, cap, ps, e, hp, h1, h2⟩ := open_blocks (y := y0) h0 fun n hn => hw n (by
        rw [hd]
        unfold DataW.weights
        simp only [Tryd.underlying24]
        exact DataW.weights_mem_each (ts := [22]) (ds := [y0.1]) (j := 0) rfl rfl n hn)
      have e' : [c0] = [Value.slice ao ps.length cap] := e
      obtain rfl : c0 = .slice ao ps.length cap := by simpa using e'
      exact ⟨ao, cap, ps, rfl, hp, h1, h2⟩
end Go.Proofs.YtfdmahilgemlaaaDoor.Op

namespace Go.Proofs.YtfdmahilgemlaaaDoor.Fl
open Go.ChangeShapes Go.WideShapes Go.ChangeAt Go.RowKit
open _root_.Go.Proofs.YtfdmahilgemlaaaDoor.Op

set_option maxRecDepth 100000 in
theorem tells_wit (os : Os) (H : Type) (enc : TypeId × Value → H) : ∃ (w : World) (tape : Tape) (i : Input), w.os = os ∧ (w.forCall tape i).Shaped Tryd.prog ∧ i.vars = [] ∧ Input.okWide Tryd.prog (w.forCall tape i) .any w.heap.size 3 i ∧
      ((Rows.flowTellsSpec.pre enc Tryd.prog Tryd.f3 [] false (w.forCall tape i).memory i.args ∧ laidMetH Tryd.prog Rows.flowTellsRow.laid (w.forCall tape i).memory) ∧ sizedMet enc Tryd.prog Tryd.f3 (OpenSpec.ofChange Rows.flowTellsSpec) false (w.forCall tape i).memory i.args) ∧ Assume.holds {} Tryd.prog (lone (Frame.enter Tryd.prog 3 i.args .normal) [] (w.forCall tape i)) :=
  ChangeSpec.witness_shaped (enc := enc) (C := Tryd.checked) (os := os) (X := fun w _ => laidMetH Tryd.prog Rows.flowTellsRow.laid w) false ((World.holding Tryd.prog os ⟨#[], #[], []⟩).layVars Tryd.prog laid1) #[.agg #[.slice none 0 0], .int .i64 0] 8 (wit_os os)
    (World.shaped_of_ZipB (by kernel_rfl) (by kernel_rfl)) (by kernel_rfl) (by kernel_rfl) (by kernel_rfl) (wit_met os _)

set_option maxRecDepth 100000 in
theorem tells_lifted (os : Os) (started : os.Started) (H : Type) (enc : TypeId × Value → H) :
    ReturnsInHanded {} Tryd.checked os 3 .any (fun w args => (Rows.flowTellsSpec.pre enc Tryd.prog Tryd.f3 [] false w args ∧ laidMetH Tryd.prog Rows.flowTellsRow.laid w) ∧ sizedMet enc Tryd.prog Tryd.f3 (OpenSpec.ofChange Rows.flowTellsSpec) false w args)
      (Rows.flowTellsSpec.post enc Tryd.prog Tryd.f3 false true false false) := by
  refine wrap started (by kernel_rfl) Tryd.func3 (tells_wit os H enc) ?_
  intro W base args ds gs before hval0 hW hsz hL _
  have hval : ∀ (j : Nat) t v, Tryd.f3.params[j]? = some t → args[j]? = some v → Value.okWide Tryd.prog W .any base t v := hval0
  have hW' := hW
  obtain ⟨p, q, hA0, hV, rfl, _, _⟩ := hW
  have hA : DataW.TrodAll enc Tryd.prog W 0 (fun _ => true) true Tryd.f3.params.toList args.toList ds p := hA0
  rw [Tryd.params3] at hA hval hsz
  obtain ⟨v0, v1, d0, d1, p0, p1, rfl, rfl, rfl, h0, h1⟩ := trodAll_two hA
  obtain ⟨rfl, rfl⟩ := trodVars_none hV
  obtain ⟨ao, cap, ps, rfl, hp, hc, hm⟩ := open_prog (hval 0 24 v0 rfl rfl) h0 fun n hn => by
    have := List.all_eq_true.1 hsz n (DataW.weights_mem_each (j := 0) rfl rfl n hn)
    simpa using this
  obtain ⟨n, rfl, rfl, rfl, _⟩ := open_int Tryd.underlying3 (hval 1 3 v1 rfl rfl) h1
  simp only [List.append_nil] at hW'
  refine (law_tells ao cap ps n W hp (env_of hL)).mono fun e W' ⟨he, hb⟩ => ?_
  subst he
  refine ⟨_, rfl, _, _, _, [], p0 ++ [], [], hW', trodAll_mk1 (shut_bool Tryd.underlying4 _), ?_, rfl, hb.frame _, fun h => by cases h⟩
  rw [Tryd.params3]
  refine trodAll_mk2 (Below.trod laidOut (by kernel_rfl) (by rw [tySize]; decide) h0 hb fun x hx => ?_) (Below.trod laidOut (by kernel_rfl) (by rw [tySize]; decide) h1 hb (fun x hx => by cases hx))
  obtain ⟨fuel, hf⟩ := h0
  exact DataW.trod_lt _ _ _ _ hf x hx

theorem tells_row : Rows.FlowTellsSaid :=
  OpenClaim.holds_of_wide 3 Tryd.f3 rfl rfl rfl rfl rfl rfl rfl ⟨rfl, rfl, rfl, rfl, rfl⟩ rfl rfl rfl rfl rfl (by kernel_rfl) Tryd.func3 (by kernel_rfl)
    (of_decide_eq_true (by kernel_rfl)) (by unfold Func.isWrapper; first | (rw [if_pos (by decide +kernel)]; kernel_rfl) | (rw [if_neg (by decide +kernel)]; exact ⟨rfl, rfl⟩))
    (fun os started H enc _ => tells_lifted os started H enc)

theorem tells : Rows.FlowTellsCardSaid :=
  Claim7.holds_tied_plain_at .later [] [.data] true (true, "988c3aba293481277e7632422197ec73ace2ec0ce774a4973c0496f9e7c59d8c") false tells_row (fun _ h => by cases h) (by kernel_rfl) (fun _ h => by cases h) flowTells_row_tie rfl ⟨rfl, rfl⟩ (by kernel_rfl) rfl
    (fun f fn hf hfn => by
      obtain rfl : f = 3 := Option.some.inj ((show Tryd.prog.funcNamed "hayloft/hayloftlaw07.FlowTells" = some 3 by kernel_rfl).symm.trans hf) |>.symm
      obtain rfl : fn = Tryd.f3 := (Option.some.inj (Tryd.func3.symm.trans hfn)).symm
      exact ⟨by kernel_rfl, fun j t ht => by
        rw [Tryd.params3] at ht
        have hm : t ∈ [24, 3] := by simpa using Array.mem_of_getElem? ht
        have hall : ([24, 3].all fun u => !Tryd.prog.wantsStandIn u) = true := by kernel_rfl
        exact (show Tryd.prog.wantsStandIn t = false by simpa using List.all_eq_true.1 hall t hm)⟩)
    (by kernel_rfl)

end Go.Proofs.YtfdmahilgemlaaaDoor.Fl
