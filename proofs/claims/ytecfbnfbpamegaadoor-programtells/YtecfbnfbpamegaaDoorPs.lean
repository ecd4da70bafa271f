/- What package program's Needs answers: read off the program by the walk. Conditions: the program lies in memory, and the tables as the program lays them. -/
import Derived.Test.YtecfbnfbpamegaaDoorPn
namespace Go.Proofs.YtecfbnfbpamegaaDoor.Op
open Go.ChangeShapes Go.WideShapes Go.ChangeAt Go.RowKit
set_option maxRecDepth 20000
open Tb (Tab TabAt)

/-- Is a class used that has no unit? -/
def lack (u : Nat → Bool) (t : Tab) (c : Nat) : Bool := u c && (t.u c == 0)
def lacks (u : Nat → Bool) (t : Tab) : Bool := lack u t 0 || lack u t 1 || lack u t 2 || lack u t 3
def ndE (ps : List Bk) (t : Tab) : Int := if ckP ps = 0 then if Tb.ckR t = 0 then if lacks (useL ps) t then 21 else 0 else Tb.ckR t else ckP ps
theorem lacks_yes {u : Nat → Bool} {t : Tab} {k : Nat} (hk : k < 4) (h : lack u t k = true) : lacks u t = true := by
  match k, hk, h with
  | 0, _, h => simp [lacks, h]
  | 1, _, h => simp [lacks, h]
  | 2, _, h => simp [lacks, h]
  | 3, _, h => simp [lacks, h]
theorem lacks_no {u : Nat → Bool} {t : Tab} (h : ∀ k, k < 4 → lack u t k = false) : lacks u t = false := by
  simp [lacks, h 0, h 1, h 2, h 3]
theorem ix4b_0 (a b c d : Bool) (w : World) : (Instr.index 46 (.agg #[.bool a, .bool b, .bool c, .bool d]) (.int .i64 0)).run Tryd.prog w = .ok (.bool a) w := by kernel_rfl
theorem ix4b_1 (a b c d : Bool) (w : World) : (Instr.index 46 (.agg #[.bool a, .bool b, .bool c, .bool d]) (.int .i64 1)).run Tryd.prog w = .ok (.bool b) w := by kernel_rfl
theorem ix4b_2 (a b c d : Bool) (w : World) : (Instr.index 46 (.agg #[.bool a, .bool b, .bool c, .bool d]) (.int .i64 2)).run Tryd.prog w = .ok (.bool c) w := by kernel_rfl
theorem ix4b_3 (a b c d : Bool) (w : World) : (Instr.index 46 (.agg #[.bool a, .bool b, .bool c, .bool d]) (.int .i64 3)).run Tryd.prog w = .ok (.bool d) w := by kernel_rfl
theorem ix4b (u : Nat → Bool) (k : Nat) (hk : k < 4) (w : World) : (Instr.index 46 (.agg #[.bool (u 0), .bool (u 1), .bool (u 2), .bool (u 3)]) (.int .i64 k)).run Tryd.prog w = .ok (.bool (u k)) w :=
  match k, hk with
  | 0, _ => ix4b_0 _ _ _ _ w
  | 1, _ => ix4b_1 _ _ _ _ w
  | 2, _ => ix4b_2 _ _ _ _ w
  | 3, _ => ix4b_3 _ _ _ _ w
theorem At.t13 {w : World} {b : Nat} {x0 x1 x2 x3 x4 x5 x6 x7 x8 x9 xa xb xc : Value} (h : At w b #[x0, x1, x2, x3, x4, x5, x6, x7, x8, x9, xa, xb, xc]) : w.cell? ⟨b, 0, none⟩ = some x0 ∧ w.cell? ⟨b, 1, none⟩ = some x1 ∧ w.cell? ⟨b, 2, none⟩ = some x2 ∧ w.cell? ⟨b, 3, none⟩ = some x3 ∧ w.cell? ⟨b, 4, none⟩ = some x4 ∧ w.cell? ⟨b, 5, none⟩ = some x5 ∧ w.cell? ⟨b, 6, none⟩ = some x6 ∧ w.cell? ⟨b, 7, none⟩ = some x7 ∧ w.cell? ⟨b, 8, none⟩ = some x8 ∧ w.cell? ⟨b, 9, none⟩ = some x9 ∧ w.cell? ⟨b, 10, none⟩ = some xa ∧ w.cell? ⟨b, 11, none⟩ = some xb ∧ w.cell? ⟨b, 12, none⟩ = some xc :=
  ⟨h.c 0 _ rfl, h.c 1 _ rfl, h.c 2 _ rfl, h.c 3 _ rfl, h.c 4 _ rfl, h.c 5 _ rfl, h.c 6 _ rfl, h.c 7 _ rfl, h.c 8 _ rfl, h.c 9 _ rfl, h.c 10 _ rfl, h.c 11 _ rfl, h.c 12 _ rfl⟩
/-- Needs under way: the two copies. -/
structure Nd (w w1 : World) (v : Value) (t : Tab) : Prop where
  b : Below w.heap.size w w1
  p : At w1 w.heap.size #[v]
  t : At w1 (w.heap.size + 1) t.cells
theorem Nd.start {w w1 : World} {v : Value} {t : Tab} {t0 t1 : TypeId} (hb : Below ((w.alloc (.cells #[v] t0)).alloc (.cells t.cells t1)).heap.size ((w.alloc (.cells #[v] t0)).alloc (.cells t.cells t1)) w1) : Nd w w1 v t :=
  let ⟨a1, a2, b, _, _⟩ := two_new w _ _ _ _ hb
  ⟨b, a1, a2⟩
theorem Nd.go {w w1 w2 : World} {v : Value} {t : Tab} (h : Nd w w1 v t) (hb : Below w1.heap.size w1 w2) : Nd w w2 v t :=
  ⟨h.b.trans (hb.mono h.b.size), h.p.below hb h.p.lt, h.t.below hb h.t.lt⟩
set_option maxHeartbeats 4000000 in
theorem needs_any (ao : Option Addr) (cap : Nat) (ps : List Bk) (t : Tab) (w : World) (h : PAt w ao ps) (he : Env w) :
    Calls Tryd.prog 8 #[.agg #[.slice ao ps.length cap], t.val] w fun e w' => e = .returned (.int .i64 (ndE ps t)) ∧ Below w.heap.size w w' := by
  have HC : Hid (∀ w1, Below w.heap.size w w1 → Calls Tryd.prog 7 #[.agg #[.slice ao ps.length cap]] w1 fun e w' => e = .returned (.int .i64 (ckP ps)) ∧ Below w1.heap.size w1 w') := fun w1 hb => checkP_any _ _ _ _ (h.below hb) (he.up hb)
  have HT : Hid (∀ w1, Below w.heap.size w w1 → Calls Tryd.prog 18 #[t.val] w1 fun e w' => e = .returned (.int .i64 (Tb.ckR t)) ∧ Below w1.heap.size w1 w') := fun w1 hb => Tb.check_any _ _ (he.up hb).b
  have HL : Hid (∀ w1, Below w.heap.size w w1 → Calls Tryd.prog 19 #[.agg #[.slice ao ps.length cap]] w1 fun e w' => e = .returned (.agg #[.bool (useL ps 0), .bool (useL ps 1), .bool (useL ps 2), .bool (useL ps 3)]) ∧ Below w1.heap.size w1 w') := fun w1 hb => classes_any _ _ _ _ (h.below hb)
  clear h he
  unfold Tab.val at *
  by_cases h1 : ckP ps = 0
  · by_cases h2 : Tb.ckR t = 0
    · rw [show ndE ps t = if lacks (useL ps) t then 21 else 0 by simp [ndE, h1, h2]]
      rw [h1] at HC
      rw [h2] at HT
      clear h1 h2
      generalize useL ps = u at *
      generalize hr : (if lacks u t then (21 : Int) else 0) = r
      have HR : Hid (_ = r) := hr
      clear hr
      go_enter Tryd.func8, Tryd.ntmps8
      go_wp2_with (first
        | (go_at_call 7; refine Calls.mono (HC.out _ (by go_grown)) ?_; rintro e w1 ⟨rfl, hb⟩; have HN : Hid (Nd w w1 _ t) := Nd.start hb; have cp := HN.out.p.c 0 _ rfl; obtain ⟨c0, c1, c2, c3, c4, c5, c6, c7, c8, c9, ca, cb, cc⟩ := HN.out.t.t13; clear hb HC)
        | (go_at_call 18; refine Calls.mono (HT.out _ HN.out.b) ?_; rintro e w2 ⟨rfl, hb⟩; have HN2 : Hid (Nd w w2 _ t) := HN.out.go hb; clear HN cp c0 c1 c2 c3 c4 c5 c6 c7 c8 c9 ca cb cc; have cp := HN2.out.p.c 0 _ rfl; clear hb HT)
        | (go_at_call 19; refine Calls.mono (HL.out _ HN2.out.b) ?_; rintro e w3 ⟨rfl, hb⟩; have HN3 : Hid (Nd w w3 _ t) := HN2.out.go hb; clear HN2 cp; clear hb HL))
      go_loopw [21] (fun i wr => ∃ k : Nat, k ≤ 4 ∧ i = .int .i64 k ∧ (∀ j, j < k → lack u t j = false) ∧ Nd w wr (.slice ao ps.length cap) t) (fun i _ => 4 - (intOf i).toNat)
      case atStart => exact ⟨0, by omega, rfl, fun j hj => by omega, HN3.out⟩
      case round =>
        rename_i wr
        obtain ⟨k, hk, rfl, hok, hnd⟩ := hrel
        have HK : Hid _ := hok
        have HD : Hid _ := hnd
        clear hok HN3
        by_cases hlt : k < 4
        · have hix : ∀ w, (Instr.index 46 (.agg #[.bool (u 0), .bool (u 1), .bool (u 2), .bool (u 3)]) (.int .i64 k)).run Tryd.prog w = .ok (.bool (u k)) w := fun w => ix4b u k hlt w
          have hc : wr.cell? ⟨w.heap.size + 1, k, none⟩ = some (.int .i64 (t.u k)) := Tb.four (p := fun k => wr.cell? ⟨w.heap.size + 1, k, none⟩ = some (.int .i64 (t.u k))) (hnd.t.c 0 _ rfl) (hnd.t.c 1 _ rfl) (hnd.t.c 2 _ rfl) (hnd.t.c 3 _ rfl) k hlt
          have hz := hnd.t.lt
          have k0 : (0 : Int) ≤ (k : Int) := by omega
          have k4 : (k : Int) < 4 := by omega
          clear hnd
          have hdef : lack u t k = (u k && (t.u k == 0)) := rfl
          have HF : Hid _ := hdef
          clear hdef
          generalize t.u k = tk at *
          generalize u k = uk at *
          cases uk
          · go_wp2
            go_roundw
            case rel => exact ⟨k + 1, by omega, by go_num, fun j hj => by
              rcases Nat.lt_or_ge j k with h | h
              · exact HK.out j h
              · obtain rfl : j = k := by omega
                rw [HF.out]; rfl, HD.out⟩
            case measure => simp [intOf]; omega
          · cases htk : (tk == 0)
            · rw [htk] at HF
              go_wp2
              go_roundw
              case rel => exact ⟨k + 1, by omega, by go_num, fun j hj => by
                rcases Nat.lt_or_ge j k with h | h
                · exact HK.out j h
                · obtain rfl : j = k := by omega
                  rw [HF.out]; rfl, HD.out⟩
              case measure => simp [intOf]; omega
            · rw [htk] at HF
              go_wp2
              go_ret
              exact ⟨ret_int (by rw [← HR.out, if_pos (lacks_yes hlt HF.out)]), HD.out.b⟩
        · obtain rfl : k = 4 := by omega
          clear hnd
          go_wp2
          go_ret
          exact ⟨ret_int (by rw [← HR.out, lacks_no HK.out]; rfl), HD.out.b⟩
    · rw [show ndE ps t = Tb.ckR t by simp [ndE, h1, h2]]
      rw [h1] at HC
      clear h1
      go_enter Tryd.func8, Tryd.ntmps8
      go_wp2_with (first
        | (go_at_call 7; refine Calls.mono (HC.out _ (by go_grown)) ?_; rintro e w1 ⟨rfl, hb⟩; have HN : Hid (Nd w w1 _ t) := Nd.start hb; have cp := HN.out.p.c 0 _ rfl; obtain ⟨c0, c1, c2, c3, c4, c5, c6, c7, c8, c9, ca, cb, cc⟩ := HN.out.t.t13; clear hb HC)
        | (go_at_call 18; refine Calls.mono (HT.out _ HN.out.b) ?_; rintro e w2 ⟨rfl, hb⟩; have HN2 : Hid (Nd w w2 _ t) := HN.out.go hb; clear HN cp c0 c1 c2 c3 c4 c5 c6 c7 c8 c9 ca cb cc; have cp := HN2.out.p.c 0 _ rfl; clear hb HT))
      go_ret
      exact ⟨rfl, HN2.out.b⟩
  · rw [show ndE ps t = ckP ps by simp [ndE, h1]]
    go_enter Tryd.func8, Tryd.ntmps8
    go_wp2_with (first
      | (go_at_call 7; refine Calls.mono (HC.out _ (by go_grown)) ?_; rintro e w1 ⟨rfl, hb⟩; have HN : Hid (Nd w w1 _ t) := Nd.start hb; have cp := HN.out.p.c 0 _ rfl; obtain ⟨c0, c1, c2, c3, c4, c5, c6, c7, c8, c9, ca, cb, cc⟩ := HN.out.t.t13; clear hb HC))
    go_ret
    exact ⟨rfl, HN.out.b⟩
end Go.Proofs.YtecfbnfbpamegaaDoor.Op
