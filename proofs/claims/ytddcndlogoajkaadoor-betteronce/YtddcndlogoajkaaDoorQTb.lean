/- Whether a number is in a list; the blocks that come ahead of one: read off the program by the walk. Conditions: the program lies in memory. -/
import Derived.Test.YtddcndlogoajkaaDoorQRg
namespace Go.Proofs.YtddcndlogoajkaaDoor.L8.Fl
open Go.ChangeShapes Go.WideShapes Go.ChangeAt Go.RowKit
open _root_.Go.Proofs.YtddcndlogoajkaaDoor.L8.So _root_.Go.Proofs.YtddcndlogoajkaaDoor.L8.Ss _root_.Go.Proofs.YtddcndlogoajkaaDoor.L8.Op
set_option maxRecDepth 20000

/-- A place that is none just if the number is not there. -/
def AtIx (xs : List Int) (z v : Int) : Prop := decide (v ≥ 0) = decide (z ∈ xs)
theorem index_any (a : Option Addr) (c : Nat) (xs : List Int) (z : Int) (B : Nat) (w : World) (h : Il w B a xs) (hl : xs.length < 1099511627776) :
    Calls Tryd.prog 70 #[.slice a xs.length c, .int .i64 z] w fun e w' => ∃ v, e = .returned (.int .i64 v) ∧ AtIx xs z v ∧ w' = w := by
  go_enter Tryd.func70, Tryd.ntmps70
  go_wp2
  go_loop [8] (fun i => ∃ k : Nat, k ≤ xs.length ∧ i = .int .i64 k ∧ Hid (∀ j (hj : j < xs.length), j < k → xs[j] ≠ z)) (fun i => xs.length - (intOf i).toNat)
  case atStart => exact ⟨0, by omega, rfl, fun j _ hj => by omega⟩
  case round =>
    obtain ⟨k, hk, rfl, hN⟩ := hrel
    by_cases hlt : k < xs.length
    · obtain ⟨b, rfl, -, hb, hc⟩ := h.is (by omega)
      have cc := hc k hlt
      by_cases he : z = xs[k]
      · have hR : Hid (decide ((k : Int) ≥ 0) = decide (z ∈ xs)) := by
          have hm : z ∈ xs := by rw [he]; exact List.getElem_mem hlt
          show _ = _
          rw [decide_eq_true hm]; simp
        clear hc h
        rw [← he] at cc
        clear he hN
        go_wp2
        go_ret
        exact ⟨_, rfl, hR.out, rfl⟩
      · have hN2 : Hid (∀ j (hj : j < xs.length), j < k + 1 → xs[j] ≠ z) := fun j hj hjk => by
          rcases Nat.lt_or_ge j k with h | h
          · exact hN.out j hj h
          · obtain rfl : j = k := by omega
            exact fun e => he e.symm
        obtain ⟨x, hx⟩ : ∃ x, x = xs[k] := ⟨_, rfl⟩
        rw [← hx] at cc he
        clear hc h hx hN
        go_wp2
        go_roundw
        case rel => exact ⟨k + 1, by omega, by go_num, hN2⟩
        case measure => simp [intOf]; omega
    · obtain rfl : k = xs.length := by omega
      have hR : Hid (decide ((-1 : Int) ≥ 0) = decide (z ∈ xs)) := by
        have hm : ¬ z ∈ xs := fun h => by
          obtain ⟨j, hj, e⟩ := List.getElem_of_mem h
          exact hN.out j hj hj e
        show _ = _
        rw [decide_eq_false hm]; simp
      go_wp2
      go_ret
      exact ⟨_, rfl, hR.out, rfl⟩
theorem contains_any (a : Option Addr) (c : Nat) (xs : List Int) (z : Int) (B : Nat) (w : World) (h : Il w B a xs) (hl : xs.length < 1099511627776) :
    Calls Tryd.prog 55 #[.slice a xs.length c, .int .i64 z] w fun e w' => e = .returned (.bool (decide (z ∈ xs))) ∧ w' = w := by
  have HI : Hid _ := index_any a c xs z B w h hl
  clear h
  go_enter Tryd.func55, Tryd.ntmps55
  go_wp2_with (first | (go_at_call 70; refine Calls.mono HI.out ?_; rintro e w' ⟨v, rfl, hv, hw⟩; subst w'; have HV : Hid _ := hv; clear hv))
  go_ret
  exact ⟨ret_bool HV.out, rfl⟩
theorem intL_snoc (acc : List Int) (x : Int) : (acc ++ [x]).map (fun y => Value.int .i64 y) = acc.map (fun y => Value.int .i64 y) ++ [.int .i64 x] := by simp
/-- A row of numbers is a list in memory. -/
theorem il_row {w : World} {B c : Nat} {a : Option Addr} {xs : List Int} (h : w.ownsRow B 3 1 (.slice a xs.length c) xs.length (xs.map fun y => Value.int .i64 y)) : Il w B a xs := by
  refine ⟨fun h0 => ?_⟩
  rcases h.2 with ⟨_, h1⟩ | ⟨g, cap, cur, h1, h2, h3, h4⟩
  · omega
  · injection h1 with e1 e2 e3
    subst e1
    have hc := h.cells (g := g) rfl
    refine ⟨g, rfl, h2, (h.lt g rfl).2, fun i hi => ?_⟩
    have := hc i (.int .i64 xs[i]) (by rw [List.getElem?_map, List.getElem?_eq_getElem hi]; rfl)
    by_cases i0 : i = 0
    · subst i0; simpa [Addr.add] using this
    · simpa [Addr.add, i0] using this
theorem row_slice {w : World} {B n : Nat} {e : TypeId} {z : Nat} {v : Value} {xs : List Value} (h : w.ownsRow B e z v n xs) : ∃ a c, v = .slice a n c := by
  rcases h.2 with ⟨h1, h2⟩ | ⟨g, cap, cur, h1, _⟩
  · exact ⟨none, 0, by rw [h1, h2]⟩
  · exact ⟨_, _, h1⟩
theorem row_below' {w w' : World} {B : Nat} {e : TypeId} {z : Nat} {v : Value} {n : Nat} {xs : List Value} (h : w.ownsRow B e z v n xs) (hb : Below w.heap.size w w') : w'.ownsRow B e z v n xs :=
  h.kept (row := none) ⟨hb.os, hb.tape, hb.output, hb.size, fun k hk _ => hb.block k hk⟩ (by cases v.ownBlock <;> simp)
theorem info3 : (Tryd.prog.info? 3).map (fun i => (i.zero, i.size, i.bytes)) = some (some (.int .i64 0), 1, 8) := by kernel_rfl

/-- The blocks ahead of block j among the first k. -/
def aheadTo (ps : List Bk) (j : Int) (k : Nat) : List Int := ((List.range k).filter fun i => match ps[i]? with | some x => decide (j ∈ turnL x) | none => false).map fun (i : Nat) => (i : Int)
def aheadL (ps : List Bk) (block : Int) : List Int := if knB ps block then aheadTo ps block ps.length else []
theorem aheadTo_yes {ps : List Bk} {j : Int} {k : Nat} (h : k < ps.length) (ht : j ∈ turnL ps[k]) : aheadTo ps j (k + 1) = aheadTo ps j k ++ [(k : Int)] := by
  unfold aheadTo
  rw [List.range_succ, List.filter_append, List.map_append]
  simp [List.getElem?_eq_getElem h, ht]
theorem aheadTo_no {ps : List Bk} {j : Int} {k : Nat} (h : k < ps.length) (ht : ¬ j ∈ turnL ps[k]) : aheadTo ps j (k + 1) = aheadTo ps j k := by
  unfold aheadTo
  rw [List.range_succ, List.filter_append, List.map_append]
  simp [List.getElem?_eq_getElem h, ht]
theorem aheadTo_len (ps : List Bk) (j : Int) (k : Nat) : (aheadTo ps j k).length ≤ k := by
  unfold aheadTo
  rw [List.length_map]
  have := List.length_filter_le (fun i => match ps[i]? with | some x => decide (j ∈ turnL x) | none => false) (List.range k)
  simpa using this

set_option maxHeartbeats 4000000 in
theorem ahead_any (ao : Option Addr) (cap : Nat) (ps : List Bk) (block : Int) (w : World) (h : PAt w ao ps) (he : Env w) :
    Calls Tryd.prog 38 #[.agg #[.slice ao ps.length cap], .int .i64 block] w fun e w' => ∃ v, e = .returned v ∧ Got w w' v (aheadL ps block) := by
  have hb1 : Below w.heap.size w (w.alloc (.cells #[.slice ao ps.length cap] 24)) := by go_grown
  have HK : Hid (Calls Tryd.prog 51 #[.agg #[.slice ao ps.length cap], .int .i64 block] (w.alloc (.cells #[.slice ao ps.length cap] 24)) fun e w' => e = .returned (.bool (knB ps block)) ∧ Below (w.alloc (.cells #[.slice ao ps.length cap] 24)).heap.size (w.alloc (.cells #[.slice ao ps.length cap] 24)) w') := known_any ao cap ps block _ (h.below hb1) (he.up hb1)
  unfold aheadL
  by_cases hk : knB ps block = true
  · rw [if_pos hk]
    rw [hk] at HK
    have hk' := hk
    unfold knB at hk'
    simp only [Bool.and_eq_true, decide_eq_true_eq] at hk'
    obtain ⟨⟨h0, h1⟩, hck⟩ := hk'
    have hle := (good_of hck).le
    obtain ⟨b, f, rfl, hlt, hx⟩ := h.is (by omega)
    have HX : Hid (∀ (i : Nat) (h : i < ps.length), ∃ p, BAt w b (f + i * 6) ps[i] p ∧ BIn w ps[i] p) := hx
    have HT : Hid (∀ (x : Bk) (p : Pl) w', x.Ok → Calls Tryd.prog 56 #[x.val p] w' fun e w2 => ∃ v, e = .returned v ∧ Got w' w2 v (turnL x)) := fun x p w' hok => turns_any x p w' hok
    have HC : Hid (∀ (a : Option Addr) (c : Nat) (xs : List Int) (B : Nat) w', Il w' B a xs → xs.length < 1099511627776 → Calls Tryd.prog 55 #[.slice a xs.length c, .int .i64 block] w' fun e w2 => e = .returned (.bool (decide (block ∈ xs))) ∧ w2 = w') := fun a c xs B w' hI hl => contains_any a c xs block B w' hI hl
    obtain ⟨i0, hi, hi2⟩ := Option.map_eq_some_iff.1 info3
    simp only [Prod.mk.injEq] at hi2
    obtain ⟨hz0, hz1, hz2⟩ := hi2
    have HI : Hid (Tryd.prog.info? 3 = some i0 ∧ i0.zero = some (.int .i64 0) ∧ i0.size = 1 ∧ i0.bytes = 8) := ⟨hi, hz0, hz1, hz2⟩
    clear h he hx hk hb1 hi hz0 hz1 hz2 hck
    go_enter Tryd.func38, Tryd.ntmps38
    go_wp2_with (first
      | (go_at_call 51; refine Calls.mono HK.out ?_; rintro e w1 ⟨rfl, hb⟩; obtain ⟨a1, hb0, hz⟩ := one_new w _ _ hb; have HB1 : Hid (Below w.heap.size w w1) := hb0; have cb := a1.c 0 _ rfl; clear hb hb0 a1 HK))
    go_loopw [5, 15] (fun v i wr => ∃ (k : Nat), k ≤ ps.length ∧ i = .int .i64 k ∧ Hid (wr.ownsRow (w.heap.size + 1) 3 1 v (aheadTo ps block k).length ((aheadTo ps block k).map fun y => Value.int .i64 y) ∧ Below w.heap.size w wr ∧ w.heap.size + 1 ≤ wr.heap.size)) (fun _ i _ => ps.length - (intOf i).toNat)
    case atStart => exact ⟨0, by omega, rfl, World.ownsRow_nil _ _ _ _, HB1.out, by omega⟩
    case round =>
      rename_i wr
      obtain ⟨k, hk, rfl, hS⟩ := hrel
      by_cases hlk : k < ps.length
      · obtain ⟨p, hp, hin⟩ := HX.out k hlk
        obtain ⟨c0, c1, c2, c3, c4, c5⟩ := hp.below hS.out.2.1 hlt
        have HT2 : Hid (∀ w', Calls Tryd.prog 56 #[ps[k].val p] w' fun e w2 => ∃ v, e = .returned v ∧ Got w' w2 v (turnL ps[k])) := fun w' => HT.out _ p w' hin.ok
        have hsz : Hid (w.heap.size + 1 ≤ wr.heap.size) := hS.out.2.2
        have hb8 : Hid (Below w.heap.size w wr) := hS.out.2.1
        clear hp hin HX HT
        by_cases ht : block ∈ turnL ps[k]
        · have hA : Hid (aheadTo ps block (k + 1) = aheadTo ps block k ++ [(k : Int)]) := aheadTo_yes hlk ht
          have hlen := aheadTo_len ps block k
          have HC2 : Hid (∀ (a : Option Addr) (c : Nat) (B : Nat) w', Il w' B a (turnL ps[k]) → Calls Tryd.prog 55 #[.slice a (turnL ps[k]).length c, .int .i64 block] w' fun e w2 => e = .returned (.bool true) ∧ w2 = w') := fun a c B w' hI => by
            have := HC.out a c (turnL ps[k]) B w' hI (by have := turnL_two ps[k]; omega)
            rw [decide_eq_true ht] at this; exact this
          clear ht HC
          go_wp2_with (first
            | (go_at_call 56; refine Calls.mono (HT2.out _) ?_; rintro e w2 ⟨v2, rfl, hG⟩; obtain ⟨a2, c2', rfl, hI2, hb2⟩ := hG; have HI2 : Hid (Il w2 _ a2 (turnL ps[k])) := hI2; have HS2 : Hid (w2.ownsRow (w.heap.size + 1) 3 1 u5 (aheadTo ps block k).length ((aheadTo ps block k).map fun y => Value.int .i64 y) ∧ Below w.heap.size w w2 ∧ w.heap.size + 1 ≤ w2.heap.size) := ⟨row_below' (hS.out.1.alloc _) hb2, (hb8.out.alloc hb8.out.size _).trans (hb2.mono (by have := hb8.out.size; simp; omega)), Nat.le_trans (by have := hsz.out; simp; omega) hb2.size⟩; clear hI2 hb2 hS HT2)
            | (go_at_call 55; refine Calls.mono (HC2.out _ _ _ _ HI2.out) ?_; rintro e w3 ⟨rfl, hw⟩; subst w3; clear HC2 HI2)
            | (at_builtin; refine wpList_append_lies _ rfl _ _ 82 rfl (w.heap.size + 1) 3 i0 (.int .i64 0) 1 8 Tryd.underlying82 HI.out.1 HI.out.2.1 HI.out.2.2.1 HI.out.2.2.2 rfl (by decide) _ _ _ rfl (HS2.out.1.alloc _) ⟨w2.heap.size, 0, none⟩ 1 1 [.int .i64 (k : Int)] rfl rfl (World.news_of_block (heap_alloc_new w2 _)) (by simp [Value.oneCell']) (by decide) (by unfold maxLen; omega) (by omega) (by have := HS2.out.2.2; simp; omega) (w2.heap.size + 1) (by simp) ?_; intro g cap' w4 hown1 hgrow hat hlt3))
          go_roundw
          case rel =>
            refine ⟨k + 1, by omega, by go_num, ?_, ?_, ?_⟩
            · rw [hA.out, intL_snoc, List.length_append]; exact hown1
            · exact (HS2.out.2.1.alloc HS2.out.2.1.size _).grown hgrow (by have := HS2.out.2.1.size; simp; omega) (fun b hb => by have := ((HS2.out.1).lt b hb).1; omega)
            · have := hgrow.size; have := HS2.out.2.2; simp at *; omega
          case measure => simp [intOf]; omega
        · have hA : Hid (aheadTo ps block (k + 1) = aheadTo ps block k) := aheadTo_no hlk ht
          have HC2 : Hid (∀ (a : Option Addr) (c : Nat) (B : Nat) w', Il w' B a (turnL ps[k]) → Calls Tryd.prog 55 #[.slice a (turnL ps[k]).length c, .int .i64 block] w' fun e w2 => e = .returned (.bool false) ∧ w2 = w') := fun a c B w' hI => by
            have := HC.out a c (turnL ps[k]) B w' hI (by have := turnL_two ps[k]; omega)
            rw [decide_eq_false ht] at this; exact this
          clear ht HC
          go_wp2_with (first
            | (go_at_call 56; refine Calls.mono (HT2.out _) ?_; rintro e w2 ⟨v2, rfl, hG⟩; obtain ⟨a2, c2', rfl, hI2, hb2⟩ := hG; have HI2 : Hid (Il w2 _ a2 (turnL ps[k])) := hI2; have HS2 : Hid (w2.ownsRow (w.heap.size + 1) 3 1 u5 (aheadTo ps block k).length ((aheadTo ps block k).map fun y => Value.int .i64 y) ∧ Below w.heap.size w w2 ∧ w.heap.size + 1 ≤ w2.heap.size) := ⟨row_below' (hS.out.1.alloc _) hb2, (hb8.out.alloc hb8.out.size _).trans (hb2.mono (by have := hb8.out.size; simp; omega)), Nat.le_trans (by have := hsz.out; simp; omega) hb2.size⟩; clear hI2 hb2 hS HT2)
            | (go_at_call 55; refine Calls.mono (HC2.out _ _ _ _ HI2.out) ?_; rintro e w3 ⟨rfl, hw⟩; subst w3; clear HC2 HI2))
          go_roundw
          case rel => exact ⟨k + 1, by omega, by go_num, by rw [hA.out]; exact HS2.out⟩
          case measure => simp [intOf]; omega
      · obtain rfl : k = ps.length := by omega
        go_wp2
        go_ret
        obtain ⟨a, c, e⟩ := row_slice hS.out.1
        refine ⟨_, rfl, a, c, e, (il_row (e ▸ hS.out.1)).low (by omega), hS.out.2.1⟩
  · rw [if_neg hk]
    have hk' : knB ps block = false := by simpa using hk
    rw [hk'] at HK
    clear h he hk hb1
    go_enter Tryd.func38, Tryd.ntmps38
    go_wp2_with (first | (go_at_call 51; refine Calls.mono HK.out ?_; rintro e w1 ⟨rfl, hb⟩; obtain ⟨a1, hb0, hz⟩ := one_new w _ _ hb; have HB1 : Hid _ := hb0; clear hb hb0 a1 HK))
    go_ret
    exact ⟨_, rfl, _, _, rfl, Il.nil _ _ _, HB1.out⟩
end Go.Proofs.YtddcndlogoajkaaDoor.L8.Fl
