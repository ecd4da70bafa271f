/- The statement TableOrder: a table's lines in another order, with other blanks, remarks and empty lines, are read as the table. Conditions: the variables lie in memory as the program lays them. -/
import Derived.Test.YtgabnjiapkkjaaaGreatDoorBk
import Derived.Test.YtgabnjiapkkjaaaGreatDoorMd
namespace Go.Proofs.YtgabnjiapkkjaaaGreatDoor.Tb
open Go.ChangeShapes Go.WideShapes Go.ChangeAt Go.RowKit

theorem info9 : (Tryz.prog.info? 9).map (fun i => (i.zero, i.size, i.bytes)) = some (some (.string ⟨#[]⟩), 1, 16) := by kernel_rfl

set_option maxRecDepth 20000 in
set_option maxHeartbeats 1000000 in
theorem order_no (t : Tab) (n : Int) (s : ByteArray) (w : World) (hE : Env w) (h : t.ok = false) : Calls Tryz.prog 6 #[t.val, .int .i64 n, .string s] w fun e w' => e = .returned (.bool true) ∧ Below w.heap.size w w' := by
  have HE : Hid (Env w) := hE
  have ht1 : Hid _ := text_no t (w.alloc (.cells t.cells 24)) (hE.al _).G h
  clear hE h
  unfold Tab.val at *
  go_enter Tryz.func6, Tryz.ntmps6
  go_wp2_with (first
    | (go_at_call 7; refine Calls.mono ht1.out ?_; rintro e w1 ⟨rfl, hb1⟩)
    | (go_at_call 13; refine Calls.mono (wakes_any _ ((HE.out.al _).bl hb1)) ?_; rintro e w9 ⟨rfl, hb9⟩))
  go_ret
  exact ⟨rfl, btr (btr (bal (Below.refl _ w) _) hb1) hb9⟩

def scells (ls : List (List UInt8)) : List Value := ls.map fun l => .string ⟨l.toArray⟩
theorem scells_snoc (ls : List (List UInt8)) (x : List UInt8) : scells (ls ++ [x]) = scells ls ++ [.string ⟨x.toArray⟩] := by simp [scells]

theorem parse_order (t : Tab) (h : t.ok = true) (bt : List UInt8) (hbt : ∀ b ∈ bt, b ≠ 10) (hb : bt.length ≤ 1000) (k : Nat) (hk : k < 5) (s : ByteArray) (hs : s.data.toList = outK t bt k 5) (w : World) (hE : Env w) :
    Calls Tryz.prog 14 #[.string s] w fun e w' => e = .returned (.tuple #[t.val, .nilIface]) ∧ Below w.heap.size w w' := by
  have hl := outK_len t bt hb k 5
  have hr := order_back t h bt hbt hb k hk
  refine (parse_any s w (by show s.data.toList.length ≤ _; rw [hs]; unfold maxLen; omega) hE).mono ?_
  rw [hs]
  rintro e w' (⟨_, h2, h3⟩ | ⟨f, q, h2, _⟩)
  · rw [hr.2] at h2; exact ⟨h2, h3⟩
  · rw [hr.1] at h2; cases h2

theorem sub_take (L : List UInt8) (j : Nat) (hj : j < L.length) : subL (L.take (j + 1)) = subL (L.take j) ++ (if L[j] = 32 then [9, 32] else [L[j]]) := by
  rw [List.take_succ_eq_append_getElem hj, subL_append]
  simp [subL]

set_option maxRecDepth 20000 in
set_option maxHeartbeats 2000000 in
theorem order_yes (t : Tab) (n : Int) (s : ByteArray) (w : World) (hs : s.size ≤ maxLen) (hE : Env w) (h : t.ok = true) : Calls Tryz.prog 6 #[t.val, .int .i64 n, .string s] w fun e w' => e = .returned (.bool true) ∧ Below w.heap.size w w' := by
  have HE : Hid (Env w) := hE
  have ht1 : Hid _ := text_yes t (w.alloc (.cells t.cells 24)) (hE.al _).G (hE.al _).N h
  have HO : Hid (t.ok = true) := h
  have HPO : Hid (∀ (kk : Nat) (ob : ByteArray) (w' : World), kk < 5 → (∀ b ∈ s.data.toList, b ≠ 10) → s.data.toList.length ≤ 1000 → ob.data.toList = outK t s.data.toList kk 5 → Env w' → Calls Tryz.prog 14 #[.string ob] w' fun e w'' => e = .returned (.tuple #[t.val, .nilIface]) ∧ Below w'.heap.size w' w'') := fun kk ob w' a b c d e => parse_order t h _ b c kk a ob d w' e
  have HTn : Hid _ := tabAt_new w t 24
  have hsz : (⟨(textL t).toArray⟩ : ByteArray).size ≤ 65536 := by show (textL t).toArray.size ≤ _; simpa using textL_len t
  have HST : Hid ((⟨(textL t).toArray⟩ : ByteArray).data.toList = textL t) := by show _ = _; simp
  generalize (⟨(textL t).toArray⟩ : ByteArray) = st at *
  obtain ⟨i0, hi, hi2⟩ := Option.map_eq_some_iff.1 info9
  simp only [Prod.mk.injEq] at hi2
  obtain ⟨hz0, hz1, hz2⟩ := hi2
  have HI : Hid (Tryz.prog.info? 9 = some i0 ∧ i0.zero = some (.string ⟨#[]⟩) ∧ i0.size = 1 ∧ i0.bytes = 16) := ⟨hi, hz0, hz1, hz2⟩
  unfold maxLen at hs
  clear hE h hi hz0 hz1 hz2
  unfold Tab.val at *
  go_enter Tryz.func6, Tryz.ntmps6
  go_wp2_with (first
    | (go_at_call 7; refine Calls.mono ht1.out ?_; rintro e w1 ⟨rfl, hb1⟩))
  have HT : Hid (TabAt w1 w.heap.size t) := HTn.out.below hb1 (by simp)
  have HE1 : Hid (Env w1) := (HE.out.al _).bl hb1
  have HB1 : Hid (Below w.heap.size w w1 ∧ w.heap.size < w1.heap.size) := ⟨btr (bal (Below.refl _ w) _) hb1, by have := hb1.size; simp at this; omega⟩
  clear hb1 ht1 HTn HE
  go_loop [9] (fun i => ∃ j : Nat, j ≤ s.size ∧ i = .int .i64 j ∧ Hid (∀ k (hk : k < s.size), k < j → s[k] ≠ 10)) (fun i => s.size - (intOf i).toNat)
  case atStart => exact ⟨0, by omega, rfl, fun k hk h => by omega⟩
  case round =>
    obtain ⟨j, hj, rfl, Hno⟩ := hrel
    by_cases hlt : j < s.size
    · by_cases h10 : (s[j].toNat : Int) = 10
      · go_wp2_with (first | (go_at_call 13; refine Calls.mono (wakes_any _ HE1.out) ?_; rintro e w9 ⟨rfl, hb9⟩))
        go_ret
        exact ⟨rfl, btr HB1.out.1 hb9⟩
      · have hx : (s[j].toNat : Int) < 256 := by have := s[j].toNat_lt; omega
        have HF : Hid (∀ k (hk : k < s.size), k < j + 1 → s[k] ≠ 10) := fun k hk hkj => by
          by_cases e : k = j
          · subst e; intro hc; apply h10; rw [hc]; rfl
          · exact Hno.out k hk (by omega)
        go_wp2
        go_round
        case rel => exact ⟨j + 1, by omega, by go_num, HF⟩
        case measure => simp [intOf]; omega
    · obtain rfl : j = s.size := by omega
      by_cases hbig : 1000 < s.size
      · go_wp2_with (first | (go_at_call 13; refine Calls.mono (wakes_any _ HE1.out) ?_; rintro e w9 ⟨rfl, hb9⟩))
        go_ret
        exact ⟨rfl, btr HB1.out.1 hb9⟩
      · have HNO : Hid (∀ b ∈ s.data.toList, b ≠ 10) := fun b hb => by
          obtain ⟨k, hk, rfl⟩ := List.getElem_of_mem hb
          exact Hno.out k hk hk
        clear Hno
        go_wp2
        go_loopw [10, 11, 12] (fun v f i wr => ∃ (m a : Nat) (acc : List (List UInt8)), m ≤ st.size ∧ a ≤ m ∧ acc.length ≤ m ∧ i = .int .i64 m ∧ f = .int .i64 a ∧ Hid (acc ++ (splitN0 (st.data.toList.drop a)).dropLast = (splitN0 st.data.toList).dropLast ∧ ∀ k (hk : k < st.data.toList.length), a ≤ k → k < m → st.data.toList[k] ≠ 10) ∧ wr.ownsRow w1.heap.size 9 1 v acc.length (scells acc) ∧ Below w1.heap.size w1 wr) (fun _ _ i _ => st.size - (intOf i).toNat)
        case atStart => exact ⟨0, 0, [], by omega, by omega, by simp, rfl, rfl, ⟨by simp, fun k hk h1 h2 => by omega⟩, World.ownsRow_nil _ _ _ _, Below.refl _ _⟩
        case round =>
          rename_i wr
          obtain ⟨m, a, acc, hm, ham, hac, rfl, rfl, Hacc, hown, hbw⟩ := hrel
          by_cases hlt2 : m < st.size
          · have hx : (st[m].toNat : Int) < 256 := by have := st[m].toNat_lt; omega
            by_cases h10 : (st[m].toNat : Int) = 10
            · have HF : Hid ((acc ++ [cutL st.data.toList a m]) ++ (splitN0 (st.data.toList.drop (m + 1))).dropLast = (splitN0 st.data.toList).dropLast) := by
                have e : st.data.toList[m]'hlt2 = 10 := by
                  show st[m] = 10
                  apply UInt8.toNat_inj.1
                  show st[m].toNat = 10
                  omega
                have h := Hacc.out.1
                rw [cut_step ham hlt2 e Hacc.out.2] at h
                show _ = _
                rw [← h]; simp
              go_wp2_with (first | (at_builtin; refine wpList_append_lies _ rfl _ _ 44 rfl w1.heap.size 9 i0 (.string ⟨#[]⟩) 1 16 Tryz.underlying44 HI.out.1 HI.out.2.1 HI.out.2.2.1 HI.out.2.2.2 rfl (by decide) _ _ _ rfl (hown.alloc _) ⟨wr.heap.size, 0, none⟩ 1 1 [.string (st.extract a m)] rfl rfl (World.news_of_block (heap_alloc_new wr _)) (by simp [Value.oneCell']) (by decide) (by unfold maxLen; omega) (by omega) (by have := hbw.size; simp; omega) (wr.heap.size + 1) (by simp) ?_; intro g cap w3 hown1 hgrow hat hlt3))
              go_roundw
              case rel => exact ⟨m + 1, m + 1, acc ++ [cutL st.data.toList a m], by omega, by omega, by simp; omega, by go_num, by go_num, ⟨HF.out, fun k hk h1 h2 => by omega⟩, (by rw [scells_snoc, List.length_append, List.length_singleton, ← extract_eq]; simpa using hown1), (hbw.alloc hbw.size _).grown hgrow (by have := hbw.size; simp; omega) (fun b hb => (hown.lt b hb).1)⟩
              case measure => simp [intOf]; omega
            · have HF : Hid (∀ k (hk : k < st.data.toList.length), a ≤ k → k < m + 1 → st.data.toList[k] ≠ 10) := fun k hk h1 h2 => by
                by_cases e : k = m
                · subst e; intro hc; apply h10; rw [show st[k] = 10 from hc]; rfl
                · exact Hacc.out.2 k hk h1 (by omega)
              go_wp2
              go_roundw
              case rel => exact ⟨m + 1, a, acc, by omega, by omega, by omega, by go_num, rfl, ⟨Hacc.out.1, HF.out⟩, hown, hbw⟩
              case measure => simp [intOf]; omega
          · obtain rfl : m = st.size := by omega
            have hac5 : acc = [lnB t 0, lnB t 1, lnB t 2, lnB t 3, lnB t 4] := by
              have h := Hacc.out.1
              rw [cut_end Hacc.out.2, List.append_nil, HST.out, text_split t HO.out] at h
              exact h
            have hlen : acc.length = 5 := by rw [hac5]; rfl
            obtain ⟨g, cap, hv⟩ : ∃ g cap, u10 = .slice (some ⟨g, 0, none⟩) 5 cap := by
              rcases hown.2 with ⟨_, h0⟩ | ⟨g, cap, cur, h1, _⟩
              · rw [hac5] at h0; simp at h0
              · exact ⟨g, cap, by rw [h1, hlen]⟩
            subst hv
            have HC : Hid (∀ x, x < 5 → wr.cell? ⟨g, x, none⟩ = some (.string ⟨(lnB t x).toArray⟩)) := fun x hx => by
              have hc := hown.cells (g := g) rfl
              rw [← add_off]
              refine hc _ _ ?_
              rw [hac5]
              match x, hx with
              | 0, _ => rfl
              | 1, _ => rfl
              | 2, _ => rfl
              | 3, _ => rfl
              | 4, _ => rfl
            have HW : Hid (Env wr ∧ Below w.heap.size w wr ∧ TabAt wr w.heap.size t ∧ w.heap.size < wr.heap.size) := ⟨HE1.out.bl hbw, btr HB1.out.1 hbw, HT.out.below hbw HB1.out.2, by have := hbw.size; have := HB1.out.2; omega⟩
            clear Hacc hown hbw hac5 hlen hac HT HE1 HB1 HI
            obtain ⟨r, hr⟩ : ∃ r, n.tmod 5 = r := ⟨_, rfl⟩
            have r1 : -5 < r := by rw [← hr]; exact Int.lt_tmod_of_pos n (by decide)
            have r2 : r < 5 := by rw [← hr]; exact Int.tmod_lt_of_pos n (by decide)
            obtain ⟨kk, hk5, hkk⟩ : ∃ kk : Nat, kk < 5 ∧ (r + 5) % 5 = (kk : Int) := ⟨((r + 5) % 5).toNat, by omega, by omega⟩
            go_wp2
            rw [hkk]
            clear hkk r1 r2 hr
            go_loop [13, 15] (fun o i => ∃ (c : Nat) (ob : ByteArray), c ≤ 5 ∧ i = .int .i64 c ∧ o = .string ob ∧ Hid (ob.data.toList = outK t s.data.toList kk c) ∧ ob.size ≤ 2000 * c) (fun _ i => 5 - (intOf i).toNat)
            case atStart => exact ⟨0, ⟨#[]⟩, by omega, rfl, rfl, (rfl : _ = _), by decide⟩
            case round =>
              obtain ⟨c, ob, hc, rfl, rfl, Hob, hoz⟩ := hrel
              by_cases hlt3 : c < 5
              · obtain ⟨x, hx⟩ : ∃ x, x = (kk + 4 * c) % 5 := ⟨_, rfl⟩
                have hx1 : ((kk : Int) + 4 * (c : Int)) % 5 = (x : Int) := by omega
                have hx5 : x < 5 := by omega
                obtain ⟨sl, hsl⟩ : ∃ sl : ByteArray, sl = ⟨(lnB t x).toArray⟩ := ⟨_, rfl⟩
                have hcell : wr.cell? ⟨g, x, none⟩ = some (.string sl) := by rw [hsl]; exact HC.out x hx5
                have Hsl : Hid (sl.data.toList = lnB t x) := by show _ = _; rw [hsl]
                have hslz : sl.size ≤ 30 := sz_of Hsl.out (lnB_len t x)
                have HX : Hid (x = (kk + 4 * c) % 5) := hx
                clear hsl hx
                go_wp2
                go_loop [13, 17] (fun o i => ∃ (j : Nat) (oc : ByteArray), j ≤ sl.size ∧ i = .int .i64 j ∧ o = .string oc ∧ Hid (oc.data.toList = outK t s.data.toList kk c ++ subL (sl.data.toList.take j)) ∧ oc.size ≤ 2000 * c + 2 * j) (fun _ i => sl.size - (intOf i).toNat)
                case atStart => exact ⟨0, ob, by omega, rfl, rfl, (by show _ = _; rw [Hob.out]; simp [subL]), by omega⟩
                case round =>
                  obtain ⟨j, oc, hj, rfl, rfl, Hoc, hocz⟩ := hrel
                  by_cases hlt4 : j < sl.size
                  · have hy : (sl[j].toNat : Int) < 256 := by have := sl[j].toNat_lt; omega
                    have hst := sub_take sl.data.toList j hlt4
                    by_cases h32 : (sl[j].toNat : Int) = 32
                    · obtain ⟨o1, l1, z1, e1⟩ := cat_rule oc ⟨#[9, 32]⟩ (2000 * c + 2 * j) 2 hocz (by decide) (by omega)
                      have HF : Hid (o1.data.toList = outK t s.data.toList kk c ++ subL (sl.data.toList.take (j + 1))) := by
                        show _ = _
                        have e : sl.data.toList[j]'hlt4 = 32 := by
                          show sl[j] = 32
                          apply UInt8.toNat_inj.1
                          show sl[j].toNat = 32
                          omega
                        rw [l1, Hoc.out, hst, if_pos e, List.append_assoc]
                      clear l1 hst
                      go_wp2
                      go_round
                      case rel => exact ⟨j + 1, o1, by omega, by go_num, rfl, HF, by omega⟩
                      case measure => simp [intOf]; omega
                    · obtain ⟨o1, l1, z1, e1⟩ := cat_rule oc (sl.extract j (j + 1)) (2000 * c + 2 * j) 1 hocz (by rw [ByteArray.size_extract]; omega) (by omega)
                      have HF : Hid (o1.data.toList = outK t s.data.toList kk c ++ subL (sl.data.toList.take (j + 1))) := by
                        show _ = _
                        have e : ¬ sl.data.toList[j]'hlt4 = 32 := by
                          intro hc
                          apply h32
                          rw [show sl[j] = 32 from hc]; rfl
                        rw [l1, Hoc.out, hst, if_neg e, List.append_assoc, extract_eq]
                        show _ ++ (_ ++ (cutL sl.data.toList j (j + 1)).toArray.toList) = _
                        rw [cutL_snoc _ _ _ (Nat.le_refl _) hlt4, cutL_same]; rfl
                      clear l1 hst
                      go_wp2
                      go_round
                      case rel => exact ⟨j + 1, o1, by omega, by go_num, rfl, HF, by omega⟩
                      case measure => simp [intOf]; omega
                  · obtain rfl : j = sl.size := by omega
                    obtain ⟨o1, l1, z1, e1⟩ := cat_rule oc ⟨#[32, 35]⟩ (2000 * c + 2 * sl.size) 2 hocz (by decide) (by omega)
                    obtain ⟨o2, l2, z2, e2⟩ := cat_rule o1 s (2000 * c + 2 * sl.size + 2) 1000 z1 (by omega) (by omega)
                    obtain ⟨o3, l3, z3, e3⟩ := cat_rule o2 ⟨#[10, 10]⟩ (2000 * c + 2 * sl.size + 2 + 1000) 2 z2 (by decide) (by omega)
                    have HF : Hid (o3.data.toList = outK t s.data.toList kk (c + 1)) := by
                      show _ = _
                      rw [outK, ← HX.out, pcL, l3, l2, l1, Hoc.out, show sl.size = sl.data.toList.length from rfl, List.take_length, Hsl.out]
                      simp
                    clear l1 l2 l3
                    go_wp2
                    go_round
                    case rel => exact ⟨c + 1, o3, by omega, by go_num, rfl, HF, by omega⟩
                    case measure => simp [intOf]; omega
              · obtain rfl : c = 5 := by omega
                have hp := HPO.out kk ob wr hk5 HNO.out (by show s.size ≤ 1000; omega) Hob.out HW.out.1
                have HP : Hid _ := hp
                have q4 := eq4same
                clear hp
                go_wp2_with (first
                  | (go_at_call 14; refine Calls.mono HP.out ?_; rintro e w3 ⟨rfl, hb3⟩; have z3 : w.heap.size < w3.heap.size := (by have := hb3.size; have := HW.out.2.2.2; omega); obtain ⟨r0, r1, r2, r3, r4, r5, r6, r7, r8, r9, r10, r11, r12⟩ := tab_val ((HW.out.2.2.1.below hb3 HW.out.2.2.2).below ((Below.refl _ w3).alloc (Nat.le_refl _) (.cells t.cells 24)) z3); simp only [Tab.cells] at r0 r1 r2 r3 r4 r5 r6 r7 r8 r9 r10 r11 r12)
                  | (go_at_call 13; refine Calls.mono (wakes_any _ ((HW.out.1.bl hb3).al _)) ?_; rintro e w9 ⟨rfl, hb9⟩))
                go_ret
                exact ⟨rfl, btr (bal (btr HW.out.2.1 hb3) _) hb9⟩

theorem law_order (t : Tab) (n : Int) (s : ByteArray) (w : World) (hs : s.size ≤ maxLen) (hE : Env w) : Calls Tryz.prog 6 #[t.val, .int .i64 n, .string s] w fun e w' => e = .returned (.bool true) ∧ Below w.heap.size w w' := by
  cases h : t.ok
  · exact order_no t n s w hE h
  · exact order_yes t n s w hs hE h

end Go.Proofs.YtgabnjiapkkjaaaGreatDoor.Tb
