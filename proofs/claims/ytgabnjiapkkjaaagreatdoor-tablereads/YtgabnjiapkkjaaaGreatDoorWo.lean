/- What package table's wordsOf answers: a new slice that holds the words of a piece of text with their places, read off the program by the walk. Conditions: the text has at most 200000 bytes. -/
import Derived.Test.YtgabnjiapkkjaaaGreatDoorRg
import Derived.Test.YtgabnjiapkkjaaaGreatDoorMa
import Derived.Deep.AppendLies
namespace Go.Proofs.YtgabnjiapkkjaaaGreatDoor.Tb
open Go.ChangeShapes Go.WideShapes Go.ChangeAt Go.RowKit

theorem info90 : (Tryz.prog.info? 90).map (fun i => (i.zero, i.size, i.bytes)) = some (some (.agg #[.int .i64 0, .string ⟨#[]⟩]), 2, 24) := by kernel_rfl
theorem info84 : (Tryz.prog.info? 84).map (fun i => (i.zero, i.size, i.bytes)) = some (some (.agg #[.slice none 0 0, .int .i64 0]), 2, 32) := by kernel_rfl

theorem isBlank_any (b : UInt8) (w : World) :
    Calls Tryz.prog 68 #[.int .u8 (b.toNat : Int)] w fun e w' => e = .returned (.bool (blankB b)) ∧ w' = w := by
  have e : blankB b = (decide ((b.toNat : Int) = 32) || decide ((b.toNat : Int) = 9)) := by
    rw [Bool.eq_iff_iff]; simp [blankB, ← UInt8.toNat_inj]; omega
  have hlt := b.toNat_lt
  rw [e]
  generalize (b.toNat : Int) = n at *
  by_cases h : n = 32
  · subst h
    go_enter Tryz.func68, Tryz.ntmps68
    go_wp2
    go_ret
    exact ⟨rfl, rfl⟩
  · have h1 : (n == 32) = false := by simpa using h
    go_enter Tryz.func68, Tryz.ntmps68
    go_wp2
    go_ret
    refine ⟨ret_bool ?_, rfl⟩
    simp only [h, decide_false, Bool.false_or]
    rw [Bool.eq_iff_iff]; simp

def wcells (ws : List (Nat × List UInt8)) : List Value := ws.flatMap fun x => [.int .i64 (x.1 : Int), .string ⟨x.2.toArray⟩]
theorem wcells_snoc (ws : List (Nat × List UInt8)) (x : Nat × List UInt8) : wcells (ws ++ [x]) = wcells ws ++ [.int .i64 (x.1 : Int), .string ⟨x.2.toArray⟩] := by simp [wcells]

theorem byteAt (s : ByteArray) (k : Nat) (h : k < s.size) : s.data.toList[k]'h = s[k] := rfl

theorem words_stop {L : List UInt8} {at0 k m : Nat} {acc W : List (Nat × List UInt8)} (h : acc ++ wordsS (L.drop m) (at0 + m) (cutL L k m) = W) (he : L.length ≤ m ∨ ∃ hm : m < L.length, blankB L[m] = true) :
    acc ++ flush (at0 + m) (cutL L k m) ++ wordsS (L.drop (m + 1)) (at0 + (m + 1)) [] = W := by
  rw [← h]
  rcases he with he | ⟨hm, hb⟩
  · rw [wordsS_end L m _ _ he, wordsS_end L (m + 1) _ _ (by omega), flush_nil, List.append_nil]
  · rw [wordsS_blank L m _ _ hm hb, List.append_assoc, Nat.add_assoc]
theorem words_go {L : List UInt8} {at0 k m : Nat} {acc W : List (Nat × List UInt8)} (h : acc ++ wordsS (L.drop m) (at0 + m) (cutL L k m) = W) (hkm : k ≤ m) (hm : m < L.length) (hb : blankB L[m] = false) :
    acc ++ wordsS (L.drop (m + 1)) (at0 + (m + 1)) (cutL L k (m + 1)) = W := by
  rw [← h, wordsS_step L m _ _ hm hb, cutL_snoc L k m hkm hm, Nat.add_assoc]

theorem extract_eq (s : ByteArray) (a b : Nat) : s.extract a b = ⟨(cutL s.data.toList a b).toArray⟩ := by
  apply ba_eq
  rw [ByteArray.data_extract]
  simp [cutL]
/-- What an append of one word leaves. -/
theorem words_put {w wr w1 : World} {v v1 : Value} {acc : List (Nat × List UInt8)} {s : ByteArray} {at0 k m : Nat} {o : Obj} (hown : wr.ownsRow w.heap.size 90 2 v acc.length (wcells acc)) (hbw : Below w.heap.size w wr)
    (hown1 : w1.ownsRow w.heap.size 90 2 v1 (acc.length + 1) (wcells acc ++ [.int .i64 ((at0 : Int) + (k : Int)), .string (s.extract k m)])) (hg : (wr.alloc o).grownBy w1 v.ownBlock) :
    w1.ownsRow w.heap.size 90 2 v1 (acc ++ [(at0 + k, cutL s.data.toList k m)]).length (wcells (acc ++ [(at0 + k, cutL s.data.toList k m)])) ∧ Below w.heap.size w w1 := by
  refine ⟨?_, (hbw.alloc hbw.size _).grown hg (by have := hbw.size; simp; omega) (fun b hb => (hown.lt b hb).1)⟩
  rw [wcells_snoc, List.length_append, List.length_singleton, ← extract_eq]
  simpa using hown1

set_option maxRecDepth 20000 in
set_option maxHeartbeats 1000000 in
theorem wordsOf_any (s : ByteArray) (at0 : Nat) (w : World) (hs : s.size ≤ 200000) (ha : at0 ≤ 200000) :
    Calls Tryz.prog 48 #[.string s, .int .i64 at0] w fun e w' => ∃ v, e = .returned v ∧ w'.ownsRow w.heap.size 90 2 v (wordsS s.data.toList at0 []).length (wcells (wordsS s.data.toList at0 [])) ∧ Below w.heap.size w w' := by
  have hsl : s.data.toList.length = s.size := rfl
  have Hsl : Hid _ := hsl
  clear hsl
  obtain ⟨i0, hi, hi2⟩ := Option.map_eq_some_iff.1 info90
  simp only [Prod.mk.injEq] at hi2
  obtain ⟨hz0, hz1, hz2⟩ := hi2
  have HI : Hid (Tryz.prog.info? 90 = some i0 ∧ i0.zero = some (.agg #[.int .i64 0, .string ⟨#[]⟩]) ∧ i0.size = 2 ∧ i0.bytes = 24) := ⟨hi, hz0, hz1, hz2⟩
  clear hi hz0 hz1 hz2
  go_enter Tryz.func48, Tryz.ntmps48
  go_wp2
  go_loopw [5, 6] (fun v i wr => ∃ (k : Nat) (acc : List (Nat × List UInt8)), k ≤ s.size + 1 ∧ acc.length ≤ k ∧ i = .int .i64 k ∧ Hid (acc ++ wordsS (s.data.toList.drop k) (at0 + k) [] = wordsS s.data.toList at0 []) ∧ wr.ownsRow w.heap.size 90 2 v acc.length (wcells acc) ∧ Below w.heap.size w wr) (fun _ i _ => s.size + 1 - (intOf i).toNat)
  case atStart => exact ⟨0, [], by omega, by simp, rfl, (rfl : _ = _), World.ownsRow_nil _ _ _ _, Below.refl _ _⟩
  case round =>
    rename_i wr
    obtain ⟨k, acc, hk, hac, rfl, Hacc, hown, hbw⟩ := hrel
    by_cases hlt : k < s.size
    · go_wp2
      go_loop [7] (fun j => ∃ m : Nat, k ≤ m ∧ m ≤ s.size ∧ j = .int .i64 m ∧ Hid (acc ++ wordsS (s.data.toList.drop m) (at0 + m) (cutL s.data.toList k m) = wordsS s.data.toList at0 [])) (fun j => s.size - (intOf j).toNat)
      case atStart => exact ⟨k, by omega, by omega, rfl, (by rw [cutL_same]; exact Hacc.out : _ = _)⟩
      case round =>
        obtain ⟨m, hkm, hm, rfl, Hm⟩ := hrel
        by_cases hgo : ∃ h : m < s.size, blankB s[m] = false
        · obtain ⟨hlt2, hbl⟩ := hgo
          go_wp2_with (first | (go_at_call 68; refine (isBlank_any _ _).mono ?_; rintro e w' ⟨rfl, rfl⟩))
          go_round
          case rel => exact ⟨m + 1, by omega, by omega, by go_num, (words_go Hm.out hkm hlt2 hbl : _ = _)⟩
          case measure => simp [intOf]; omega
        · have HX : Hid _ := words_stop Hm.out (by
            rcases Nat.lt_or_ge m s.size with h | h
            · right; refine ⟨h, ?_⟩
              cases hb : blankB s[m]
              · exact absurd ⟨h, hb⟩ hgo
              · exact hb
            · left; exact h)
          by_cases hkm2 : k = m
          · subst hkm2
            have HF : Hid (acc ++ wordsS (s.data.toList.drop (k + 1)) (at0 + (k + 1)) [] = wordsS s.data.toList at0 []) := by
              have h := HX.out
              rw [cutL_same, flush_nil, List.append_nil] at h
              exact h
            have hbl : blankB s[k] = true := by
              cases hb : blankB s[k]
              · exact absurd ⟨hlt, hb⟩ hgo
              · rfl
            clear hgo
            go_wp2_with (first | (go_at_call 68; refine (isBlank_any _ _).mono ?_; rintro e w' ⟨rfl, hw⟩; subst w'))
            go_roundw
            case rel => exact ⟨k + 1, acc, by omega, by omega, by go_num, HF, hown, hbw⟩
            case measure => simp [intOf]; omega
          · have hkl : k < m := by omega
            have HF : Hid (acc ++ [(at0 + k, cutL s.data.toList k m)] ++ wordsS (s.data.toList.drop (m + 1)) (at0 + (m + 1)) [] = wordsS s.data.toList at0 []) := by
              have h := HX.out
              rw [flush_cut s.data.toList k m at0 hkl hm] at h
              exact h
            by_cases hlt2 : m < s.size
            · have hbl : blankB s[m] = true := by
                cases hb : blankB s[m]
                · exact absurd ⟨hlt2, hb⟩ hgo
                · rfl
              clear hgo
              go_wp2_with (first | (go_at_call 68; refine (isBlank_any _ _).mono ?_; rintro e w' ⟨rfl, hw⟩; subst w') | (at_builtin; refine wpList_append_lies _ rfl _ _ 82 rfl w.heap.size 90 i0 (.agg #[.int .i64 0, .string ⟨#[]⟩]) 2 24 Tryz.underlying82 HI.out.1 HI.out.2.1 HI.out.2.2.1 HI.out.2.2.2 rfl (by decide) _ _ _ rfl (hown.alloc _) ⟨wr.heap.size, 0, none⟩ 1 1 [.int .i64 ((at0 : Int) + (k : Int)), .string (s.extract k m)] rfl rfl (World.news_of_block (heap_alloc_new wr _)) (by simp [Value.oneCell']) (by decide) (by unfold maxLen; omega) (by omega) (by have := hbw.size; simp; omega) (wr.heap.size + 1) (by simp) ?_; intro g cap w1 hown1 hgrow hat hlt3))
              go_roundw
              case rel => exact ⟨m + 1, acc ++ [(at0 + k, cutL s.data.toList k m)], by omega, by simp; omega, by go_num, HF, words_put hown hbw hown1 hgrow⟩
              case measure => simp [intOf]; omega
            · obtain rfl : m = s.size := by omega
              clear hgo
              go_wp2_with (first | (go_at_call 68; refine (isBlank_any _ _).mono ?_; rintro e w' ⟨rfl, hw⟩; subst w') | (at_builtin; refine wpList_append_lies _ rfl _ _ 82 rfl w.heap.size 90 i0 (.agg #[.int .i64 0, .string ⟨#[]⟩]) 2 24 Tryz.underlying82 HI.out.1 HI.out.2.1 HI.out.2.2.1 HI.out.2.2.2 rfl (by decide) _ _ _ rfl (hown.alloc _) ⟨wr.heap.size, 0, none⟩ 1 1 [.int .i64 ((at0 : Int) + (k : Int)), .string (s.extract k s.size)] rfl rfl (World.news_of_block (heap_alloc_new wr _)) (by simp [Value.oneCell']) (by decide) (by unfold maxLen; omega) (by omega) (by have := hbw.size; simp; omega) (wr.heap.size + 1) (by simp) ?_; intro g cap w1 hown1 hgrow hat hlt3))
              go_roundw
              case rel => exact ⟨s.size + 1, acc ++ [(at0 + k, cutL s.data.toList k s.size)], by omega, by simp; omega, by go_num, HF, words_put hown hbw hown1 hgrow⟩
              case measure => simp [intOf]; omega
    · go_wp2
      go_ret
      have h := Hacc.out
      rw [wordsS_end _ _ _ _ (by rw [Hsl.out]; omega), flush_nil, List.append_nil] at h
      subst h
      exact ⟨_, rfl, hown, hbw⟩

end Go.Proofs.YtgabnjiapkkjaaaGreatDoor.Tb
