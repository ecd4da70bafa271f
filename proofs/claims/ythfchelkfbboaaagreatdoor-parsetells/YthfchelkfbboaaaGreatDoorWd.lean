/- What the document's words answers: a new slice that holds the words of a line with their places, up to a remark, read off the program by the walk. Conditions: the text has at most 65536 bytes. -/
import Derived.Test.YthfchelkfbboaaaGreatDoorRr
namespace Go.Proofs.YthfchelkfbboaaaGreatDoor.Pr
open Go.ChangeShapes Go.WideShapes Go.ChangeAt Go.RowKit
open _root_.Go.Proofs.YthfchelkfbboaaaGreatDoor.Op
set_option maxRecDepth 20000

theorem info47 : (Tryz.prog.info? 47).map (fun i => (i.zero, i.size, i.bytes)) = some (some (.agg #[.string ⟨#[]⟩, .int .i64 0]), 2, 24) := by kernel_rfl
theorem blank_any (b : UInt8) (w : World) :
    Calls Tryz.prog 39 #[.int .u8 (b.toNat : Int)] w fun e w' => e = .returned (.bool (blankB b)) ∧ w' = w := by
  have e : blankB b = (decide ((b.toNat : Int) = 32) || decide ((b.toNat : Int) = 9)) := by
    rw [Bool.eq_iff_iff]; simp [blankB, ← UInt8.toNat_inj]; omega
  have hlt := b.toNat_lt
  rw [e]
  generalize (b.toNat : Int) = n at *
  by_cases h : n = 32
  · subst h
    go_enter Tryz.func39, Tryz.ntmps39
    go_wp2
    go_ret
    exact ⟨rfl, rfl⟩
  · have h1 : (n == 32) = false := by simpa using h
    go_enter Tryz.func39, Tryz.ntmps39
    go_wp2
    go_ret
    refine ⟨ret_bool ?_, rfl⟩
    simp only [h, decide_false, Bool.false_or]
    rw [Bool.eq_iff_iff]; simp
/-- The words of a text's bytes up to a place, from another on. -/
def dwS (s : List UInt8) (en k : Nat) (cur : List UInt8) : List Wd' := wordsS ((s.take en).drop k) k cur
theorem take_len (s : List UInt8) (en : Nat) (hen : en ≤ s.length) : (s.take en).length = en := by rw [List.length_take]; omega
theorem dw_end (s : List UInt8) (en k : Nat) (hk : en ≤ k) : dwS s en k [] = [] := by
  unfold dwS
  have := wordsS_end (s.take en) k k [] (by rw [List.length_take]; omega)
  rw [this]; rfl
theorem dw_blank (s : List UInt8) (en k : Nat) (hen : en ≤ s.length) (hk : k < en) (hb : blankB (s[k]'(by omega)) = true) : dwS s en k [] = dwS s en (k + 1) [] := by
  unfold dwS
  have := wordsS_blank (s.take en) k k [] (by rw [take_len s en hen]; exact hk) (by rw [List.getElem_take]; exact hb)
  rw [this]; rfl
theorem dw_hash (s : List UInt8) (en k : Nat) (hen : en ≤ s.length) (hk : k < en) (hb : (s[k]'(by omega)) = 35) : dwS s en k [] = [] := by
  unfold dwS
  exact wordsS_hash (s.take en) k k (by rw [take_len s en hen]; exact hk) (by rw [List.getElem_take]; exact hb)
theorem dw_step (s : List UInt8) (en k m : Nat) (hen : en ≤ s.length) (hkm : k ≤ m) (hm : m < en) (hb : blankB (s[m]'(by omega)) = false) (hh : (s[k]'(by omega)) ≠ 35) : dwS s en m (cutL s k m) = dwS s en (m + 1) (cutL s k (m + 1)) := by
  unfold dwS
  have := wordsS_step (s.take en) m m (cutL s k m) (by rw [take_len s en hen]; exact hm) (by rw [List.getElem_take]; exact hb) (by
    rcases Nat.lt_or_ge k m with h' | h'
    · right; exact cutL_ne s k m h' (by omega)
    · obtain rfl : k = m := by omega
      left; rw [List.getElem_take]; exact hh)
  rw [this, cutL_snoc s k m hkm (by omega), List.getElem_take]
theorem dw_stop (s : List UInt8) (en k m : Nat) (hen : en ≤ s.length) (hkm : k < m) (hm : m ≤ en) (hb : m < en → ∃ h : m < s.length, blankB s[m] = true) : dwS s en m (cutL s k m) = (k, cutL s k m) :: dwS s en m [] := by
  have hf := flush_cut s k m 0 hkm (by omega)
  simp only [Nat.zero_add] at hf
  rcases Nat.lt_or_ge m en with h | h
  · obtain ⟨h', hb⟩ := hb h
    rw [dw_blank s en m hen h hb]
    unfold dwS
    have := wordsS_blank (s.take en) m m (cutL s k m) (by rw [take_len s en hen]; exact h) (by rw [List.getElem_take]; exact hb)
    rw [this, hf]; rfl
  · rw [dw_end s en m h]
    unfold dwS
    have := wordsS_end (s.take en) m m (cutL s k m) (by rw [List.length_take]; omega)
    rw [this, hf]
def dcells (ws : List Wd') : List Value := ws.flatMap fun x => [.string ⟨x.2.toArray⟩, .int .i64 (x.1 : Int)]
theorem dcells_snoc (ws : List Wd') (x : Wd') : dcells (ws ++ [x]) = dcells ws ++ [.string ⟨x.2.toArray⟩, .int .i64 (x.1 : Int)] := by simp [dcells]
/-- What an append of one word leaves. -/
theorem dwords_put {w wr w1 : World} {v v1 : Value} {acc : List Wd'} {s : ByteArray} {k m : Nat} {o : Obj} (hown : wr.ownsRow w.heap.size 47 2 v acc.length (dcells acc)) (hbw : Below w.heap.size w wr)
    (hown1 : w1.ownsRow w.heap.size 47 2 v1 (acc.length + 1) (dcells acc ++ [.string (s.extract k m), .int .i64 (k : Int)])) (hg : (wr.alloc o).grownBy w1 v.ownBlock) :
    w1.ownsRow w.heap.size 47 2 v1 (acc ++ [(k, cutL s.data.toList k m)]).length (dcells (acc ++ [(k, cutL s.data.toList k m)])) ∧ Below w.heap.size w w1 := by
  refine ⟨?_, (hbw.alloc hbw.size _).grown hg (by have := hbw.size; simp; omega) (fun b hb => (hown.lt b hb).1)⟩
  rw [dcells_snoc, List.length_append, List.length_singleton, ← extract_eq]
  simpa using hown1

set_option maxHeartbeats 2000000 in
theorem dwords_any (s : ByteArray) (at0 en : Nat) (w : World) (hs : s.size ≤ 65536) (ha : at0 ≤ en) (hen : en ≤ s.size) :
    Calls Tryz.prog 19 #[.string s, .int .i64 at0, .int .i64 en] w fun e w' => ∃ v, e = .returned v ∧ w'.ownsRow w.heap.size 47 2 v (dwS s.data.toList en at0 []).length (dcells (dwS s.data.toList en at0 [])) ∧ Below w.heap.size w w' := by
  have HL : Hid (en ≤ s.data.toList.length) := hen
  obtain ⟨i0, hi, hi2⟩ := Option.map_eq_some_iff.1 info47
  simp only [Prod.mk.injEq] at hi2
  obtain ⟨hz0, hz1, hz2⟩ := hi2
  have HI : Hid (Tryz.prog.info? 47 = some i0 ∧ i0.zero = some (.agg #[.string ⟨#[]⟩, .int .i64 0]) ∧ i0.size = 2 ∧ i0.bytes = 24) := ⟨hi, hz0, hz1, hz2⟩
  clear hi hz0 hz1 hz2
  go_enter Tryz.func19, Tryz.ntmps19
  go_wp2
  go_loopw [1, 7] (fun i v wr => ∃ (k : Nat) (acc : List Wd'), at0 ≤ k ∧ k ≤ en ∧ acc.length ≤ k ∧ i = .int .i64 k ∧ Hid (acc ++ dwS s.data.toList en k [] = dwS s.data.toList en at0 []) ∧ wr.ownsRow w.heap.size 47 2 v acc.length (dcells acc) ∧ Below w.heap.size w wr) (fun i _ _ => en - (intOf i).toNat)
  case atStart => exact ⟨at0, [], by omega, by omega, by simp, rfl, (rfl : _ = _), World.ownsRow_nil _ _ _ _, Below.refl _ _⟩
  case round =>
    rename_i wr
    obtain ⟨k, acc, hk0, hk, hac, rfl, Hacc, hown, hbw⟩ := hrel
    by_cases hlt : k < en
    · have hlts : k < s.size := by omega
      cases hbl : blankB s[k] with
      | true =>
        have HF : Hid (acc ++ dwS s.data.toList en (k + 1) [] = dwS s.data.toList en at0 []) := by
          have h := Hacc.out
          rw [dw_blank _ _ _ HL.out hlt hbl] at h
          exact h
        go_wp2_with (first | (go_at_call 39; refine (blank_any _ _).mono ?_; rw [hbl]; rintro e w' ⟨rfl, hw⟩; subst w'))
        go_roundw
        case rel => exact ⟨k + 1, acc, by omega, by omega, by omega, by go_num, HF, hown, hbw⟩
        case measure => simp [intOf]; omega
      | false =>
        by_cases h35 : s[k] = 35
        · have h35i : ((s[k].toNat : Int) == 35) = true := by simpa using (byte35 s[k]).2 h35
          have HF : Hid (acc = dwS s.data.toList en at0 []) := by
            have h := Hacc.out
            rw [dw_hash _ _ _ HL.out hlt h35, List.append_nil] at h
            exact h
          clear h35
          go_wp2_with (first | (go_at_call 39; refine (blank_any _ _).mono ?_; rw [hbl]; rintro e w' ⟨rfl, hw⟩; subst w'))
          go_ret
          have h := HF.out
          subst h
          exact ⟨_, rfl, hown, hbw⟩
        · have h35i : ((s[k].toNat : Int) == 35) = false := by simpa using fun h => h35 ((byte35 s[k]).1 h)
          have H35 : Hid (s[k] ≠ 35) := h35
          have HBk : Hid (blankB s[k] = false) := hbl
          clear h35
          go_wp2_with (first | (go_at_call 39; refine (blank_any _ _).mono ?_; rw [hbl]; rintro e w' ⟨rfl, hw⟩; subst w'))
          clear hbl
          go_loop [8] (fun j => ∃ m : Nat, k ≤ m ∧ m ≤ en ∧ j = .int .i64 m ∧ Hid (acc ++ dwS s.data.toList en m (cutL s.data.toList k m) = dwS s.data.toList en at0 [])) (fun j => en - (intOf j).toNat)
          case atStart => exact ⟨k, by omega, by omega, rfl, (by rw [cutL_same]; exact Hacc.out : _ = _)⟩
          case round =>
            obtain ⟨m, hkm, hm, rfl, Hm⟩ := hrel
            by_cases hgo : ∃ h : m < en, blankB (s[m]'(by omega)) = false
            · obtain ⟨hlt2, hbl⟩ := hgo
              have hlt2s : m < s.size := by omega
              go_wp2_with (first | (go_at_call 39; refine (blank_any _ _).mono ?_; rw [hbl]; rintro e w' ⟨rfl, hw⟩; subst w'))
              go_round
              case rel => exact ⟨m + 1, by omega, by omega, by go_num, (by rw [← dw_step _ _ _ _ HL.out hkm hlt2 hbl H35.out]; exact Hm.out : _ = _)⟩
              case measure => simp [intOf]; omega
            · have hkl : k < m := by
                rcases Nat.lt_or_ge k m with h | h
                · exact h
                · obtain rfl : k = m := by omega
                  exact absurd ⟨hlt, HBk.out⟩ hgo
              have hst : m < en → ∃ h : m < s.size, blankB s[m] = true := fun h => ⟨by omega, by
                cases hb : blankB (s[m]'(by omega))
                · exact absurd ⟨h, hb⟩ hgo
                · rfl⟩
              have HF : Hid (acc ++ [(k, cutL s.data.toList k m)] ++ dwS s.data.toList en m [] = dwS s.data.toList en at0 []) := by
                have h := Hm.out
                rw [dw_stop _ _ k m HL.out hkl hm hst] at h
                show acc ++ [(k, cutL s.data.toList k m)] ++ dwS s.data.toList en m [] = dwS s.data.toList en at0 []
                rw [← h, List.append_assoc]; rfl
              have hms : m ≤ s.size := by omega
              clear hgo
              by_cases hlt2 : m < en
              · obtain ⟨hlt2s, hbl⟩ := hst hlt2
                go_wp2_with (first | (go_at_call 39; refine (blank_any _ _).mono ?_; rw [hbl]; rintro e w' ⟨rfl, hw⟩; subst w') | (at_builtin; refine wpList_append_lies _ rfl _ _ 43 rfl w.heap.size 47 i0 (.agg #[.string ⟨#[]⟩, .int .i64 0]) 2 24 Tryz.underlying43 HI.out.1 HI.out.2.1 HI.out.2.2.1 HI.out.2.2.2 rfl (by decide) _ _ _ rfl (hown.alloc _) ⟨wr.heap.size, 0, none⟩ 1 1 [.string (s.extract k m), .int .i64 (k : Int)] rfl rfl (World.news_of_block (heap_alloc_new wr _)) (by simp [Value.oneCell']) (by decide) (by unfold maxLen; omega) (by omega) (by have := hbw.size; simp; omega) (wr.heap.size + 1) (by simp) ?_; intro g cap w1 hown1 hgrow hat hlt3))
                go_roundw
                case rel => exact ⟨m, acc ++ [(k, cutL s.data.toList k m)], by omega, by omega, by simp; omega, by go_num, HF, dwords_put hown hbw hown1 hgrow⟩
                case measure => simp [intOf]; omega
              · go_wp2_with (first | (go_at_call 39; refine (blank_any _ _).mono ?_; rintro e w' ⟨rfl, hw⟩; subst w') | (at_builtin; refine wpList_append_lies _ rfl _ _ 43 rfl w.heap.size 47 i0 (.agg #[.string ⟨#[]⟩, .int .i64 0]) 2 24 Tryz.underlying43 HI.out.1 HI.out.2.1 HI.out.2.2.1 HI.out.2.2.2 rfl (by decide) _ _ _ rfl (hown.alloc _) ⟨wr.heap.size, 0, none⟩ 1 1 [.string (s.extract k m), .int .i64 (k : Int)] rfl rfl (World.news_of_block (heap_alloc_new wr _)) (by simp [Value.oneCell']) (by decide) (by unfold maxLen; omega) (by omega) (by have := hbw.size; simp; omega) (wr.heap.size + 1) (by simp) ?_; intro g cap w1 hown1 hgrow hat hlt3))
                go_roundw
                case rel => exact ⟨m, acc ++ [(k, cutL s.data.toList k m)], by omega, by omega, by simp; omega, by go_num, HF, dwords_put hown hbw hown1 hgrow⟩
                case measure => simp [intOf]; omega
    · go_wp2
      go_ret
      have h := Hacc.out
      rw [dw_end _ _ _ (by omega), List.append_nil] at h
      subst h
      exact ⟨_, rfl, hown, hbw⟩
end Go.Proofs.YthfchelkfbboaaaGreatDoor.Pr
