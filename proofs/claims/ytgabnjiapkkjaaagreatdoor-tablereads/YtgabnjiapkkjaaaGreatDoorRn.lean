/- The reference's Number: what it answers of a word. Conditions: the word is not empty. -/
import Derived.Test.YtgabnjiapkkjaaaGreatDoorWk
namespace Go.Proofs.YtgabnjiapkkjaaaGreatDoor.Tb
open Go.ChangeShapes Go.WideShapes Go.ChangeAt Go.RowKit

def numV (l : List UInt8) : Int := if isNumB l then ((min (decV l) 1000 : Nat) : Int) else 0
theorem decA_take (l : List UInt8) (k : Nat) (hk : k < l.length) : decA 0 (l.take (k + 1)) = decA 0 (l.take k) * 10 + (l[k].toNat - 48) := by
  rw [List.take_succ_eq_append_getElem hk]
  unfold decA
  rw [List.foldl_append]; rfl
theorem all_take (l : List UInt8) (k : Nat) (hk : k < l.length) : (l.take (k + 1)).all digB = ((l.take k).all digB && digB l[k]) := by
  rw [List.take_succ_eq_append_getElem hk, List.all_append]
  simp only [List.all_cons, List.all_nil, Bool.and_true]

set_option maxRecDepth 20000 in
set_option maxHeartbeats 1000000 in
theorem refNumber (s : ByteArray) (w : World) (hs : s.size ≤ 200000) (hne : 0 < s.size) : Calls Tryz.prog 56 #[.string s] w fun e w' => e = .returned (.tuple #[.int .i64 (numV s.data.toList), .bool (isNumB s.data.toList)]) ∧ w' = w := by
  have hll : s.data.toList.length = s.size := rfl
  have hse : (s.toList == []) = false := by
    rw [ByteArray.toList_eq]
    cases h : s.data.toList with
    | nil => rw [h] at hll; simp at hll; omega
    | cons x xs => rfl
  have hse2 : s.toList.isEmpty = false := by
    rw [ByteArray.toList_eq]
    cases h : s.data.toList with
    | nil => rw [h] at hll; simp at hll; omega
    | cons x xs => rfl
  have hx0 : (s[0].toNat : Int) < 256 := by have := s[0].toNat_lt; omega
  have h00 : s.data.toList = s[0] :: s.data.toList.drop 1 := by
    have := List.drop_eq_getElem_cons (l := s.data.toList) (i := 0) hne
    rw [List.drop_zero] at this
    exact this
  by_cases hz : 1 < s.size ∧ (s[0].toNat : Int) = 48
  · obtain ⟨hz1, hz2⟩ := hz
    have hn : isNumB s.data.toList = false := by
      have e : s[0] = 48 := by apply UInt8.toNat_inj.1; show s[0].toNat = 48; omega
      have h1 : ([48] : List UInt8).isPrefixOf s.data.toList = true := by rw [h00, e]; simp [List.isPrefixOf]
      have h2 : (s.data.toList == [48]) = false := by
        cases h : (s.data.toList == [48])
        · rfl
        · have := eq_of_beq h; rw [this] at hll; simp at hll; omega
      simp [isNumB, h1, h2]
    have hv : numV s.data.toList = 0 := by simp [numV, hn]
    rw [hv, hn]
    clear hv hn h00
    go_enter Tryz.func56, Tryz.ntmps56
    go_wp2
    go_ret2
    exact ⟨rfl, rfl⟩
  · have HN : Hid (isNumB s.data.toList = s.data.toList.all digB) := by
      show _ = _
      by_cases h1 : s.size = 1
      · have e : s.data.toList = [s[0]] := by
          rw [h00]; congr 1
          apply List.eq_nil_of_length_eq_zero
          simp; omega
        rw [isNumB, e]
        by_cases e2 : s[0] = 48
        · simp [e2, digB]
        · have : ([48] : List UInt8).isPrefixOf [s[0]] = false := by simp [List.isPrefixOf]; exact fun h => e2 h.symm
          simp [this]
      · have e2 : s[0] ≠ 48 := by
          intro e; apply hz
          exact ⟨by omega, by rw [e]; rfl⟩
        have : ([48] : List UInt8).isPrefixOf s.data.toList = false := by rw [h00]; simp [List.isPrefixOf]; exact fun h => e2 h.symm
        simp [isNumB, this]
    have hz' : 1 < s.size → ((s[0].toNat : Int) == 48) = false := fun h => by
      simp only [beq_eq_false_iff_ne]; exact fun e => hz ⟨h, e⟩
    have Hll : Hid _ := hll
    clear h00 hz hll
    have key : ∀ b : Bool, b = decide (1 < s.size) → Calls Tryz.prog 56 #[.string s] w fun e w' => e = .returned (.tuple #[.int .i64 (numV s.data.toList), .bool (isNumB s.data.toList)]) ∧ w' = w := by
      intro b hb
      generalize hN : numV s.data.toList = V at *
      generalize hI : isNumB s.data.toList = I at *
      have HV : Hid (numV s.data.toList = V ∧ isNumB s.data.toList = I) := ⟨hN, hI⟩
      clear hN hI
      cases b
      · have h1 : ¬ 1 < s.size := by simpa using hb
        clear hz' hb
        go_enter Tryz.func56, Tryz.ntmps56
        go_wp2
        go_loop [4, 5] (fun n i => ∃ k m : Nat, k ≤ s.size ∧ m ≤ 1000 ∧ i = .int .i64 k ∧ n = .int .i64 m ∧ Hid (m = min (decA 0 (s.data.toList.take k)) 1000 ∧ (s.data.toList.take k).all digB = true)) (fun _ i => s.size - (intOf i).toNat)
        case atStart => exact ⟨0, 0, by omega, by omega, rfl, rfl, ⟨by simp [decA], by simp⟩⟩
        case round =>
          obtain ⟨k, m, hk, hm, rfl, rfl, Hk⟩ := hrel
          by_cases hlt : k < s.size
          · have hx : (s[k].toNat : Int) < 256 := by have := s[k].toNat_lt; omega
            have hno : digB s[k] = false → V = 0 ∧ I = false := fun h => by
              have h2 : s.data.toList.all digB = false := by
                rw [List.all_eq_false]
                exact ⟨s[k], by exact List.getElem_mem (l := s.data.toList) hlt, by simp [h]⟩
              have h3 : isNumB s.data.toList = false := by rw [HV.out.2, HN.out, h2]
              exact ⟨by rw [← HV.out.1, numV, h3]; rfl, by rw [← HV.out.2, h3]⟩
            by_cases h1 : (s[k].toNat : Int) < 48
            · obtain ⟨rfl, rfl⟩ := hno (by simp [digB]; omega)
              clear hno
              go_wp2
              go_ret2
              exact ⟨rfl, rfl⟩
            · by_cases h2 : 57 < (s[k].toNat : Int)
              · obtain ⟨rfl, rfl⟩ := hno (by simp [digB]; omega)
                clear hno
                go_wp2
                go_ret2
                exact ⟨rfl, rfl⟩
              · have HF : Hid (min (m * 10 + (s[k].toNat - 48)) 1000 = min (decA 0 (s.data.toList.take (k + 1))) 1000 ∧ (s.data.toList.take (k + 1)).all digB = true) := by
                  have e1 := decA_take s.data.toList k hlt
                  have e2 := all_take s.data.toList k hlt
                  have e3 : s.data.toList[k]'hlt = s[k] := rfl
                  rw [e3] at e1 e2
                  refine ⟨?_, ?_⟩
                  · rw [e1]; have := Hk.out.1; omega
                  · rw [e2, Hk.out.2]; simp [digB]; omega
                clear hno
                go_wp2
                go_round
                case rel => exact ⟨k + 1, min (m * 10 + (s[k].toNat - 48)) 1000, by omega, by omega, by go_num, by go_num, HF⟩
                case measure => simp [intOf]; omega
          · obtain rfl : k = s.size := by omega
            have e : V = m ∧ I = true := by
              have h := Hk.out
              rw [← Hll.out, List.take_length] at h
              have h3 : isNumB s.data.toList = true := by rw [HV.out.2, HN.out, h.2]
              exact ⟨by rw [← HV.out.1, numV, h3, if_pos rfl, h.1]; rfl, by rw [← HV.out.2, h3]⟩
            obtain ⟨rfl, rfl⟩ := e
            go_wp2
            go_ret2
            exact ⟨rfl, rfl⟩
      · have h1 : 1 < s.size := by simpa using hb.symm
        have hz2 := hz' h1
        clear hz' hb
        go_enter Tryz.func56, Tryz.ntmps56
        go_wp2
        go_loop [4, 5] (fun n i => ∃ k m : Nat, k ≤ s.size ∧ m ≤ 1000 ∧ i = .int .i64 k ∧ n = .int .i64 m ∧ Hid (m = min (decA 0 (s.data.toList.take k)) 1000 ∧ (s.data.toList.take k).all digB = true)) (fun _ i => s.size - (intOf i).toNat)
        case atStart => exact ⟨0, 0, by omega, by omega, rfl, rfl, ⟨by simp [decA], by simp⟩⟩
        case round =>
          obtain ⟨k, m, hk, hm, rfl, rfl, Hk⟩ := hrel
          by_cases hlt : k < s.size
          · have hx : (s[k].toNat : Int) < 256 := by have := s[k].toNat_lt; omega
            have hno : digB s[k] = false → V = 0 ∧ I = false := fun h => by
              have h2 : s.data.toList.all digB = false := by
                rw [List.all_eq_false]
                exact ⟨s[k], by exact List.getElem_mem (l := s.data.toList) hlt, by simp [h]⟩
              have h3 : isNumB s.data.toList = false := by rw [HV.out.2, HN.out, h2]
              exact ⟨by rw [← HV.out.1, numV, h3]; rfl, by rw [← HV.out.2, h3]⟩
            by_cases h1 : (s[k].toNat : Int) < 48
            · obtain ⟨rfl, rfl⟩ := hno (by simp [digB]; omega)
              clear hno
              go_wp2
              go_ret2
              exact ⟨rfl, rfl⟩
            · by_cases h2 : 57 < (s[k].toNat : Int)
              · obtain ⟨rfl, rfl⟩ := hno (by simp [digB]; omega)
                clear hno
                go_wp2
                go_ret2
                exact ⟨rfl, rfl⟩
              · have HF : Hid (min (m * 10 + (s[k].toNat - 48)) 1000 = min (decA 0 (s.data.toList.take (k + 1))) 1000 ∧ (s.data.toList.take (k + 1)).all digB = true) := by
                  have e1 := decA_take s.data.toList k hlt
                  have e2 := all_take s.data.toList k hlt
                  have e3 : s.data.toList[k]'hlt = s[k] := rfl
                  rw [e3] at e1 e2
                  refine ⟨?_, ?_⟩
                  · rw [e1]; have := Hk.out.1; omega
                  · rw [e2, Hk.out.2]; simp [digB]; omega
                clear hno
                go_wp2
                go_round
                case rel => exact ⟨k + 1, min (m * 10 + (s[k].toNat - 48)) 1000, by omega, by omega, by go_num, by go_num, HF⟩
                case measure => simp [intOf]; omega
          · obtain rfl : k = s.size := by omega
            have e : V = m ∧ I = true := by
              have h := Hk.out
              rw [← Hll.out, List.take_length] at h
              have h3 : isNumB s.data.toList = true := by rw [HV.out.2, HN.out, h.2]
              exact ⟨by rw [← HV.out.1, numV, h3, if_pos rfl, h.1]; rfl, by rw [← HV.out.2, h3]⟩
            obtain ⟨rfl, rfl⟩ := e
            go_wp2
            go_ret2
            exact ⟨rfl, rfl⟩
    exact key _ rfl

end Go.Proofs.YtgabnjiapkkjaaaGreatDoor.Tb
