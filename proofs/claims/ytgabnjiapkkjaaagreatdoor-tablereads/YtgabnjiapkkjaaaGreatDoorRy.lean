/- Plain mathematics of one line against its wants, told as a chain of faults. Conditions: as each row says. -/
import Derived.Test.YtgabnjiapkkjaaaGreatDoorRs
namespace Go.Proofs.YtgabnjiapkkjaaaGreatDoor.Tb

theorem runW_num (o : Nat) (lo hi : Int) (Ks : List Wk) (ws : List (Nat × List UInt8)) (j en : Nat) (st : St) :
    runW (wNum o lo hi :: Ks) (ws.drop j) en st = match numF ws j lo hi en with
      | some f => (some f, st)
      | none => runW Ks (ws.drop (j + 1)) en { st with t := st.t.put o (decV (ws[j]?.getD (0, [])).2) } := by
  rcases Nat.lt_or_ge j ws.length with h | h
  · rw [List.drop_eq_getElem_cons h, numF, List.getElem?_eq_getElem h]
    by_cases e : numC lo hi ws[j].2 = 0
    · simp [runW, Wk.code, Wk.next, wNum, e]
    · simp [runW, Wk.code, Wk.next, wNum, e]
  · rw [List.drop_eq_nil_of_le h, numF, List.getElem?_eq_none h]
    rfl
theorem runW_word (s : List UInt8) (Ks : List Wk) (ws : List (Nat × List UInt8)) (j en : Nat) (st : St) :
    runW (wExact s :: Ks) (ws.drop j) en st = match wrdF ws j s en with
      | some f => (some f, st)
      | none => runW Ks (ws.drop (j + 1)) en st := by
  rcases Nat.lt_or_ge j ws.length with h | h
  · rw [List.drop_eq_getElem_cons h, wrdF, List.getElem?_eq_getElem h]
    by_cases e : ws[j].2 = s
    · simp [runW, Wk.code, Wk.next, wExact, e]
    · simp [runW, Wk.code, Wk.next, wExact, e]
  · rw [List.drop_eq_nil_of_le h, wrdF, List.getElem?_eq_none h]
    rfl
def lastF (ws : List (Nat × List UInt8)) (j : Nat) : Flt := ws[j]?.map fun x => (60, x.1, x.2)
theorem runW_fin (ws : List (Nat × List UInt8)) (j en : Nat) (st : St) : runW [] (ws.drop j) en st = (lastF ws j, st) := by
  rcases Nat.lt_or_ge j ws.length with h | h
  · rw [List.drop_eq_getElem_cons h, lastF, List.getElem?_eq_getElem h]; rfl
  · rw [List.drop_eq_nil_of_le h, lastF, List.getElem?_eq_none h]; rfl
theorem runW_first (k : Nat) (Ks : List Wk) (ws : List (Nat × List UInt8)) (en : Nat) (st : St) (h0 : 0 < ws.length) (hh : st.had k = false) : runW (wOnce k :: Ks) ws en st = runW Ks (ws.drop 1) en (st.have k) := by
  match ws, h0 with
  | x :: xs, _ => simp [runW, Wk.code, Wk.next, wOnce, hh]
theorem num_some {ws : List (Nat × List UInt8)} {j en : Nat} {lo hi : Int} (h : numF ws j lo hi en = none) : ws[j]? = some (ws[j]?.getD (0, [])) := by
  unfold numF at h
  cases e : ws[j]? with
  | none => rw [e] at h; simp at h
  | some x => rfl

theorem chain_class (K : Nat) (ws : List (Nat × List UInt8)) (en : Nat) (st : St) (hK : K < 4) (hh : st.had K = false) (h0 : 0 < ws.length) (v1 v3 v5 : Int) (f1 f2 f3 f4 f5 : Flt)
    (hf1 : f1 = numF ws 1 0 8 en) (hf2 : f2 = f1.or (wrdF ws 2 [108, 97, 116] en)) (hf3 : f3 = f2.or (numF ws 3 1 8 en)) (hf4 : f4 = f3.or (wrdF ws 4 [98, 117, 115, 121] en)) (hf5 : f5 = f4.or (numF ws 5 1 4 en))
    (e1 : f1 = none → ∀ x, ws[1]? = some x → v1 = (decV x.2 : Int)) (e3 : f3 = none → ∀ x, ws[3]? = some x → v3 = (decV x.2 : Int)) (e5 : f5 = none → ∀ x, ws[5]? = some x → v5 = (decV x.2 : Int)) :
    (runW (wantsK K) ws en st).1 = f5.or (lastF ws 6) ∧ (f5.or (lastF ws 6) = none → (runW (wantsK K) ws en st).2 = ⟨(st.have K).had, (((st.have K).t.put K v1).put (4 + K) v3).put (8 + K) v5⟩) := by
  rw [wantsK, if_neg (by omega), if_neg (by omega)]
  rw [runW_first K _ ws en st h0 hh, runW_num]
  cases n1 : numF ws 1 0 8 en with
  | some f => simp [hf5, hf4, hf3, hf2, hf1, n1]
  | none =>
    rw [n1] at hf1
    have k1 := e1 hf1 _ (num_some n1)
    simp only [hf1, Option.none_or] at hf2
    simp only
    rw [runW_word]
    cases n2 : wrdF ws 2 [108, 97, 116] en with
    | some f => simp [hf5, hf4, hf3, hf2, n2]
    | none =>
      rw [n2] at hf2
      simp only [hf2, Option.none_or] at hf3
      simp only
      rw [runW_num]
      cases n3 : numF ws 3 1 8 en with
      | some f => simp [hf5, hf4, hf3, n3]
      | none =>
        rw [n3] at hf3
        have k3 := e3 hf3 _ (num_some n3)
        simp only [hf3, Option.none_or] at hf4
        simp only
        rw [runW_word]
        cases n4 : wrdF ws 4 [98, 117, 115, 121] en with
        | some f => simp [hf5, hf4, n4]
        | none =>
          rw [n4] at hf4
          simp only [hf4, Option.none_or] at hf5
          simp only
          rw [runW_num]
          cases n5 : numF ws 5 1 4 en with
          | some f => simp [hf5, n5]
          | none =>
            rw [n5] at hf5
            have k5 := e5 hf5 _ (num_some n5)
            simp only
            rw [runW_fin, hf5, Option.none_or, k1, k3, k5]
            exact ⟨rfl, fun _ => rfl⟩
theorem chain_delay (ws : List (Nat × List UInt8)) (en : Nat) (st : St) (hh : st.had 4 = false) (h0 : 0 < ws.length) (v1 : Int) (f1 : Flt)
    (hf1 : f1 = numF ws 1 0 4 en) (e1 : f1 = none → ∀ x, ws[1]? = some x → v1 = (decV x.2 : Int)) :
    (runW (wantsK 4) ws en st).1 = f1.or (lastF ws 2) ∧ (f1.or (lastF ws 2) = none → (runW (wantsK 4) ws en st).2 = ⟨(st.have 4).had, (st.have 4).t.put 12 v1⟩) := by
  rw [wantsK, if_neg (by omega), if_pos rfl]
  rw [runW_first 4 _ ws en st h0 hh, runW_num]
  cases n1 : numF ws 1 0 4 en with
  | some f => simp [hf1, n1]
  | none =>
    rw [n1] at hf1
    have k1 := e1 hf1 _ (num_some n1)
    simp only
    rw [runW_fin, hf1, Option.none_or, k1]
    exact ⟨rfl, fun _ => rfl⟩

end Go.Proofs.YtgabnjiapkkjaaaGreatDoor.Tb
