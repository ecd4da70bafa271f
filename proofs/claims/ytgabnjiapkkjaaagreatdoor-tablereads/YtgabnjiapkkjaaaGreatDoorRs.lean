/- The reference's reader: what wrong, word and number do to it, told for all cases at once. Conditions: as each row says. -/
import Derived.Test.YtgabnjiapkkjaaaGreatDoorRr
namespace Go.Proofs.YtgabnjiapkkjaaaGreatDoor.Tb
open Go.ChangeShapes Go.WideShapes Go.ChangeAt Go.RowKit

abbrev Flt := Option (Int × Nat × List UInt8)
/-- The fault that the reader holds. -/
def FIs (c : Nat → Value) : Flt → Prop
  | none => c 18 = .int .i64 0
  | some x => c 18 = .int .i64 x.1 ∧ x.1 ≠ 0 ∧ c 19 = .int .i64 (x.2.1 : Int) ∧ c 20 = .string ⟨x.2.2.toArray⟩
theorem FIs.new (c : Nat → Value) (e : Int) (a : Nat) (l : List UInt8) (he : e ≠ 0) : FIs (setF c e (a : Int) ⟨l.toArray⟩) (some (e, a, l)) := by
  refine ⟨?_, he, ?_, ?_⟩ <;> simp [setF, setC]
theorem setF_old (c : Nat → Value) (e a : Int) (s : ByteArray) (k : Nat) (hk : k < 18) : setF c e a s k = c k := by
  simp only [setF, setC]
  rw [if_neg (by omega), if_neg (by omega), if_neg (by omega)]
/-- A line's words in memory. -/
structure WsAt (w : World) (g : Nat) (ws : List (Nat × List UInt8)) : Prop where
  s : ∀ j (hj : j < ws.length), w.cell? ⟨g, j * 2, none⟩ = some (.string ⟨ws[j].2.toArray⟩)
  a : ∀ j (hj : j < ws.length), w.cell? ⟨g, j * 2 + 1, none⟩ = some (.int .i64 (ws[j].1 : Int))
  lt : g < w.heap.size
theorem WsAt.but {w w' : World} {g rb : Nat} {ws : List (Nat × List UInt8)} (h : WsAt w g ws) (hb : But rb rb w w') (hne : g ≠ rb) : WsAt w' g ws :=
  ⟨fun j hj => (hb.cell h.lt hne hne).trans (h.s j hj), fun j hj => (hb.cell h.lt hne hne).trans (h.a j hj), Nat.lt_of_lt_of_le h.lt hb.size⟩
def numF (ws : List (Nat × List UInt8)) (i : Nat) (lo hi : Int) (en : Nat) : Flt :=
  match ws[i]? with
  | none => some (60, en, [])
  | some x => if numC lo hi x.2 = 0 then none else some (numC lo hi x.2, x.1, x.2)
def wrdF (ws : List (Nat × List UInt8)) (i : Nat) (s : List UInt8) (en : Nat) : Flt :=
  match ws[i]? with
  | none => some (60, en, [])
  | some x => if x.2 = s then none else some (60, x.1, x.2)
/-- What a step leaves of the reader. -/
def Step (rb : Nat) (c : Nat → Value) (f : Flt) (w w' : World) : Prop := ∃ c', RdC w' rb c' ∧ FIs c' f ∧ (∀ k, k < 18 → c' k = c k) ∧ But rb rb w w'
theorem numV_in {lo hi : Int} (l : List UInt8) (hn : isNumB l = true) (hhi : hi ≤ 999) : inB lo hi (numV l) = inB lo hi (decV l) := by
  unfold numV inB
  rw [if_pos hn, Bool.eq_iff_iff]
  simp only [Bool.and_eq_true, decide_eq_true_eq]
  omega

theorem wrong_any (rb : Nat) (c : Nat → Value) (f : Flt) (e : Int) (a : Nat) (l : List UInt8) (w : World) (hR : RdC w rb c) (hF : FIs c f) (he : e ≠ 0) :
    Calls Tryz.prog 36 #[.pointer (some ⟨rb, 0, none⟩), .int .i64 e, .agg #[.string ⟨l.toArray⟩, .int .i64 (a : Int)]] w fun ev w' => ev = .returned (.tuple #[]) ∧ Step rb c (f.or (some (e, a, l))) w w' := by
  cases f with
  | none => exact (wrong_yes rb c e a _ w hR hF).mono fun _ _ ⟨h1, h2, h3⟩ => ⟨h1, _, h2, FIs.new c e a l he, fun k hk => setF_old _ _ _ _ k hk, h3⟩
  | some x => exact (wrong_no rb c x.1 e a _ w hR hF.1 hF.2.1).mono fun _ _ ⟨h1, h2, h3⟩ => ⟨h1, _, h2, hF, fun _ _ => rfl, h3⟩

theorem word_any (rb g cap i en : Nat) (ws : List (Nat × List UInt8)) (c : Nat → Value) (f : Flt) (s : List UInt8) (w : World) (hR : RdC w rb c) (hF : FIs c f) (hW : WsAt w g ws) (hn : ws.length ≤ 200000) (hi : i ≤ 200000) :
    Calls Tryz.prog 38 #[.pointer (some ⟨rb, 0, none⟩), .agg #[.slice (some ⟨g, 0, none⟩) ws.length cap, .int .i64 (en : Int)], .int .i64 (i : Int), .string ⟨s.toArray⟩] w fun ev w' => ev = .returned (.tuple #[]) ∧ Step rb c (f.or (wrdF ws i s en)) w w' := by
  cases f with
  | some x => exact (word_done rb g ws.length cap i en x.1 c _ w hR hF.1 hn hi hF.2.1).mono fun _ _ ⟨h1, h2, h3⟩ => ⟨h1, _, h2, hF, fun _ _ => rfl, h3⟩
  | none =>
    rcases Nat.lt_or_ge i ws.length with hlt | hge
    · have e : wrdF ws i s en = if ws[i].2 = s then none else some (60, ws[i].1, ws[i].2) := by rw [wrdF, List.getElem?_eq_getElem hlt]
      by_cases h : ws[i].2 = s
      · rw [e, if_pos h]
        exact (word_ok rb g ws.length cap i en 0 c _ w hR hF hn hi _ _ hlt hW.lt (hW.s i hlt) (hW.a i hlt) (by rw [h])).mono fun _ _ ⟨h1, h2, h3⟩ => ⟨h1, _, h2, hF, fun _ _ => rfl, h3⟩
      · rw [e, if_neg h]
        exact (word_bad rb g ws.length cap i en 0 c _ w hR hF hn hi _ _ hlt hW.lt (hW.s i hlt) (hW.a i hlt) (fun h' => h (by simpa using congrArg (fun x : ByteArray => x.data.toList) h'))).mono fun _ _ ⟨h1, h2, h3⟩ => ⟨h1, _, h2, FIs.new c 60 _ _ (by decide), fun k hk => setF_old _ _ _ _ k hk, h3⟩
    · have e : wrdF ws i s en = some (60, en, []) := by rw [wrdF, List.getElem?_eq_none hge]
      rw [e]
      exact (word_short rb g ws.length cap i en 0 c _ w hR hF hn hi hge).mono fun _ _ ⟨h1, h2, h3⟩ => ⟨h1, _, h2, FIs.new c 60 en [] (by decide), fun k hk => setF_old _ _ _ _ k hk, h3⟩

theorem number_any (rb g cap i en : Nat) (ws : List (Nat × List UInt8)) (c : Nat → Value) (f : Flt) (lo hi : Int) (w : World) (hR : RdC w rb c) (hF : FIs c f) (hW : WsAt w g ws) (hn : ws.length ≤ 200000) (hi' : i ≤ 200000) (hhi : hi ≤ 999) (hws : ∀ x ∈ ws, x.2 ≠ [] ∧ x.2.length ≤ 200000) :
    Calls Tryz.prog 37 #[.pointer (some ⟨rb, 0, none⟩), .agg #[.slice (some ⟨g, 0, none⟩) ws.length cap, .int .i64 (en : Int)], .int .i64 (i : Int), .int .i64 lo, .int .i64 hi] w fun ev w' => ∃ v, ev = .returned (.int .i64 v) ∧ Step rb c (f.or (numF ws i lo hi en)) w w' ∧ (f.or (numF ws i lo hi en) = none → ∀ x, ws[i]? = some x → v = (decV x.2 : Int)) := by
  cases f with
  | some x => exact (num_done rb g ws.length cap i en x.1 c _ _ w hR hF.1 hn hi' hF.2.1).mono fun _ _ ⟨h1, h2, h3⟩ => ⟨_, h1, ⟨_, h2, hF, fun _ _ => rfl, h3⟩, fun h => by cases h⟩
  | none =>
    rcases Nat.lt_or_ge i ws.length with hlt | hge
    · have e : numF ws i lo hi en = if numC lo hi ws[i].2 = 0 then none else some (numC lo hi ws[i].2, ws[i].1, ws[i].2) := by rw [numF, List.getElem?_eq_getElem hlt]
      obtain ⟨w1, w2⟩ := hws ws[i] (List.getElem_mem hlt)
      have w3 : 0 < (⟨ws[i].2.toArray⟩ : ByteArray).size := List.length_pos_iff.2 w1
      have hd : (⟨ws[i].2.toArray⟩ : ByteArray).data.toList = ws[i].2 := by simp
      cases hN : isNumB ws[i].2
      · have hc : numC lo hi ws[i].2 = 60 := by simp [numC, hN]
        rw [e, hc, if_neg (by decide)]
        exact (num_bad rb g ws.length cap i en 0 c lo hi w hR hF hn hi' _ _ hlt hW.lt (hW.s i hlt) (hW.a i hlt) w2 w3 (by rw [hd]; exact hN)).mono fun _ _ ⟨⟨v, h1⟩, h2, h3⟩ => ⟨v, h1, ⟨_, h2, FIs.new c 60 _ _ (by decide), fun k hk => setF_old _ _ _ _ k hk, h3⟩, fun h => by cases h⟩
      · have hv := numV_in (lo := lo) (hi := hi) ws[i].2 hN hhi
        cases hB : inB lo hi (decV ws[i].2)
        · have hc : numC lo hi ws[i].2 = 20 := by simp [numC, hN, hB]
          rw [e, hc, if_neg (by decide)]
          exact (num_far rb g ws.length cap i en 0 c lo hi w hR hF hn hi' _ _ hlt hW.lt (hW.s i hlt) (hW.a i hlt) w2 w3 (by rw [hd]; exact hN) (by rw [hd, hv]; exact hB)).mono fun _ _ ⟨⟨v, h1⟩, h2, h3⟩ => ⟨v, h1, ⟨_, h2, FIs.new c 20 _ _ (by decide), fun k hk => setF_old _ _ _ _ k hk, h3⟩, fun h => by cases h⟩
        · have hc : numC lo hi ws[i].2 = 0 := by simp [numC, hN, hB]
          rw [e, hc, if_pos rfl]
          refine (num_ok rb g ws.length cap i en 0 c lo hi w hR hF hn hi' _ _ hlt hW.lt (hW.s i hlt) (hW.a i hlt) w2 w3 (by rw [hd]; exact hN) (by rw [hd, hv]; exact hB)).mono fun _ _ ⟨h1, h2, h3⟩ => ⟨_, h1, ⟨_, h2, hF, fun _ _ => rfl, h3⟩, fun _ x hx => ?_⟩
          rw [List.getElem?_eq_getElem hlt] at hx
          cases hx
          rw [hd, numV, if_pos hN]
          obtain ⟨b1, b2⟩ := inB_iff hB
          omega
    · have e : numF ws i lo hi en = some (60, en, []) := by rw [numF, List.getElem?_eq_none hge]
      rw [e]
      exact (num_short rb g ws.length cap i en 0 c _ _ w hR hF hn hi' hge).mono fun _ _ ⟨h1, h2, h3⟩ => ⟨_, h1, ⟨_, h2, FIs.new c 60 en [] (by decide), fun k hk => setF_old _ _ _ _ k hk, h3⟩, fun h => by cases h⟩

end Go.Proofs.YtgabnjiapkkjaaaGreatDoor.Tb
