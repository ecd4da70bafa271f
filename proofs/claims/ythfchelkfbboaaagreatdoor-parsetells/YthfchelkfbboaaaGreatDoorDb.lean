/- The document's reader: what reg and num answer of a line's word: read off the program by the walk. Conditions: the reader and the line lie in memory. -/
import Derived.Test.YthfchelkfbboaaaGreatDoorDa
import Derived.Test.YthfchelkfbboaaaGreatDoorDg
namespace Go.Proofs.YthfchelkfbboaaaGreatDoor.Pr
open Go.ChangeShapes Go.WideShapes Go.ChangeAt Go.RowKit
open _root_.Go.Proofs.YthfchelkfbboaaaGreatDoor.Op
set_option maxRecDepth 20000

/-- A line's word as a number, as a register. -/
def numAt (l : Ln) (i : Nat) : R Int := (wordR l i).bind fun x => if (numD x.2 (-2147483648) 2147483647).2 then .ok (numD x.2 (-2147483648) 2147483647).1 else .no x
def regAt (l : Ln) (i : Nat) : R Int := (wordR l i).bind fun x => if (regD' x.2).2 then .ok (regD' x.2).1 else .no x
def ShortW (l : Ln) : Prop := ∀ x ∈ l.ws, x.2.length ≤ 65536
/-- The word that is asked for. -/
structure Nq (w V : World) (r : Nat) (lv : Value) (nx m : Nat) (fl : Option Wd') (x : Value) (nb : Nat) : Prop where
  d : Dr V r lv nx m fl
  b : At V nb #[x]
  f : Fr (One r) w V
abbrev WorC (r i : Nat) (p : Pw) (l : Ln) (lv : Value) (nx m : Nat) (res : R Wd') (w : World) : Prop :=
  Calls Tryz.prog 28 #[.pointer (some ⟨r, 0, none⟩), lnV p l, .int .i64 i] (w.alloc (.cells #[.slice p.1 l.ws.length p.2, .int .i64 (l.en : Int)] 45)) fun e w' => e = .returned (.tuple #[wordV res, .bool (isOk res)]) ∧ Dr w' r lv nx m (stF res) ∧ Fr (One r) (w.alloc (.cells #[.slice p.1 l.ws.length p.2, .int .i64 (l.en : Int)] 45)) w'
theorem DW.up {V V' : World} {r : Nat} {p : Pw} {ws : List Wd'} (h : DW V r p ws) (hb : Below V.heap.size V V') (hr : r < V.heap.size) : DW V' r p ws := h.fr (Fr.of hb) hr
theorem wor_here {r i : Nat} {p : Pw} {l : Ln} {lv : Value} {nx m : Nat} {fl : Option Wd'} {w : World} (h : Dr w r lv nx m fl) (hw : DW w r p l.ws) : WorC r i p l lv nx m (guardR fl (wordR l i)) w :=
  dword_any r i p l lv nx m fl _ (h.below ((Below.refl _ _).alloc (Nat.le_refl _) _)) (hw.up ((Below.refl _ _).alloc (Nat.le_refl _) _) h.lt)

set_option maxHeartbeats 1000000 in
theorem dnum_any (r i : Nat) (p : Pw) (l : Ln) (lv : Value) (nx m : Nat) (fl : Option Wd') (w : World) (h : Dr w r lv nx m fl) (hw : DW w r p l.ws) (hsh : ShortW l) :
    Calls Tryz.prog 32 #[.pointer (some ⟨r, 0, none⟩), lnV p l, .int .i64 i] w fun e w' => ∃ v : Int, e = .returned (.int .i64 v) ∧ (∀ v0, guardR fl (numAt l i) = .ok v0 → v = v0) ∧ Dr w' r lv nx m (stF (guardR fl (numAt l i))) ∧ Fr (One r) w w' := by
  have HW : Hid (WorC r i p l lv nx m (guardR fl (wordR l i)) w) := wor_here h hw
  have hr := h.lt
  have HQ : Hid (Fr (One r) w (w.alloc (.cells #[.slice p.1 l.ws.length p.2, .int .i64 (l.en : Int)] 45))) := Fr.of (by go_grown)
  have hF : ∀ (x : Wd') W, Dr W r lv nx m none → Calls Tryz.prog 26 #[.pointer (some ⟨r, 0, none⟩), .int .i64 (x.1 : Int), .string ⟨x.2.toArray⟩] W fun e w' => e = .returned (.tuple #[]) ∧ Dr w' r lv nx m (some x) ∧ Fr (One r) W w' := fun x W h => dfail_any r x.1 x.2 lv nx m none W h
  have hres : guardR fl (numAt l i) = (guardR fl (wordR l i)).bind fun x => if (numD x.2 (-2147483648) 2147483647).2 then .ok (numD x.2 (-2147483648) 2147483647).1 else .no x := by cases fl <;> rfl
  have hsw : ∀ x, guardR fl (wordR l i) = .ok x → x.2.length ≤ 65536 := fun x hx => by
    cases fl with
    | some f => cases hx
    | none =>
      simp only [guardR, wordR] at hx
      split at hx
      · cases hx; exact hsh _ (List.getElem_mem _)
      · cases hx
  rw [hres]
  clear hres h hw hsh
  generalize guardR fl (wordR l i) = res at *
  cases res with
  | no f =>
    simp only [WorC, wordV, isOk, stF] at HW
    simp only [R.bind, stF]
    clear hsw hF
    go_enter Tryz.func32, Tryz.ntmps32
    go_wp2_with (first | (go_at_call 28; refine Calls.mono HW.out ?_; rintro e w1 ⟨rfl, hd, hf⟩; have HX : Hid (Dr w1 r lv nx m (some f) ∧ Fr (One r) w w1) := ⟨hd, HQ.out.same hf⟩; clear hd hf HW HQ))
    go_ret
    exact ⟨0, rfl, fun v0 h => (by cases h), HX.out.1.below ((Below.refl _ _).alloc (Nat.le_refl _) _), HX.out.2.alloc _⟩
  | ok x =>
    have hx := hsw x rfl
    simp only [WorC, wordV, isOk, stF] at HW
    have HN : Hid (∀ W, Calls Tryz.prog 52 #[.string ⟨x.2.toArray⟩, .int .i64 (-2147483648), .int .i64 2147483647] W fun e w' => e = .returned (.tuple #[.int .i64 (numD x.2 (-2147483648) 2147483647).1, .bool (numD x.2 (-2147483648) 2147483647).2]) ∧ w' = W) := fun W => number_doc ⟨x.2.toArray⟩ _ _ W (by rw [size_list]; exact hx)
    have HF : Hid _ := hF x
    clear hsw hx hF
    simp only [R.bind]
    generalize numD x.2 (-2147483648) 2147483647 = V at *
    obtain ⟨v, b⟩ := V
    simp only at HN ⊢
    cases b with
    | true =>
      simp only [if_true, stF]
      go_enter Tryz.func32, Tryz.ntmps32
      go_wp2_with (first
        | (go_at_call 28; refine Calls.mono HW.out ?_; rintro e w1 ⟨rfl, hd, hf⟩; have HX : Hid (Dr w1 r lv nx m none ∧ Fr (One r) w w1) := ⟨hd, HQ.out.same hf⟩; clear hd hf HW HQ)
        | (go_at_call 52; refine Calls.mono (HN.out _) ?_; rintro e w2 ⟨rfl, hw⟩; subst w2))
      go_ret
      exact ⟨v, rfl, fun v0 h => (by cases h; rfl), HX.out.1.below ((Below.refl _ _).alloc (Nat.le_refl _) _), HX.out.2.alloc _⟩
    | false =>
      simp only [Bool.false_eq_true, if_false, stF]
      go_enter Tryz.func32, Tryz.ntmps32
      go_wp2_with (first
        | (go_at_call 28; refine Calls.mono HW.out ?_; rintro e w1 ⟨rfl, hd, hf⟩; have HX : Hid (Dr (w1.alloc (.cells #[.string ⟨x.2.toArray⟩, .int .i64 (x.1 : Int)] 47)) r lv nx m none ∧ Fr (One r) w (w1.alloc (.cells #[.string ⟨x.2.toArray⟩, .int .i64 (x.1 : Int)] 47))) := ⟨hd.below ((Below.refl _ _).alloc (Nat.le_refl _) _), (HQ.out.same hf).alloc _⟩; clear hd hf HW HQ)
        | (go_at_call 52; refine Calls.mono (HN.out _) ?_; rintro e w2 ⟨rfl, hw⟩; subst w2)
        | (go_at_call 26; refine Calls.mono (HF.out _ HX.out.1) ?_; rintro e w2 ⟨rfl, hd, hf⟩; have HY : Hid (Dr w2 r lv nx m (some x) ∧ Fr (One r) w w2) := ⟨hd, HX.out.2.same hf⟩; clear hd hf HX))
      go_ret
      exact ⟨v, rfl, fun v0 h => (by cases h), HY.out.1, HY.out.2⟩
set_option maxHeartbeats 1000000 in
theorem dreg_any (r i : Nat) (p : Pw) (l : Ln) (lv : Value) (nx m : Nat) (fl : Option Wd') (w : World) (h : Dr w r lv nx m fl) (hw : DW w r p l.ws) (hsh : ShortW l) :
    Calls Tryz.prog 33 #[.pointer (some ⟨r, 0, none⟩), lnV p l, .int .i64 i] w fun e w' => ∃ v : Int, e = .returned (.int .u8 v) ∧ (∀ v0, guardR fl (regAt l i) = .ok v0 → v = v0) ∧ Dr w' r lv nx m (stF (guardR fl (regAt l i))) ∧ Fr (One r) w w' := by
  have HW : Hid (WorC r i p l lv nx m (guardR fl (wordR l i)) w) := wor_here h hw
  have hr := h.lt
  have HQ : Hid (Fr (One r) w (w.alloc (.cells #[.slice p.1 l.ws.length p.2, .int .i64 (l.en : Int)] 45))) := Fr.of (by go_grown)
  have hF : ∀ (x : Wd') W, Dr W r lv nx m none → Calls Tryz.prog 26 #[.pointer (some ⟨r, 0, none⟩), .int .i64 (x.1 : Int), .string ⟨x.2.toArray⟩] W fun e w' => e = .returned (.tuple #[]) ∧ Dr w' r lv nx m (some x) ∧ Fr (One r) W w' := fun x W h => dfail_any r x.1 x.2 lv nx m none W h
  have hres : guardR fl (regAt l i) = (guardR fl (wordR l i)).bind fun x => if (regD' x.2).2 then .ok (regD' x.2).1 else .no x := by cases fl <;> rfl
  have hsw : ∀ x, guardR fl (wordR l i) = .ok x → x.2.length ≤ 65536 := fun x hx => by
    cases fl with
    | some f => cases hx
    | none =>
      simp only [guardR, wordR] at hx
      split at hx
      · cases hx; exact hsh _ (List.getElem_mem _)
      · cases hx
  rw [hres]
  clear hres h hw hsh
  generalize guardR fl (wordR l i) = res at *
  cases res with
  | no f =>
    simp only [WorC, wordV, isOk, stF] at HW
    simp only [R.bind, stF]
    clear hsw hF
    go_enter Tryz.func33, Tryz.ntmps33
    go_wp2_with (first | (go_at_call 28; refine Calls.mono HW.out ?_; rintro e w1 ⟨rfl, hd, hf⟩; have HX : Hid (Dr w1 r lv nx m (some f) ∧ Fr (One r) w w1) := ⟨hd, HQ.out.same hf⟩; clear hd hf HW HQ))
    go_ret
    exact ⟨0, rfl, fun v0 h => (by cases h), HX.out.1.below ((Below.refl _ _).alloc (Nat.le_refl _) _), HX.out.2.alloc _⟩
  | ok x =>
    have hx := hsw x rfl
    simp only [WorC, wordV, isOk, stF] at HW
    have HN : Hid (∀ W, Calls Tryz.prog 53 #[.string ⟨x.2.toArray⟩] W fun e w' => e = .returned (.tuple #[.int .u8 (regD' x.2).1, .bool (regD' x.2).2]) ∧ w' = W) := fun W => register_doc ⟨x.2.toArray⟩ W (by rw [size_list]; exact hx)
    have HF : Hid _ := hF x
    clear hsw hx hF
    simp only [R.bind]
    generalize regD' x.2 = V at *
    obtain ⟨v, b⟩ := V
    simp only at HN ⊢
    cases b with
    | true =>
      simp only [if_true, stF]
      go_enter Tryz.func33, Tryz.ntmps33
      go_wp2_with (first
        | (go_at_call 28; refine Calls.mono HW.out ?_; rintro e w1 ⟨rfl, hd, hf⟩; have HX : Hid (Dr w1 r lv nx m none ∧ Fr (One r) w w1) := ⟨hd, HQ.out.same hf⟩; clear hd hf HW HQ)
        | (go_at_call 53; refine Calls.mono (HN.out _) ?_; rintro e w2 ⟨rfl, hw⟩; subst w2))
      go_ret
      exact ⟨v, rfl, fun v0 h => (by cases h; rfl), HX.out.1.below ((Below.refl _ _).alloc (Nat.le_refl _) _), HX.out.2.alloc _⟩
    | false =>
      simp only [Bool.false_eq_true, if_false, stF]
      go_enter Tryz.func33, Tryz.ntmps33
      go_wp2_with (first
        | (go_at_call 28; refine Calls.mono HW.out ?_; rintro e w1 ⟨rfl, hd, hf⟩; have HX : Hid (Dr (w1.alloc (.cells #[.string ⟨x.2.toArray⟩, .int .i64 (x.1 : Int)] 47)) r lv nx m none ∧ Fr (One r) w (w1.alloc (.cells #[.string ⟨x.2.toArray⟩, .int .i64 (x.1 : Int)] 47))) := ⟨hd.below ((Below.refl _ _).alloc (Nat.le_refl _) _), (HQ.out.same hf).alloc _⟩; clear hd hf HW HQ)
        | (go_at_call 53; refine Calls.mono (HN.out _) ?_; rintro e w2 ⟨rfl, hw⟩; subst w2)
        | (go_at_call 26; refine Calls.mono (HF.out _ HX.out.1) ?_; rintro e w2 ⟨rfl, hd, hf⟩; have HY : Hid (Dr w2 r lv nx m (some x) ∧ Fr (One r) w w2) := ⟨hd, HX.out.2.same hf⟩; clear hd hf HX))
      go_ret
      exact ⟨v, rfl, fun v0 h => (by cases h), HY.out.1, HY.out.2⟩
end Go.Proofs.YthfchelkfbboaaaGreatDoor.Pr
