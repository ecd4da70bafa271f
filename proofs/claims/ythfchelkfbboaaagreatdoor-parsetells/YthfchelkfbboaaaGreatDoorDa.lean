/- The document's reader: its state in memory, and what fail, have, word and end answer: read off the program by the walk. Conditions: the reader and the line lie in memory. -/
import Derived.Test.YthfchelkfbboaaaGreatDoorLd
import Derived.Deep.QuietTactic
import Derived.BigQuiet
namespace Go.Proofs.YthfchelkfbboaaaGreatDoor.Pr
open Go.ChangeShapes Go.WideShapes Go.ChangeAt Go.RowKit
open _root_.Go.Proofs.YthfchelkfbboaaaGreatDoor.Op
set_option maxRecDepth 20000

/-- The reader; 'fl': the fault that it keeps. -/
structure Dr (V : World) (r : Nat) (lv : Value) (nx m : Nat) (fl : Option Wd') : Prop where
  a : At V r #[lv, .int .i64 nx, .int .i64 m, .int .i64 (match fl with | none => 0 | some _ => 60), .int .i64 (match fl with | none => 0 | some f => (f.1 : Int)), .string (match fl with | none => ⟨#[]⟩ | some f => ⟨f.2.toArray⟩)]
theorem Dr.below {V V' : World} {r : Nat} {lv : Value} {nx m : Nat} {fl : Option Wd'} (h : Dr V r lv nx m fl) (hb : Below V.heap.size V V') : Dr V' r lv nx m fl := ⟨h.a.below hb h.a.lt⟩
theorem Dr.lt {V : World} {r : Nat} {lv : Value} {nx m : Nat} {fl : Option Wd'} (h : Dr V r lv nx m fl) : r < V.heap.size := h.a.lt
/-- A line's words in memory, in blocks ahead of the reader's. -/
structure DW (V : World) (r : Nat) (p : Pw) (ws : List Wd') : Prop where
  len : ws.length ≤ 100000
  is : ∀ j (h : j < ws.length), ∃ b, p.1 = some ⟨b, 0, none⟩ ∧ b < r ∧ V.cell? ⟨b, j * 2, none⟩ = some (.string ⟨ws[j].2.toArray⟩) ∧ V.cell? ⟨b, j * 2 + 1, none⟩ = some (.int .i64 (ws[j].1 : Int))
theorem DW.fr {V V' : World} {r : Nat} {p : Pw} {ws : List Wd'} (h : DW V r p ws) (g : Fr (One r) V V') (hr : r < V.heap.size) : DW V' r p ws := by
  refine ⟨h.len, fun j hj => ?_⟩
  obtain ⟨b, e, z, h1, h2⟩ := h.is j hj
  have hx : ¬ One r b := by show ¬ _ = _; omega
  exact ⟨b, e, z, by rw [g.cell (by omega) hx]; exact h1, by rw [g.cell (by omega) hx]; exact h2⟩
abbrev lnV (p : Pw) (l : Ln) : Value := .agg #[.slice p.1 l.ws.length p.2, .int .i64 (l.en : Int)]

set_option maxHeartbeats 1000000 in
theorem dfail_any (r at0 : Nat) (s : List UInt8) (lv : Value) (nx m : Nat) (fl : Option Wd') (w : World) (h : Dr w r lv nx m fl) :
    Calls Tryz.prog 26 #[.pointer (some ⟨r, 0, none⟩), .int .i64 at0, .string ⟨s.toArray⟩] w fun e w' => e = .returned (.tuple #[]) ∧ Dr w' r lv nx m (some (fl.getD (at0, s))) ∧ Fr (One r) w w' := by
  have c3 := h.a.c 3 _ rfl
  have c4 := h.a.c 4 _ rfl
  have c5 := h.a.c 5 _ rfl
  have f := h.a.f
  cases fl with
  | none =>
    have HA : Hid _ := h.a
    simp only at c3 c4 c5
    clear h
    go_enter Tryz.func26, Tryz.ntmps26
    go_wp2
    go_end0
    refine ⟨rfl, ⟨?_⟩, (((Fr.refl (One r) w).setCell (.inr rfl) _ _).setCell (.inr rfl) _ _).setCell (.inr rfl) _ _⟩
    exact at_set (at_set (at_set HA.out (j := 3) (by simp) _) (j := 4) (by simp) _) (j := 5) (by simp) _
  | some g =>
    have HA : Hid _ := h
    simp only at c3 c4 c5
    clear h
    go_enter Tryz.func26, Tryz.ntmps26
    go_wp2
    go_end0
    exact ⟨rfl, HA.out, Fr.refl _ _⟩

/-- have: is there a line? -/
def haveR (L nx m : Nat) : R Unit := if nx < L then .ok () else .no (m, [])
def stF {α : Type} : R α → Option Wd' | .ok _ => none | .no f => some f
/-- Nothing is done behind a fault. -/
def guardR {α : Type} (fl : Option Wd') (x : R α) : R α := match fl with | none => x | some f => .no f
def isOk {α : Type} : R α → Bool | .ok _ => true | .no _ => false
theorem Dr.drew {V : World} {r : Nat} {lv : Value} {nx m : Nat} {fl : Option Wd'} (h : Dr V r lv nx m fl) (n : Nat) : Dr (V.drewN n) r lv nx m fl := h.below (drewN_below (Below.refl _ _) n)
theorem fr_drew {X : Nat → Prop} {w w' : World} (h : Fr X w w') (n : Nat) : Fr X w (w'.drewN n) := h.then (drewN_below (Below.refl _ _) n)

set_option maxHeartbeats 1000000 in
theorem dhave_any (r : Nat) (la : Option Addr) (L lc nx m : Nat) (fl : Option Wd') (w : World) (h : Dr w r (.slice la L lc) nx m fl) :
    Calls Tryz.prog 14 #[.pointer (some ⟨r, 0, none⟩)] w fun e w' => e = .returned (.bool (isOk (guardR fl (haveR L nx m)))) ∧ Dr w' r (.slice la L lc) nx m (stF (guardR fl (haveR L nx m))) ∧ Fr (One r) w w' := by
  have c0 := h.a.c 0 _ rfl
  have c1 := h.a.c 1 _ rfl
  have c2 := h.a.c 2 _ rfl
  have c3 := h.a.c 3 _ rfl
  cases fl with
  | none =>
    simp only at c3
    have HA : Hid _ := h
    have HF : Hid (∀ W, Dr W r (.slice la L lc) nx m none → Calls Tryz.prog 26 #[.pointer (some ⟨r, 0, none⟩), .int .i64 m, .string ⟨#[]⟩] W fun e w' => e = .returned (.tuple #[]) ∧ Dr w' r (.slice la L lc) nx m (some (m, [])) ∧ Fr (One r) W w') := fun W h => dfail_any r m [] _ nx m none W h
    clear h
    unfold haveR
    by_cases hlt : nx < L
    · rw [if_pos hlt]
      go_enter Tryz.func14, Tryz.ntmps14
      go_wp2
      go_quiet (fail)
      go_wp2
      go_ret
      exact ⟨rfl, HA.out.drew nq, fr_drew (Fr.refl _ _) nq⟩
    · rw [if_neg hlt]
      go_enter Tryz.func14, Tryz.ntmps14
      go_wp2
      go_quiet (fail)
      go_wp2_with (first | (go_at_call 26; refine Calls.mono (HF.out _ (HA.out.drew nq)) ?_; rintro e w2 ⟨rfl, hd, hf⟩; have HX : Hid (Dr w2 r (.slice la L lc) nx m (some (m, [])) ∧ Fr (One r) w w2) := ⟨hd, (fr_drew (Fr.refl _ _) nq).same hf⟩; clear hd hf))
      go_ret
      exact ⟨rfl, HX.out.1, HX.out.2⟩
  | some g =>
    simp only at c3
    have HA : Hid _ := h
    clear h
    go_enter Tryz.func14, Tryz.ntmps14
    go_wp2
    go_ret
    exact ⟨rfl, HA.out, Fr.refl _ _⟩

/-- A line's word. -/
def wordR (l : Ln) (i : Nat) : R Wd' := if h : i < l.ws.length then .ok l.ws[i] else .no (l.en, [])
def wordV : R Wd' → Value | .ok x => .agg #[.string ⟨x.2.toArray⟩, .int .i64 (x.1 : Int)] | .no _ => .agg #[.string ⟨#[]⟩, .int .i64 0]
theorem Dr.fr {V V' : World} {r q : Nat} {lv : Value} {nx m : Nat} {fl : Option Wd'} (h : Dr V r lv nx m fl) (g : Fr (One q) V V') (hq : r ≠ q) : Dr V' r lv nx m fl := ⟨at_fr h.a g (by show ¬ _ = _; exact hq)⟩
/-- A box of a line and a box of an answer. -/
structure Wq (w V : World) (r : Nat) (lv : Value) (nx m : Nat) (fl : Option Wd') (u v : Array Value) : Prop where
  d : Dr V r lv nx m fl
  b : At V w.heap.size u
  c : At V (w.heap.size + 1) v
  f : Fr (One r) w V
set_option maxHeartbeats 1000000 in
theorem dword_any (r i : Nat) (p : Pw) (l : Ln) (lv : Value) (nx m : Nat) (fl : Option Wd') (w : World) (h : Dr w r lv nx m fl) (hw : DW w r p l.ws) :
    Calls Tryz.prog 28 #[.pointer (some ⟨r, 0, none⟩), lnV p l, .int .i64 i] w fun e w' => e = .returned (.tuple #[wordV (guardR fl (wordR l i)), .bool (isOk (guardR fl (wordR l i)))]) ∧ Dr w' r lv nx m (stF (guardR fl (wordR l i))) ∧ Fr (One r) w w' := by
  have hr := h.lt
  have c3 := h.a.c 3 _ rfl
  have b0 : Below w.heap.size w ((w.alloc (.cells #[.slice p.1 l.ws.length p.2, .int .i64 (l.en : Int)] 45)).alloc (.cells #[.string ⟨#[]⟩, .int .i64 0] 47)) := by go_grown
  have a1 := (At.new w #[.slice p.1 l.ws.length p.2, .int .i64 (l.en : Int)] 45).alloc (.cells #[.string ⟨#[]⟩, .int .i64 0] 47)
  have a2 := At.new (w.alloc (.cells #[.slice p.1 l.ws.length p.2, .int .i64 (l.en : Int)] 45)) #[.string ⟨#[]⟩, .int .i64 0] 47
  rw [World.size_alloc] at a2
  have HA : Hid (Wq w _ r lv nx m fl _ _) := ⟨h.below b0, a1, a2, Fr.of b0⟩
  have HD : Hid _ := h
  cases fl with
  | none =>
    simp only at c3
    have HF : Hid (∀ W, Dr W r lv nx m none → Calls Tryz.prog 26 #[.pointer (some ⟨r, 0, none⟩), .int .i64 (l.en : Int), .string ⟨#[]⟩] W fun e w' => e = .returned (.tuple #[]) ∧ Dr w' r lv nx m (some (l.en, [])) ∧ Fr (One r) W w') := fun W h => dfail_any r l.en [] lv nx m none W h
    have hlen := hw.len
    by_cases hlt : i < l.ws.length
    · have e1 : guardR none (wordR l i) = .ok l.ws[i] := by simp only [guardR, wordR]; rw [dif_pos hlt]
      rw [e1]
      obtain ⟨b, e, hb, d0, d1⟩ := hw.is i hlt
      obtain ⟨pa, pc⟩ := p
      simp only at e
      subst e
      simp only [wordV, isOk, stF]
      have hbw : b < w.heap.size := by omega
      clear h hw b0 a1 a2 e1 HF
      generalize l.ws[i] = x at *
      go_enter Tryz.func28, Tryz.ntmps28
      go_wp2
      go_returns
      exact ⟨rfl, HD.out.below (by go_grown), Fr.of (by go_grown)⟩
    · have e1 : guardR none (wordR l i) = .no (l.en, []) := by simp only [guardR, wordR]; rw [dif_neg hlt]
      rw [e1]
      simp only [wordV, isOk, stF]
      clear h hw b0 a1 a2 e1
      go_enter Tryz.func28, Tryz.ntmps28
      go_wp2_with (first | (go_at_call 26; refine Calls.mono (HF.out _ HA.out.d) ?_; rintro e w2 ⟨rfl, hd, hf⟩; have hc := at_fr HA.out.c hf (by show ¬ _ = _; omega); have HX : Hid (Dr w2 r lv nx m (some (l.en, [])) ∧ Fr (One r) w w2 ∧ At w2 (w.heap.size + 1) #[.string ⟨#[]⟩, .int .i64 0]) := ⟨hd, HA.out.f.same hf, hc⟩; have q0 := hc.c 0 _ rfl; have q1 := hc.c 1 _ rfl; have qf := hc.f; clear hd hf hc))
      have hx := HX.out
      have k0 := at_set (at_set hx.2.2 (j := 0) (by simp) (.string ⟨#[]⟩)) (j := 1) (by simp) (.int .i64 0)
      have q2 : ((w2.setCell ⟨w.heap.size + 1, 0, none⟩ (.string ⟨#[]⟩)).setCell ⟨w.heap.size + 1, 1, none⟩ (.int .i64 0)).cell? ⟨w.heap.size + 1, 0, none⟩ = some (.string ⟨#[]⟩) := k0.c 0 _ rfl
      have q3 : ((w2.setCell ⟨w.heap.size + 1, 0, none⟩ (.string ⟨#[]⟩)).setCell ⟨w.heap.size + 1, 1, none⟩ (.int .i64 0)).cell? ⟨w.heap.size + 1, 1, none⟩ = some (.int .i64 0) := k0.c 1 _ rfl
      have hg : Fr (One (w.heap.size + 1)) w2 ((w2.setCell ⟨w.heap.size + 1, 0, none⟩ (.string ⟨#[]⟩)).setCell ⟨w.heap.size + 1, 1, none⟩ (.int .i64 0)) := ((Fr.refl (One (w.heap.size + 1)) w2).setCell (.inr rfl) _ _).setCell (.inr rfl) _ _
      refine bodyPost_ret (v := .tuple #[.agg #[.string ⟨#[]⟩, .int .i64 0], .bool false]) (by simp [results, Tryz.results28, go_sem, q2, q3]) rfl ⟨rfl, hx.1.fr hg (by omega), hx.2.1.new hg (by omega)⟩
  | some g =>
    simp only at c3
    simp only [guardR, wordV, isOk, stF]
    clear h hw b0 a1 a2
    go_enter Tryz.func28, Tryz.ntmps28
    go_wp2
    go_returns
    exact ⟨rfl, HD.out.below (by go_grown), Fr.of (by go_grown)⟩

/-- No word more than these. -/
def endsR (l : Ln) (n : Nat) : R Unit := if h : n < l.ws.length then .no l.ws[n] else .ok ()
set_option maxHeartbeats 1000000 in
theorem dend_any (r n : Nat) (p : Pw) (l : Ln) (lv : Value) (nx m : Nat) (fl : Option Wd') (w : World) (h : Dr w r lv nx m fl) (hw : DW w r p l.ws) :
    Calls Tryz.prog 30 #[.pointer (some ⟨r, 0, none⟩), lnV p l, .int .i64 n] w fun e w' => e = .returned (.tuple #[]) ∧ Dr w' r lv nx m (stF (guardR fl (endsR l n))) ∧ Fr (One r) w w' := by
  have hr := h.lt
  have c3 := h.a.c 3 _ rfl
  have HD : Hid _ := h
  have hlen := hw.len
  cases fl with
  | none =>
    simp only at c3
    by_cases hlt : n < l.ws.length
    · have e1 : guardR none (endsR l n) = .no l.ws[n] := by simp only [guardR, endsR]; rw [dif_pos hlt]
      rw [e1]
      obtain ⟨b, e, hb, d0, d1⟩ := hw.is n hlt
      obtain ⟨pa, pc⟩ := p
      simp only at e
      subst e
      simp only [stF]
      have hbw : b < w.heap.size := by omega
      clear h hw e1
      generalize l.ws[n] = x at *
      have HF : Hid (∀ W, Dr W r lv nx m none → Calls Tryz.prog 26 #[.pointer (some ⟨r, 0, none⟩), .int .i64 (x.1 : Int), .string ⟨x.2.toArray⟩] W fun e w' => e = .returned (.tuple #[]) ∧ Dr w' r lv nx m (some x) ∧ Fr (One r) W w') := fun W h => dfail_any r x.1 x.2 lv nx m none W h
      go_enter Tryz.func30, Tryz.ntmps30
      go_wp2
      have HV : Hid (Dr (w.alloc (.cells #[.slice (some ⟨b, 0, none⟩) l.ws.length pc, .int .i64 (l.en : Int)] 45)) r lv nx m none ∧ Fr (One r) w (w.alloc (.cells #[.slice (some ⟨b, 0, none⟩) l.ws.length pc, .int .i64 (l.en : Int)] 45))) := ⟨HD.out.below (by go_grown), Fr.of (by go_grown)⟩
      have v0 := (At.new w #[.slice (some ⟨b, 0, none⟩) l.ws.length pc, .int .i64 (l.en : Int)] 45).c 0 _ rfl
      have v1 : (w.alloc (.cells #[.slice (some ⟨b, 0, none⟩) l.ws.length pc, .int .i64 (l.en : Int)] 45)).cell? ⟨b, n * 2, none⟩ = some (.string ⟨x.2.toArray⟩) := by rw [World.cell?_alloc_lt _ _ ⟨b, n * 2, none⟩ hbw]; exact d0
      have v2 : (w.alloc (.cells #[.slice (some ⟨b, 0, none⟩) l.ws.length pc, .int .i64 (l.en : Int)] 45)).cell? ⟨b, n * 2 + 1, none⟩ = some (.int .i64 (x.1 : Int)) := by rw [World.cell?_alloc_lt _ _ ⟨b, n * 2 + 1, none⟩ hbw]; exact d1
      generalize (w.alloc (.cells #[.slice (some ⟨b, 0, none⟩) l.ws.length pc, .int .i64 (l.en : Int)] 45)) = V at *
      clear c3 d0 d1
      go_region_with (first | (go_at_call 26; refine Calls.mono (HF.out _ (HV.out.1.below (Below.refl _ _).drew)) ?_; rintro e w2 ⟨rfl, hd, hf⟩; have HX : Hid (Dr w2 r lv nx m (some x) ∧ Fr (One r) w w2) := ⟨hd, (HV.out.2.then (Below.refl _ _).drew).same hf⟩; clear hd hf))
      all_goals (first | go_end0 | (go_wp2; go_end0))
      all_goals exact ⟨rfl, HX.out.1, HX.out.2⟩
    · have e1 : guardR none (endsR l n) = .ok () := by simp only [guardR, endsR]; rw [dif_neg hlt]
      rw [e1]
      clear h hw e1
      go_enter Tryz.func30, Tryz.ntmps30
      go_wp2
      go_end0
      exact ⟨rfl, HD.out.below (by go_grown), Fr.of (by go_grown)⟩
  | some g =>
    simp only at c3
    clear h hw
    go_enter Tryz.func30, Tryz.ntmps30
    go_wp2
    go_end0
    exact ⟨rfl, HD.out.below (by go_grown), Fr.of (by go_grown)⟩
end Go.Proofs.YthfchelkfbboaaaGreatDoor.Pr
