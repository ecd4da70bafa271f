/- A list folded in its place (foldList): read off the program by the walk. Conditions: the list lies at the head of a block; its operations are a program's. -/
import Derived.Test.YtddcndlogoajkaaDoorFc
import Derived.Great.Walk
import Derived.Deep.MidRow
import Derived.Deep.DeepCutAuto
namespace Go.Proofs.YtddcndlogoajkaaDoor.L8.Bt
open Go.ChangeShapes Go.WideShapes Go.ChangeAt Go.RowKit Go.Great
open _root_.Go.Proofs.YtddcndlogoajkaaDoor.L8.Op _root_.Go.Proofs.YtddcndlogoajkaaDoor.L8.So
open _root_.Go.Proofs.YtddcndlogoajkaaDoor.L8.Lv (rdL wOf PsOk)
set_option maxRecDepth 20000

/-- What is known, as cells. -/
def fF (K : Kn) (j : Nat) : Value := if j % 2 = 0 then .bool (K (j / 2)).isSome else .int .i64 ((K (j / 2)).getD 0)
def fA (K : Kn) : Array Value := ((List.range 64).map (fF K)).toArray
theorem fA_get (K : Kn) (j : Nat) (h : j < 64) : (fA K)[j]? = some (fF K j) := by
  unfold fA
  rw [List.getElem?_toArray, List.getElem?_map, List.getElem?_range h]; rfl
theorem fA_len (K : Kn) : (fA K).toList.length = 64 := by simp [fA]
theorem fA_one (K : Kn) : (fA K).all (·.oneCell') = true := by
  unfold fA
  rw [List.all_toArray, List.all_map, List.all_eq_true]
  intro j _
  show (fF K j).oneCell' = true
  unfold fF
  split <;> rfl
theorem fk_range {w : World} {q : Nat} {K : Kn} (h : Fk w q K) : w.rangeAt q 0 (fA K).toList := fun j v hv => by
  have hj : j < 64 := by
    have := (List.getElem?_eq_some_iff.1 hv).1
    rw [fA_len] at this; exact this
  rw [Array.getElem?_toList, fA_get K j hj] at hv
  cases hv
  rw [Nat.zero_add]
  unfold fF
  split
  · have := h.b (j / 2) (by omega)
    rw [show j / 2 * 2 = j by omega] at this
    exact this
  · have := h.n (j / 2) (by omega)
    rw [show j / 2 * 2 + 1 = j by omega] at this
    exact this
theorem info56 : (Tryd.prog.info? 56).map (·.size) = some 64 := by kernel_rfl
/-- The list under way: its first k are folded. -/
def mixL (xs : List O) (k : Nat) : List O := fdL kn0 (xs.take k) ++ xs.drop k
theorem mixL_at (xs : List O) (k : Nat) (hk : k < xs.length) : (mixL xs k)[k]? = some xs[k] := by
  unfold mixL
  rw [List.getElem?_append_right (by rw [fdL_len, List.length_take]; omega), fdL_len, List.length_take, show k - min k xs.length = 0 by omega, List.getElem?_drop]
  simp [List.getElem?_eq_getElem hk]
theorem mixL_next (xs : List O) (k : Nat) (hk : k < xs.length) : mixL xs (k + 1) = (mixL xs k).set k (fdO (fdK kn0 (xs.take k)) xs[k]) := by
  unfold mixL
  rw [fdL_take kn0 xs k hk, List.drop_eq_getElem_cons hk]
  have hl : (fdL kn0 (xs.take k)).length = k := by rw [fdL_len, List.length_take]; omega
  rw [List.append_assoc, List.set_append_right _ _ (by omega)]
  rw [hl, Nat.sub_self]
  rfl
theorem mixL_end (xs : List O) : mixL xs xs.length = fdL kn0 xs := by simp [mixL]
/-- One operation is stored. -/
theorem Ol.put {w : World} {b : Nat} {xs : List O} (h : Ol w b xs) (k : Nat) (o : O) : Ol (((((w.setCell ⟨b, k * 5, none⟩ (.int .i8 o.op)).setCell ⟨b, k * 5 + 1, none⟩ (.int .u8 o.d)).setCell ⟨b, k * 5 + 2, none⟩ (.int .u8 o.a)).setCell ⟨b, k * 5 + 3, none⟩ (.int .u8 o.b)).setCell ⟨b, k * 5 + 4, none⟩ (.int .i64 o.im)) b (xs.set k o) := by
  refine ⟨by simpa using h.lt, fun j => by simp only [World.frozen?_setCell]; exact h.fz j, fun i hi => ?_⟩
  have hi' : i < xs.length := by simpa using hi
  obtain ⟨c0, c1, c2, c3, c4⟩ := h.c i hi'
  by_cases e : k = i
  · subst e
    rw [List.getElem_set_self]
    exact ⟨(co (by omega)).trans ((co (by omega)).trans ((co (by omega)).trans ((co (by omega)).trans (cs c0)))), (co (by omega)).trans ((co (by omega)).trans ((co (by omega)).trans (cs ((co (by omega)).trans c1)))), (co (by omega)).trans ((co (by omega)).trans (cs ((co (by omega)).trans ((co (by omega)).trans c2)))), (co (by omega)).trans (cs ((co (by omega)).trans ((co (by omega)).trans ((co (by omega)).trans c3)))), cs ((co (by omega)).trans ((co (by omega)).trans ((co (by omega)).trans ((co (by omega)).trans c4))))⟩
  · rw [List.getElem_set_ne e]
    have k5 : ∀ j u, j < 5 → w.cell? ⟨b, i * 5 + j, none⟩ = some u → (((((w.setCell ⟨b, k * 5, none⟩ (.int .i8 o.op)).setCell ⟨b, k * 5 + 1, none⟩ (.int .u8 o.d)).setCell ⟨b, k * 5 + 2, none⟩ (.int .u8 o.a)).setCell ⟨b, k * 5 + 3, none⟩ (.int .u8 o.b)).setCell ⟨b, k * 5 + 4, none⟩ (.int .i64 o.im)).cell? ⟨b, i * 5 + j, none⟩ = some u := fun j u hj hc => by
      rw [co (by omega), co (by omega), co (by omega), co (by omega), co (by omega)]; exact hc
    exact ⟨k5 0 _ (by omega) c0, k5 1 _ (by omega) c1, k5 2 _ (by omega) c2, k5 3 _ (by omega) c3, k5 4 _ (by omega) c4⟩
theorem fr_set5 {X : Nat → Prop} {w w' : World} (h : Fr X w w') {b j : Nat} (hb : w.heap.size ≤ b ∨ X b) (v0 v1 v2 v3 v4 : Value) : Fr X w (((((w'.setCell ⟨b, j, none⟩ v0).setCell ⟨b, j + 1, none⟩ v1).setCell ⟨b, j + 2, none⟩ v2).setCell ⟨b, j + 3, none⟩ v3).setCell ⟨b, j + 4, none⟩ v4) :=
  ((((h.setCell hb _ _).setCell hb _ _).setCell hb _ _).setCell hb _ _).setCell hb _ _
theorem regs_small {o : O} (hp : okP o = true) : o.a < 32 ∧ o.b < 32 := by
  have h := hp
  unfold okP at h
  simp only [Bool.and_eq_true, decide_eq_true_eq] at h
  have h2 := h.2
  cases hk : kOf o.op with
  | none => rw [okO_none hk] at h2; cases h2
  | some k =>
    rw [okO_some hk] at h2
    simp only [okF, Bool.and_eq_true] at h2
    have ra : ∀ (r : Int) (c : Bool), rH r c = true → r < 32 := fun r c h => by
      unfold rH at h
      split at h
      · exact of_decide_eq_true h
      · have : r = 0 := by simpa using h
        omega
    exact ⟨ra _ _ h2.1.1.2, ra _ _ h2.1.2⟩
theorem fr_setCells {X : Nat → Prop} {b : Nat} (hb : X b) : ∀ (vs : List Value) (o : Nat) {w0 w : World}, Fr X w0 w → Fr X w0 (w.setCells b o vs)
  | [], _, _, _, h => h
  | v :: r, o, _, _, h => fr_setCells hb r (o + 1) (h.setCell (.inr hb) o v)

theorem below_al {w : World} (o : Obj) : Below w.heap.size w (w.alloc o) := (Below.refl _ _).alloc (Nat.le_refl _) _
/-- The fold under way: z is where memory ended at the call. -/
structure Fs (w wr : World) (b : Nat) (xs : List O) (k : Nat) : Prop where
  o : Ol wr b (mixL xs k)
  k : Fk wr (w.heap.size + 1) (fdK kn0 (xs.take k))
  r : ∀ j : Nat, j < 64 → (wr.cell? ⟨w.heap.size, j, none⟩).isSome = true ∧ wr.frozen? ⟨w.heap.size, j, none⟩ = false
  s : w.heap.size + 2 ≤ wr.heap.size
  f : Fr (One b) w wr
theorem Fs.next {w wr w' : World} {b : Nat} {xs : List O} {k : Nat} (h : Fs w wr b xs k) (hb : Below wr.heap.size wr w') : Fs w w' b xs k :=
  ⟨h.o.below hb, h.k.below hb, fun j hj => by have hs := h.s; rw [(bcell hb).1 _ _ (by omega), (bcell hb).2 _ _ (by omega)]; exact h.r j hj, Nat.le_trans h.s hb.size, h.f.then hb⟩
end Go.Proofs.YtddcndlogoajkaaDoor.L8.Bt
