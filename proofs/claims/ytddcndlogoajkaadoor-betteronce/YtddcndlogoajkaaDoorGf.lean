/- A block folded in its place (turn, foldBlock): read off the program by the walk. Conditions: the program has lists of its own; the block is a program's. -/
import Derived.Test.YtddcndlogoajkaaDoorGe
import Derived.Deep.RegionHeld
import Derived.Deep.RegionHeld3
namespace Go.Proofs.YtddcndlogoajkaaDoor.L8.Bt
open Go.ChangeShapes Go.WideShapes Go.ChangeAt Go.RowKit Go.Great
open _root_.Go.Proofs.YtddcndlogoajkaaDoor.L8.Op _root_.Go.Proofs.YtddcndlogoajkaaDoor.L8.So
open _root_.Go.Proofs.YtddcndlogoajkaaDoor.L8.Lv (rdL wOf PsOk)
set_option maxRecDepth 20000

theorem turn_any (oa ba : Option Addr) (on oc bn bc : Nat) (f a t e v : Int) (w : World) :
    Calls Tryd.prog 22 #[.agg #[.slice oa on oc, .int .i8 f, .int .u8 a, .slice ba bn bc, .int .i64 t, .int .i64 e], .int .i64 v] w fun r w' => r = .returned (.int .i64 (if v = 0 then e else t)) ∧ Below w.heap.size w w' := by
  have hb : Below w.heap.size w (w.alloc (.cells #[.slice oa on oc, .int .i8 f, .int .u8 a, .slice ba bn bc, .int .i64 t, .int .i64 e] 36)) := below_al _
  have HB : Hid _ := hb
  clear hb
  by_cases h : v = 0
  · subst h
    simp only [if_true]
    go_enter Tryd.func22, Tryd.ntmps22
    go_wp2
    go_ret
    exact ⟨rfl, HB.out⟩
  · rw [if_neg h]
    have h' : (v == 0) = false := by simpa using h
    go_enter Tryd.func22, Tryd.ntmps22
    go_wp2
    go_ret
    exact ⟨rfl, HB.out⟩
/-- A block's cells and its lists while it is folded: os, bs as they stand; K: what is known at the end of Ops, in block q. -/
structure Fb (W W' : World) (g k : Nat) (x : Bk) (p : Pl) (os bs : List O) (X : Nat → Prop) : Prop where
  c : BAt W' g (k * 6) x p
  o : Oz W' p.oa os
  b : Oz W' p.ba bs
  f : Fr X W W'
  lt : g < W'.heap.size
  z : ∀ j : Nat, W'.frozen? ⟨g, j, none⟩ = false
theorem Fb.next {W W' W2 : World} {g k : Nat} {x : Bk} {p : Pl} {os bs : List O} {X : Nat → Prop} (h : Fb W W' g k x p os bs X) (hb : Below W'.heap.size W' W2) : Fb W W2 g k x p os bs X :=
  ⟨h.c.below hb h.lt, h.o.below hb, h.b.below hb, h.f.then hb, Nat.lt_of_lt_of_le h.lt hb.size, fun j => by rw [(bcell hb).2 _ _ h.lt]; exact h.z j⟩
theorem lk_len {a : Option Addr} {xs ys : List O} {j : Nat} (h : Lk a xs j) (e : ys.length = xs.length) : Lk a ys j := ⟨by rw [e]; exact h.1, h.2⟩
/-- One block of a program of lists of its own has turned. -/
theorem Pr.put {w w' : World} {z g : Nat} {own : Nat → Nat} {qs : List Bk} (h : Pr w z own g qs) {k : Nat} (_hk : k < qs.length) {X : Nat → Prop} (hF : Fr X w w') (hX : ∀ j, X j → j = g ∨ own j = 2 + 2 * k ∨ own j = 3 + 2 * k)
    (hc : ∀ j, (j < k * 6 ∨ k * 6 + 6 ≤ j) → w'.cell? ⟨g, j, none⟩ = w.cell? ⟨g, j, none⟩) (hz : ∀ j : Nat, w'.frozen? ⟨g, j, none⟩ = false) {x' : Bk} {p' : Pl} (hb : BAt w' g (k * 6) x' p') (hl : x'.ops.length ≤ p'.oc) (h1 : Oz w' p'.oa x'.ops) (h2 : Oz w' p'.ba x'.body)
    (h3 : ∀ j, Lk p'.oa x'.ops j → own j = 2 + 2 * k) (h4 : ∀ j, Lk p'.ba x'.body j → own j = 3 + 2 * k) (hok : x'.Ok ∧ (∀ o ∈ x'.ops, o.Ok) ∧ (∀ o ∈ x'.body, o.Ok) ∧ x'.ops.length ≤ 8192 ∧ x'.body.length ≤ 8192) : Pr w' z own g (qs.set k x') := by
  have hg1 := h.g1
  refine ⟨h.old, h.g1, Nat.lt_of_lt_of_le h.lt hF.size, hz, by simpa using h.n, fun x hx => ?_, fun i hi => ?_⟩
  · rcases List.mem_or_eq_of_mem_set hx with hm | rfl
    · exact h.ok x hm
    · exact hok
  · have hi' : i < qs.length := by simpa using hi
    by_cases e : k = i
    · subst e
      simp only [List.getElem_set_self]
      exact ⟨p', hb, hl, h1, h2, h3, h4⟩
    · simp only [List.getElem_set_ne e]
      obtain ⟨p, b1, b2, b3, b4, b5, b6⟩ := h.is i hi'
      have key : ∀ d u, d < 6 → w.cell? ⟨g, i * 6 + d, none⟩ = some u → w'.cell? ⟨g, i * 6 + d, none⟩ = some u := fun d u hd q => by rw [hc _ (by omega)]; exact q
      refine ⟨p, ⟨key 0 _ (by omega) b1.c0, key 1 _ (by omega) b1.c1, key 2 _ (by omega) b1.c2, key 3 _ (by omega) b1.c3, key 4 _ (by omega) b1.c4, key 5 _ (by omega) b1.c5⟩, b2, b3.fr hF fun j q x => ?_, b4.fr hF fun j q x => ?_, b5, b6⟩
      · have := b5 j q
        rcases hX j x with r | r | r
        · subst r; omega
        · omega
        · omega
      · have := b6 j q
        rcases hX j x with r | r | r
        · subst r; omega
        · omega
        · omega
end Go.Proofs.YtddcndlogoajkaaDoor.L8.Bt
