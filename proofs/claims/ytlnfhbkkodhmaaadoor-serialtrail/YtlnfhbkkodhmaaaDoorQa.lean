/- What Trail tells of a run, step by step: plain mathematics of trails, a row of tags in memory, and the function itself, read off the program by the walk. Conditions: the program and the state lie in memory, and the variable as the program lays it. -/
import Derived.Test.YtlnfhbkkodhmaaaDoorNw
import Derived.Test.YtlnfhbkkodhmaaaDoorNu
namespace Go.Proofs.YtlnfhbkkodhmaaaDoor.Sm
open Go.ChangeShapes Go.WideShapes Go.ChangeAt Go.RowKit
open _root_.Go.Proofs.YtlnfhbkkodhmaaaDoor.Op _root_.Go.Proofs.YtlnfhbkkodhmaaaDoor.So
set_option maxRecDepth 20000

theorem trail_add (ps : List Bk) : ∀ (a b : Nat) (M : Ma), trailM ps (a + b) M = trailM ps a M ++ trailM ps b (runM ps a M)
  | 0, b, M => by rw [Nat.zero_add, trail_zero]; rfl
  | a + 1, b, M => by
    rw [show a + 1 + b = (a + b) + 1 by omega]
    by_cases h : M.e = 100
    · cases ht : trapB ps M
      · have e1 : runM ps (a + 1) M = runM ps a (stepM ps M) := by simp [runM, h, ht]
        have e2 : trailM ps (a + 1) M = tagM ps M :: trailM ps a (stepM ps M) := by simp [trailM, h, ht]
        have e3 : trailM ps (a + b + 1) M = tagM ps M :: trailM ps (a + b) (stepM ps M) := by simp [trailM, h, ht]
        rw [e1, e2, e3, trail_add ps a b]; rfl
      · have e1 : runM ps (a + 1) M = { M with e := 101 } := by simp [runM, h, ht]
        have e2 : trailM ps (a + 1) M = [] := by simp [trailM, h, ht]
        have e3 : trailM ps (a + b + 1) M = [] := by simp [trailM, h, ht]
        rw [e1, e2, e3]
        cases b <;> simp [trailM]
    · have e2 : trailM ps (a + 1) M = [] := by simp [trailM, h]
      have e3 : trailM ps (a + b + 1) M = [] := by simp [trailM, h]
      rw [run_over h, e2, e3]
      cases b <;> simp [trailM, h]
theorem trail_one (ps : List Bk) (M : Ma) : (trailM ps 1 M = [] ∧ ∀ b, trailM ps b M = []) ∨ trailM ps 1 M = [tagM ps M] := by
  by_cases h : M.e = 100
  · cases ht : trapB ps M
    · right; simp [trailM, h, ht]
    · left; exact ⟨by simp [trailM, h, ht], fun b => by cases b <;> simp [trailM, h, ht]⟩
  · left; exact ⟨by simp [trailM, h], fun b => by cases b <;> simp [trailM, h]⟩
/-- The machine behind k steps; ahead of the first one it was not asked yet. -/
def stM (ps : List Bk) (k : Nat) (M : Ma) : Ma := if k = 0 then M else runM ps k M
theorem st_next (ps : List Bk) (k : Nat) (M : Ma) : runM ps 1 (stM ps k M) = stM ps (k + 1) M := by
  have e : stM ps (k + 1) M = runM ps (k + 1) M := if_neg (Nat.succ_ne_zero k)
  rw [e]
  unfold stM
  by_cases h : k = 0
  · rw [if_pos h, h]
  · rw [if_neg h, run_add]
theorem st_trail (ps : List Bk) (k b : Nat) (M : Ma) : trailM ps (k + b) M = trailM ps k M ++ trailM ps b (stM ps k M) := by
  rw [trail_add]
  unfold stM
  by_cases h : k = 0
  · rw [if_pos h, h, trail_zero]
  · rw [if_neg h]
theorem st_s (ps : List Bk) (k : Nat) (M : Ma) : (stM ps k M).s = M.s + (trailM ps k M).length := by
  unfold stM
  by_cases h : k = 0
  · rw [if_pos h, h]; rfl
  · rw [if_neg h, trail_len]
/-- The cells of tags in a row. -/
def tcells (l : List Tg) : List Value := l.flatMap fun t => [.int .i64 t.1, .bool t.2.1, .int .i64 t.2.2, .bool false]
theorem tcells_snoc (l : List Tg) (t : Tg) : tcells (l ++ [t]) = tcells l ++ [.int .i64 t.1, .bool t.2.1, .int .i64 t.2.2, .bool false] := by simp [tcells]
theorem info49 : (Tryd.prog.info? 49).map (fun i => (i.zero, i.size, i.bytes)) = some (some (.agg #[.int .i64 0, .bool false, .int .i64 0, .bool false]), 4, 32) := by kernel_rfl
/-- The trail under way: k tags in a row, the machine behind so many steps. -/
structure Tr (w wr : World) (q : Nat) (ps : List Bk) (M0 : Ma) (k : Nat) (a : Option Addr) (c : Nat) : Prop where
  up : Below w.heap.size w wr
  wq : w.heap.size ≤ q
  row : wr.ownsRow (q + 1) 49 4 (.slice a k c) k (tcells (trailM ps k M0))
  len : (trailM ps k M0).length = k
  mm : ∃ T, MM wr q ps T (stM ps k M0) ∧ (∀ j, T j → w.heap.size ≤ j) ∧ ∀ x, a = some x → ¬ T x.block
theorem Tr.up' {w wr w2 : World} {q : Nat} {ps : List Bk} {M0 : Ma} {k : Nat} {a : Option Addr} {c : Nat} (h : Tr w wr q ps M0 k a c) (hb : Below wr.heap.size wr w2) : Tr w w2 q ps M0 k a c := by
  obtain ⟨T, h1, h2, h3⟩ := h.mm
  exact ⟨h.up.trans (hb.mono h.up.size), h.wq, row_up h.row hb, h.len, T, h1.up hb, h2, h3⟩
/-- Behind one step more, the tags as they were. -/
structure Ts (w wr : World) (q : Nat) (ps : List Bk) (M0 : Ma) (k : Nat) (a : Option Addr) (c : Nat) : Prop where
  up : Below w.heap.size w wr
  wq : w.heap.size ≤ q
  row : wr.ownsRow (q + 1) 49 4 (.slice a k c) k (tcells (trailM ps k M0))
  len : (trailM ps k M0).length = k
  mm : ∃ T, MM wr q ps T (stM ps (k + 1) M0) ∧ (∀ j, T j → w.heap.size ≤ j) ∧ ∀ x, a = some x → ¬ T x.block
theorem own_block {w : World} {B : Nat} {e : TypeId} {z n c : Nat} {a : Option Addr} {xs : List Value} (h : w.ownsRow B e z (.slice a n c) n xs) {x : Addr} (hx : a = some x) : B ≤ x.block ∧ x.block < w.heap.size := by
  subst hx
  exact h.lt x.block rfl
theorem Tr.step {w wr w2 : World} {q : Nat} {ps : List Bk} {M0 : Ma} {k : Nat} {a : Option Addr} {c : Nat} (h : Tr w wr q ps M0 k a c) {T T' : Nat → Prop} (h2 : ∀ j, T j → w.heap.size ≤ j) (h3 : ∀ x, a = some x → ¬ T x.block) (hm : MM w2 q ps T' (runM ps 1 (stM ps k M0))) (ht : Tn wr T w2 T') : Ts w w2 q ps M0 k a c := by
  rw [st_next] at hm
  refine ⟨h.up.trans (ht.below h.up.size fun j hj hT => by have := h2 j hT; omega), h.wq, row_fr h.row ht.f fun j hj => ?_, h.len, T', hm, fun j hj => (ht.t j hj).elim (h2 j) fun h' => Nat.le_trans h.up.size h', fun x e hT => ?_⟩
  · cases a with
    | none => simp [Value.ownBlock] at hj
    | some x =>
      simp only [Value.ownBlock, Option.some.injEq] at hj
      subst hj
      exact h3 x rfl
  · have hl := (own_block h.row e).2
    exact (ht.t _ hT).elim (h3 x e) fun h' => by omega
theorem Ts.up' {w wr w2 : World} {q : Nat} {ps : List Bk} {M0 : Ma} {k : Nat} {a : Option Addr} {c : Nat} (h : Ts w wr q ps M0 k a c) (hb : Below wr.heap.size wr w2) : Ts w w2 q ps M0 k a c := by
  obtain ⟨T, h1, h2, h3⟩ := h.mm
  exact ⟨h.up.trans (hb.mono h.up.size), h.wq, row_up h.row hb, h.len, T, h1.up hb, h2, h3⟩
theorem grown_fr {w w' : World} {row : Option Nat} (h : w.grownBy w' row) : Fr (fun k => row = some k) w w' :=
  ⟨h.os, h.tape, h.output, h.size, fun k hk hx => h.block k hk fun e => hx e.symm⟩
theorem Ts.snoc {w wr w2 : World} {q : Nat} {ps : List Bk} {M0 : Ma} {k g c c2 : Nat} {a : Option Addr} (h : Ts w wr q ps M0 k a c) (h1 : trailM ps 1 (stM ps k M0) = [tagM ps (stM ps k M0)]) (hg : wr.grownBy w2 (Value.ownBlock (.slice a k c))) (hn : Value.ownBlock (.slice a k c) = some g ∨ g = wr.heap.size)
    (hr : w2.ownsRow (q + 1) 49 4 (.slice (some ⟨g, 0, none⟩) (k + 1) c2) (k + 1) (tcells (trailM ps k M0) ++ [.int .i64 (tagM ps (stM ps k M0)).1, .bool (tagM ps (stM ps k M0)).2.1, .int .i64 (tagM ps (stM ps k M0)).2.2, .bool false])) : Tr w w2 q ps M0 (k + 1) (some ⟨g, 0, none⟩) c2 := by
  obtain ⟨T, m1, m2, m3⟩ := h.mm
  have hF := grown_fr hg
  have hx : ∀ j, Value.ownBlock (.slice a k c) = some j → q + 1 ≤ j ∧ ¬ T j := fun j hj => by
    have := (h.row.lt j hj).1
    cases a with
    | none => simp [Value.ownBlock] at hj
    | some x =>
      simp only [Value.ownBlock, Option.some.injEq] at hj
      subst hj
      exact ⟨this, m3 x rfl⟩
  have e1 : trailM ps (k + 1) M0 = trailM ps k M0 ++ [tagM ps (stM ps k M0)] := by rw [st_trail, h1]
  refine ⟨h.up.trans (hF.below h.up.size fun j hj e => by have := (hx j e).1; have := h.wq; omega), h.wq, ?_, by rw [e1, List.length_append, h.len]; rfl, T, m1.apart hF (fun j hj e => (hx j e).2 hj) (fun j _ e => .inl (by have := (hx j e).1; omega)), m2, fun x e hT => ?_⟩
  · rw [e1, tcells_snoc]; exact hr
  · cases e
    rcases hn with hn | hn
    · exact (hx g hn).2 hT
    · have := m1.mr.tl _ hT
      have hT' : g < wr.heap.size := this
      omega
theorem trail_stop {ps : List Bk} {M0 : Ma} {k n : Nat} (h : k ≤ n) (hz : ∀ b, trailM ps b (stM ps k M0) = []) : trailM ps n M0 = trailM ps k M0 := by
  obtain ⟨d, rfl⟩ : ∃ d, n = k + d := ⟨n - k, by omega⟩
  rw [st_trail, hz d, List.append_nil]
/-- What Trail leaves. -/
def TrailPost (w : World) (tr : List Tg) (e : Ending) (w' : World) : Prop := ∃ a c, e = .returned (.tuple #[.slice a tr.length c, .int .i64 0]) ∧ w'.ownsRow w.heap.size 49 4 (.slice a tr.length c) tr.length (tcells tr) ∧ Below w.heap.size w w'
theorem own_le {w : World} {B B' : Nat} {e : TypeId} {z n c : Nat} {a : Option Addr} {xs : List Value} (h : w.ownsRow B e z (.slice a n c) n xs) (hB : B' ≤ B) : w.ownsRow B' e z (.slice a n c) n xs := by
  refine ⟨h.1, h.2.imp id ?_⟩
  rintro ⟨b, cap, cur, h1, h2, h3, h4⟩
  exact ⟨b, cap, cur, h1, by omega, h3, h4⟩
end Go.Proofs.YtlnfhbkkodhmaaaDoor.Sm
