/- What nothing writes stays: registers that no operation writes, cells without a Store. Plain mathematics of the machine. Conditions: the program is one. -/
import Derived.Test.YtlnfhbkkodhmaaaDoorNa
import Derived.Test.YtlnfhbkkodhmaaaDoorKd
namespace Go.Proofs.YtlnfhbkkodhmaaaDoor.Sm
open Go.ChangeShapes Go.WideShapes Go.ChangeAt Go.RowKit
open _root_.Go.Proofs.YtlnfhbkkodhmaaaDoor.Op
set_option maxRecDepth 20000

/-- All operations are of a program. -/
def AllP (ps : List Bk) : Prop := ∀ x ∈ ps, (∀ o ∈ x.ops, okP o = true) ∧ ∀ o ∈ x.body, okP o = true
theorem allP_of {ps : List Bk} (h : ckP ps = 0) : AllP ps := fun x hx => by
  unfold ckP at h
  by_cases h1 : 128 < ps.length ∨ 1024 < opsN ps
  · rw [if_pos h1] at h; omega
  · rw [if_neg h1] at h
    by_cases h2 : ps.length = 0
    · rw [if_pos h2] at h; omega
    · rw [if_neg h2] at h
      have hb := firstE_all h x hx
      unfold ckB at hb
      split at hb
      · rename_i h3
        split at hb
        · split at hb
          · rename_i h5
            exact ⟨fun o ho => List.all_eq_true.1 h3 o ho, fun o ho => List.all_eq_true.1 h5 o ho⟩
          · omega
        · omega
      · omega
theorem D_all : ∀ n : Nat, 1 ≤ n → n ≤ 15 → ∀ k, kindL[n]? = some k → k.D = true
  | 0, h, _, _, _ => absurd h (by omega)
  | 1, _, _, _, h => by cases h; rfl
  | 2, _, _, _, h => by cases h; rfl
  | 3, _, _, _, h => by cases h; rfl
  | 4, _, _, _, h => by cases h; rfl
  | 5, _, _, _, h => by cases h; rfl
  | 6, _, _, _, h => by cases h; rfl
  | 7, _, _, _, h => by cases h; rfl
  | 8, _, _, _, h => by cases h; rfl
  | 9, _, _, _, h => by cases h; rfl
  | 10, _, _, _, h => by cases h; rfl
  | 11, _, _, _, h => by cases h; rfl
  | 12, _, _, _, h => by cases h; rfl
  | 13, _, _, _, h => by cases h; rfl
  | 14, _, _, _, h => by cases h; rfl
  | 15, _, _, _, h => by cases h; rfl
  | n + 16, _, h, _, _ => absurd h (by omega)
theorem writes_of {o : O} (h : okP o = true) (h15 : o.op ≤ 15) : wrB o = true ∧ wrD o = o.d := by
  simp only [okP, Bool.and_eq_true, decide_eq_true_eq] at h
  obtain ⟨⟨h1, h2⟩, h3⟩ := h
  have hw : wrB o = true := by
    unfold okO at h3
    unfold wrB
    cases hk : kOf o.op with
    | none => rw [hk] at h3; cases h3
    | some k =>
      rw [hk] at h3
      have h3 : okF k o = true := h3
      show (okF k o && k.D) = true
      rw [h3, Bool.true_and]
      unfold kOf at hk
      rw [if_pos (by omega)] at hk
      exact D_all o.op.toNat (by omega) (by omega) k hk
  exact ⟨hw, by unfold wrD; rw [hw]; rfl⟩
/-- Some operation writes register j; some operation is a Store. -/
def Wrs (ps : List Bk) (j : Nat) : Prop := ∃ x ∈ ps, ∃ o, (o ∈ x.ops ∨ o ∈ x.body) ∧ wrB o = true ∧ wrD o = (j : Int)
def Sto (ps : List Bk) : Prop := ∃ x ∈ ps, ∃ o, (o ∈ x.ops ∨ o ∈ x.body) ∧ o.op = 16
theorem toM_r (t : Int) (M : Ma) : (toM t M).r = M.r ∧ (toM t M).m = M.m := ⟨rfl, rfl⟩
theorem end_keeps (x : Bk) (M : Ma) : (endM x M).r = M.r ∧ (endM x M).m = M.m := by
  unfold endM
  (repeat' split) <;> exact ⟨rfl, rfl⟩
theorem next_r {ps : List Bk} {M : Ma} {j : Nat} (hP : AllP ps) (hM : PsM ps) (hb : M.b < ps.length) (hj : ¬ Wrs ps j) : (nextM ps M).r j = M.r j := by
  have hx := List.getElem_mem hb
  rcases Nat.lt_or_ge M.o (lst ps[M.b] M.y).length with hlt | hge
  · rw [next_op hb (List.getElem?_eq_getElem hlt)]
    obtain ⟨o, ho⟩ : ∃ o, (lst ps[M.b] M.y)[M.o] = o := ⟨_, rfl⟩
    have hm : o ∈ lst ps[M.b] M.y := by rw [← ho]; exact List.getElem_mem hlt
    have hin : o ∈ ps[M.b].ops ∨ o ∈ ps[M.b].body := by
      unfold lst at hm
      split at hm
      · exact .inr hm
      · exact .inl hm
    have hok : okP o = true := by
      rcases hin with h | h
      · exact (hP _ hx).1 o h
      · exact (hP _ hx).2 o h
    have hom : OkM o := (hM.2.2 _ hx).lst hm
    rw [ho]
    show (landO o (valO o M) M).r j = M.r j
    unfold landO
    by_cases h16 : o.op = 16
    · rw [if_pos h16]
    · rw [if_neg h16]
      by_cases h17 : o.op = 17
      · rw [if_pos h17]
      · rw [if_neg h17]
        obtain ⟨hw1, hw2⟩ := writes_of hok (by have := hom.op; omega)
        show upd M.r o.d.toNat (valO o M) j = M.r j
        refine upd_other _ _ fun e => hj ⟨_, hx, o, hin, hw1, ?_⟩
        have := hom.d
        rw [hw2, e]; omega
  · rw [next_end hb hge, (end_keeps _ _).1]
theorem next_m {ps : List Bk} {M : Ma} (hb : M.b < ps.length) (hj : ¬ Sto ps) : (nextM ps M).m = M.m := by
  have hx := List.getElem_mem hb
  rcases Nat.lt_or_ge M.o (lst ps[M.b] M.y).length with hlt | hge
  · rw [next_op hb (List.getElem?_eq_getElem hlt)]
    obtain ⟨o, ho⟩ : ∃ o, (lst ps[M.b] M.y)[M.o] = o := ⟨_, rfl⟩
    have hm : o ∈ lst ps[M.b] M.y := by rw [← ho]; exact List.getElem_mem hlt
    have hin : o ∈ ps[M.b].ops ∨ o ∈ ps[M.b].body := by
      unfold lst at hm
      split at hm
      · exact .inr hm
      · exact .inl hm
    rw [ho]
    show (landO o (valO o M) M).m = M.m
    unfold landO
    by_cases h16 : o.op = 16
    · exact absurd ⟨_, hx, o, hin, h16⟩ hj
    · rw [if_neg h16]
      by_cases h17 : o.op = 17
      · rw [if_pos h17]
      · rw [if_neg h17]
  · rw [next_end hb hge, (end_keeps _ _).2]
theorem run_keeps {ps : List Bk} (hP : AllP ps) (hM : PsM ps) : ∀ (k : Nat) {M : Ma}, Inv ps M → (∀ j, ¬ Wrs ps j → (runM ps k M).r j = M.r j) ∧ (¬ Sto ps → (runM ps k M).m = M.m)
  | 0, M, _ => by
    rcases run_zero_trap (ps := ps) M with e | ⟨-, -, e⟩ <;> rw [e] <;> exact ⟨fun _ _ => rfl, fun _ => rfl⟩
  | k + 1, M, h => by
    unfold runM
    split
    · split
      · exact ⟨fun _ _ => rfl, fun _ => rfl⟩
      · have ih := run_keeps hP hM k (inv_step hM h)
        exact ⟨fun j hj => (ih.1 j hj).trans (next_r hP hM h.b hj), fun hs => (ih.2 hs).trans (next_m h.b hs)⟩
    · exact ⟨fun _ _ => rfl, fun _ => rfl⟩
end Go.Proofs.YtlnfhbkkodhmaaaDoor.Sm
