/- What doOperation makes of the machine: an operation is reckoned and, if it may, lands. Read off the program by the walk. Conditions: the machine and its program lie in memory. -/
import Derived.Test.YtccakjijoadjkaaDoorNd
import Derived.Deep.RegionHeld3
namespace Go.Proofs.YtccakjijoadjkaaDoor.Sm
open Go.ChangeShapes Go.WideShapes Go.ChangeAt Go.RowKit
open _root_.Go.Proofs.YtccakjijoadjkaaDoor.Op _root_.Go.Proofs.YtccakjijoadjkaaDoor.So
set_option maxRecDepth 20000

theorem mr_one {w w' : World} {q bc pc : Nat} {ps : List Bk} {T : Nat → Prop} {M M' : Ma} {ba po : Option Addr} (hP : PIn w (fun k => T k ∨ q ≤ k) ba ps) (hR : w.ownsRow (q + 1) 2 1 (.slice po M.pr.length pc) M.pr.length (nums M.pr)) (hT : ∀ a, po = some a → T a.block) (tq : T q) (tl : ∀ k, T k → k < w.heap.size)
    (hM : MAt w' q ba ps.length bc po pc M') (hF : Fr (One q) w w') (hpr : M'.pr = M.pr) : MR w' q ps T M' ∧ Tn w T w' T := by
  have hF' : Fr T w w' := hF.mono fun k _ e => by rw [show k = q from e]; exact tq
  refine ⟨⟨⟨ba, bc, po, pc, hM, hP.fr (hF'.mono fun _ _ h => .inl h), ?_, hT⟩, tq, fun k hk => Nat.lt_of_lt_of_le (tl k hk) hF.size⟩, hF', fun _ h => .inl h⟩
  rw [hpr]
  exact row_fr hR hF fun k hk e => by have := (hR.lt k hk).1; have e : k = q := e; omega
/-- What a landing leaves. -/
def LandPost (w : World) (q : Nat) (ps : List Bk) (T : Nat → Prop) (M' : Ma) (e : Ending) (w' : World) : Prop := e = .returned (.tuple #[]) ∧ ∃ T', MR w' q ps T' M' ∧ Tn w T w' T'
section
variable {w : World} {q : Nat} {ps : List Bk} {T : Nat → Prop} {M : Ma}
theorem land_reg (o : O) (v : Int) (h : MR w q ps T M) (ho : OkM o) : Calls Tryd.prog 72 #[ptr q, o.val, .int .i64 v] w (LandPost w q ps T { M with r := upd M.r o.d.toNat v }) := by
  obtain ⟨ba, bc, po, pc, hM, hP, hR, hT⟩ := h.ex
  refine (toRegister_any o v hM ho).mono ?_
  rintro e w' ⟨rfl, h1, h2⟩
  exact ⟨rfl, T, mr_one hP hR hT h.tq h.tl h1 h2 rfl⟩
theorem land_cell (o : O) (v : Int) (h : MR w q ps T M) (ho : OkM o) : Calls Tryd.prog 75 #[ptr q, o.val, .int .i64 v] w (LandPost w q ps T { M with m := upd M.m (cellN (M.r o.a.toNat) o.im) v }) := by
  obtain ⟨ba, bc, po, pc, hM, hP, hR, hT⟩ := h.ex
  refine (toCell_any o v hM ho).mono ?_
  rintro e w' ⟨rfl, h1, h2⟩
  exact ⟨rfl, T, mr_one hP hR hT h.tq h.tl h1 h2 rfl⟩
theorem land_print (o : O) (v : Int) (h : MR w q ps T M) (hl : M.pr.length < 1099511627776) : Calls Tryd.prog 77 #[ptr q, o.val, .int .i64 v] w (LandPost w q ps T { M with pr := M.pr ++ [v] }) := by
  obtain ⟨ba, bc, po, pc, hM, hP, hR, hT⟩ := h.ex
  refine (toPrints_any o v hM hl hR).mono ?_
  rintro e w' ⟨rfl, g, cap, h1, h2, h3, h4⟩
  have hgT : ∀ k, k < w.heap.size → (T k ∨ k = g) → T k := fun k hk => by
    rintro (h | rfl)
    · exact h
    · rcases h4 with ⟨a, ha, rfl⟩ | h4
      · exact hT a ha
      · omega
  have hF : Fr T w w' := h3.mono fun k _ hk => by
    rcases hk with hk | ⟨a, ha, hk⟩
    · rw [hk]; exact h.tq
    · rw [← hk]; exact hT a ha
  refine ⟨rfl, fun k => T k ∨ k = g, ⟨⟨ba, bc, some ⟨g, 0, none⟩, cap, h1, (hP.grow fun k hk h => h.elim (fun h => .inl (hgT k hk h)) .inr).fr (hF.mono fun _ _ h => .inl (.inl h)), h2, fun a ha => ?_⟩, .inl h.tq, fun k hk => ?_⟩, hF, fun k hk => ?_⟩
  · cases ha; exact .inr rfl
  · rcases hk with hk | rfl
    · exact Nat.lt_of_lt_of_le (h.tl k hk) hF.size
    · exact (h2.lt k rfl).2
  · rcases hk with hk | rfl
    · exact .inl hk
    · rcases h4 with ⟨a, ha, rfl⟩ | h4
      · exact .inl (hT a ha)
      · exact .inr h4
theorem MR.mat (h : MR w q ps T M) : ∃ ba bc po pc, MAt w q ba ps.length bc po pc M := by
  obtain ⟨ba, bc, po, pc, hM, -⟩ := h.ex
  exact ⟨ba, bc, po, pc, hM⟩
/-- The deeds of a kind. -/
theorem deed_val {k : Nat} (h : 1 ≤ k) : deedF (k * 2) = fnV (valN k) := by
  unfold deedF
  rw [if_neg (by omega), if_pos (by omega), show k * 2 / 2 = k by omega]
theorem deed_land {k : Nat} (h : 1 ≤ k) : deedF (k * 2 + 1) = fnV (landN k) := by
  unfold deedF
  rw [if_neg (by omega), if_neg (by omega), show (k * 2 + 1) / 2 = k by omega]
theorem MR.deeds (h : MR w q ps T M) {o : O} (ho : OkM o) : w.cell? ⟨q, 1 + o.op.toNat * 2, none⟩ = some (fnV (valN o.op.toNat)) ∧ w.cell? ⟨q, 1 + o.op.toNat * 2 + 1, none⟩ = some (fnV (landN o.op.toNat)) := by
  obtain ⟨ba, bc, po, pc, hM⟩ := h.mat
  have hb := ho.op
  have h1 := hM.d (o.op.toNat * 2) (by omega)
  have h2 := hM.d (o.op.toNat * 2 + 1) (by omega)
  rw [deed_val (by omega)] at h1
  rw [deed_land (by omega), ← Nat.add_assoc] at h2
  exact ⟨h1, h2⟩
/-- What reckoning an operation leaves. -/
theorem val_any (o : O) (h : MM w q ps T M) (ho : OkM o) (ht : trapO o M = false) : Calls Tryd.prog (valN o.op.toNat) #[ptr q, o.val] w fun e w' => e = .returned (.int .i64 (valO o M)) ∧ Below w.heap.size w w' := by
  obtain ⟨ba, bc, po, pc, hM⟩ := h.mr.mat
  have hb := ho.op
  unfold valN valO
  by_cases h1 : o.op = 1
  · rw [if_pos h1, if_pos (by omega)]; exact number_any o w
  by_cases h15 : o.op = 15
  · rw [if_neg h1, if_pos h15, if_neg (by omega), if_pos (by omega)]; exact loaded_any o hM ho
  by_cases h16 : o.op = 16
  · rw [if_neg h1, if_neg h15, if_pos h16, if_neg (by omega), if_neg (by omega), if_pos (by omega)]; exact second_any o hM ho
  by_cases h17 : o.op = 17
  · rw [if_neg h1, if_neg h15, if_neg h16, if_pos h17, if_neg (by omega), if_neg (by omega), if_neg (by omega), if_pos (by omega)]; exact first_any o hM ho
  rw [if_neg h1, if_neg h15, if_neg h16, if_neg h17, if_neg (by omega), if_neg (by omega), if_neg (by omega), if_neg (by omega)]
  refine reckoned_ok o hM ho (h.inv.r _) ?_
  unfold rkE
  simp only [trapO, decide_eq_false_iff_not] at ht
  by_cases h12 : o.op ≤ 12
  · rw [if_pos ⟨by omega, h12⟩]
  · rw [if_neg (by omega), if_pos (by omega), if_neg (fun e => ht ⟨by omega, e⟩)]
theorem val_trap (o : O) (h : MM w q ps T M) (ho : OkM o) (ht : trapO o M = true) : Calls Tryd.prog 82 #[ptr q, o.val] w fun e w' => e = .panicked [{ v := .iface 133 (.agg #[.int .i64 101]), recovered := false }] ∧ Below w.heap.size w w' := by
  obtain ⟨ba, bc, po, pc, hM⟩ := h.mr.mat
  simp only [trapO, decide_eq_true_eq] at ht
  refine reckoned_trap o hM ho (h.inv.r _) ?_
  unfold rkE
  rw [if_neg (by omega), if_pos ht.1, if_pos ht.2]
theorem trap_val {o : O} (ht : trapO o M = true) : valN o.op.toNat = 82 := by
  simp only [trapO, decide_eq_true_eq] at ht
  unfold valN
  rcases ht.1 with h | h <;> rw [h] <;> rfl
theorem land_any (o : O) (v : Int) (h : MR w q ps T M) (ho : OkM o) (hl : M.pr.length < 1099511627776) : Calls Tryd.prog (landN o.op.toNat) #[ptr q, o.val, .int .i64 v] w (LandPost w q ps T (landO o v M)) := by
  have hb := ho.op
  unfold landN landO
  by_cases h16 : o.op = 16
  · rw [if_pos h16, if_pos (by omega)]; exact land_cell o v h ho
  by_cases h17 : o.op = 17
  · rw [if_neg h16, if_pos h17, if_neg (by omega), if_pos (by omega)]; exact land_print o v h hl
  rw [if_neg h16, if_neg h17, if_neg (by omega), if_neg (by omega)]
  exact land_reg o v h ho
end
end Go.Proofs.YtccakjijoadjkaaDoor.Sm
