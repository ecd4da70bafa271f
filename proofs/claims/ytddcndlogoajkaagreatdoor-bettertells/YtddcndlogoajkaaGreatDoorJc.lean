/- When the document's answer folds an operation: when package better does; and as what. Plain mathematics. Conditions: said at each. -/
import Derived.Test.YtddcndlogoajkaaGreatDoorJa
import Derived.Test.YtddcndlogoajkaaGreatDoorGg
namespace Go.Proofs.YtddcndlogoajkaaGreatDoor.L8.Bt
open Go.ChangeShapes Go.WideShapes Go.ChangeAt Go.RowKit
open _root_.Go.Proofs.YtddcndlogoajkaaGreatDoor.L8.Op _root_.Go.Proofs.YtddcndlogoajkaaGreatDoor.L8.So
open _root_.Go.Proofs.YtddcndlogoajkaaGreatDoor.L8.Lv (rdL wOf PsOk)
set_option maxRecDepth 20000

/-- The document's Known, as cells: which are known, and as what. -/
def rF (K : Kn) (M : Nat → Int) (j : Nat) : Value := if j < 32 then .bool (K j).isSome else .int .i64 (M (j - 32))
def rA (K : Kn) (M : Nat → Int) : Array Value := ((List.range 64).map (rF K M)).toArray
theorem rA_get (K : Kn) (M : Nat → Int) (j : Nat) (h : j < 64) : (rA K M)[j]? = some (rF K M j) := by
  unfold rA
  rw [List.getElem?_toArray, List.getElem?_map, List.getElem?_range h]; rfl
theorem rA_len (K : Kn) (M : Nat → Int) : (rA K M).toList.length = 64 := by simp [rA]
theorem rA_size (K : Kn) (M : Nat → Int) : (rA K M).size = 64 := by simp [rA]
theorem rA_one (K : Kn) (M : Nat → Int) : (rA K M).all (·.oneCell') = true := by
  unfold rA
  rw [List.all_toArray, List.all_map, List.all_eq_true]
  intro j _
  show (rF K M j).oneCell' = true
  unfold rF
  split <;> rfl
/-- What is known is what is said. -/
def Say (K : Kn) (M : Nat → Int) : Prop := ∀ r v, K r = some v → M r = v
theorem Say.get {K : Kn} {M : Nat → Int} (h : Say K M) {r : Nat} (hr : (K r).isSome = true) : (K r).getD 0 = M r := by
  cases e : K r with
  | none => rw [e] at hr; cases hr
  | some v => rw [h r v e]; rfl
def putN (M : Nat → Int) (d : Nat) (v : Int) : Nat → Int := fun r => if r = d then v else M r
def ntN (M : Nat → Int) (o : O) : Nat → Int := if wrB o then putN M o.d.toNat o.im else M
theorem Say.nt {K : Kn} {M : Nat → Int} (h : Say K M) (o : O) : Say (ntO K o) (ntN M o) := by
  unfold ntO ntN
  cases wrB o with
  | false => exact h
  | true =>
    intro r v e
    simp only [if_true, putK] at e
    simp only [if_true, putN]
    by_cases hr : r = o.d.toNat
    · rw [if_pos hr] at e ⊢
      by_cases h1 : o.op = 1
      · rw [if_pos h1] at e; exact Option.some.inj e
      · rw [if_neg h1] at e; cases e
    · rw [if_neg hr] at e ⊢
      exact h r v e
/-- The document's Known in memory. -/
structure Rs (w : World) (q : Nat) (K : Kn) (M : Nat → Int) : Prop where
  lt : q < w.heap.size
  fz : ∀ j : Nat, w.frozen? ⟨q, j, none⟩ = false
  c : ∀ j : Nat, j < 64 → w.cell? ⟨q, j, none⟩ = some (rF K M j)
theorem Rs.b {w : World} {q : Nat} {K : Kn} {M : Nat → Int} (h : Rs w q K M) {r : Nat} (hr : r < 32) : w.cell? ⟨q, r, none⟩ = some (.bool (K r).isSome) := by
  have := h.c r (by omega)
  unfold rF at this
  rwa [if_pos hr] at this
theorem Rs.n {w : World} {q : Nat} {K : Kn} {M : Nat → Int} (h : Rs w q K M) {r : Nat} (hr : r < 32) : w.cell? ⟨q, 32 + r, none⟩ = some (.int .i64 (M r)) := by
  have := h.c (32 + r) (by omega)
  unfold rF at this
  rwa [if_neg (by omega), show 32 + r - 32 = r by omega] at this
theorem Rs.below {w w' : World} {q : Nat} {K : Kn} {M : Nat → Int} (h : Rs w q K M) (hb : Below w.heap.size w w') : Rs w' q K M :=
  ⟨Nat.lt_of_lt_of_le h.lt hb.size, fun j => by rw [(bcell hb).2 _ _ h.lt]; exact h.fz j, fun j hj => by rw [(bcell hb).1 _ _ h.lt]; exact h.c j hj⟩
theorem Rs.new (w : World) (K : Kn) (M : Nat → Int) (t : TypeId) : Rs (w.alloc (.cells (rA K M) t)) w.heap.size K M := by
  have h := Op.At.new w (rA K M) t
  exact ⟨h.lt, h.f, fun j hj => h.c j _ (rA_get K M j hj)⟩
theorem Rs.put {w : World} {q : Nat} {K : Kn} {M : Nat → Int} (h : Rs w q K M) {d : Nat} (hd : d < 32) (v : Option Int) (n : Int) : Rs ((w.setCell ⟨q, d, none⟩ (.bool v.isSome)).setCell ⟨q, 32 + d, none⟩ (.int .i64 n)) q (putK K d v) (putN M d n) := by
  refine ⟨by simpa using h.lt, fun j => by rw [World.frozen?_setCell, World.frozen?_setCell]; exact h.fz j, fun j hj => ?_⟩
  have hj' := h.c j hj
  by_cases e1 : j = d
  · subst e1
    rw [co (by omega), cs hj']
    unfold rF putK
    rw [if_pos hd, if_pos rfl]
  · by_cases e2 : j = 32 + d
    · subst e2
      rw [cs ((co (by omega)).trans hj')]
      unfold rF putN
      rw [if_neg (by omega), if_pos (by omega)]
    · rw [co (by omega), co (by omega), hj']
      unfold rF putK putN
      by_cases e3 : j < 32
      · rw [if_pos e3, if_pos e3, if_neg e1]
      · rw [if_neg e3, if_neg e3, if_neg (by omega)]
theorem rs_range {w : World} {q : Nat} {K : Kn} {M : Nat → Int} (h : Rs w q K M) : w.rangeAt q 0 (rA K M).toList := fun j v hv => by
  have hj : j < 64 := by
    have := (List.getElem?_eq_some_iff.1 hv).1
    rw [rA_len] at this; exact this
  rw [Array.getElem?_toList, rA_get K M j hj] at hv
  cases hv
  rw [Nat.zero_add]
  exact h.c j hj
theorem info58 : (Tryz.prog.info? 58).map (·.size) = some 64 := by kernel_rfl
/-- Laid into a block made for it. -/
theorem rs_laid {w : World} {q : Nat} {K0 K : Kn} {M0 M : Nat → Int} (h : Rs w q K0 M0) : Rs (w.setCells q 0 (rA K M).toList) q K M := by
  have hc : ∀ j, j < (rA K M).toList.length → (w.cell? ⟨q, 0 + j, none⟩).isSome = true := fun j hj => by
    rw [rA_len] at hj
    rw [Nat.zero_add, h.c j hj]; rfl
  refine ⟨by rw [setCells_size]; exact h.lt, fun j => by rw [World.frozen?_setCells]; exact h.fz j, fun j hj => ?_⟩
  have hl : j < (rA K M).toList.length := by rw [rA_len]; exact hj
  have := World.cell?_setCells_in q (rA K M).toList 0 _ hc j hl
  rw [Nat.zero_add] at this
  rw [this]
  have h2 := rA_get K M j hj
  rw [← Array.getElem?_toList] at h2
  rw [List.getElem?_eq_getElem hl] at h2
  exact h2
end Go.Proofs.YtddcndlogoajkaaGreatDoor.L8.Bt
namespace Go.Proofs.YtddcndlogoajkaaGreatDoor.L8.Bt
open Go.ChangeShapes Go.WideShapes Go.ChangeAt Go.RowKit
open _root_.Go.Proofs.YtddcndlogoajkaaGreatDoor.L8.Op _root_.Go.Proofs.YtddcndlogoajkaaGreatDoor.L8.So
open _root_.Go.Proofs.YtddcndlogoajkaaGreatDoor.L8.Lv (rdL wOf PsOk)
set_option maxRecDepth 20000

theorem mid_all : ((List.range 15).all fun n => decide (n < 2) || (match kindL[n]? with | some k => k.D && k.A && (k.B == !(n == 11)) | none => false)) = true := by kernel_rfl
theorem mid_of {d : Int} {k : K} (hk : kOf d = some k) (h1 : 2 ≤ d) (h2 : d ≤ 14) : k.D = true ∧ k.A = true ∧ (k.B = false → d = 11) := by
  obtain ⟨n, rfl⟩ : ∃ n : Nat, d = n := ⟨d.toNat, by omega⟩
  have h := List.all_eq_true.1 mid_all n (List.mem_range.2 (by omega))
  unfold kOf at hk
  rw [if_pos (by omega), Int.toNat_natCast] at hk
  rw [hk, decide_eq_false (by omega), Bool.false_or] at h
  simp only [Bool.and_eq_true, beq_iff_eq] at h
  refine ⟨h.1.1, h.1.2, fun e => ?_⟩
  rw [e] at h
  have := h.2
  simp at this
  omega
/-- The document's test whether an operation is folded. -/
def docB (K : Kn) (M : Nat → Int) (k : Op.K) (o : O) : Bool := decide (2 ≤ o.op) && decide (o.op ≤ 14) && (K o.a.toNat).isSome && (!k.B || (K o.b.toNat).isSome) && decide (rkE o.op (M o.b.toNat) = 0) && decide (-2147483648 ≤ rkV o.op (M o.a.toNat) (M o.b.toNat)) && decide (rkV o.op (M o.a.toNat) (M o.b.toNat) ≤ 2147483647)
theorem num_say {K : Kn} {M : Nat → Int} (h : Say K M) {r : Int} (hr : (K r.toNat).isSome = true) : numK K r = M r.toNat := h.get hr
theorem okO_cst {d v : Int} (hd : rH d true = true) : okO (cst d v) = (decide (-2147483648 ≤ v) && decide (v ≤ 2147483647)) := by
  have hk : kOf (cst d v).op = some kindL[1] := rfl
  rw [okO_some hk]
  show (rH d true && rH 0 false && rH 0 (false || false) && iH v true) = _
  rw [hd]
  simp [rH, iH]
theorem allK_rd {K : Kn} {o : O} {k : Op.K} (hk : kOf o.op = some k) (hf : okF k o = true) (hA : k.A = true) (_ : o.Ok) : allK K (rdL o) = ((K o.a.toNat).isSome && (!k.B || (K o.b.toNat).isSome)) := by
  unfold allK Lv.rdL
  rw [hk]
  simp only [hf, hA, Bool.true_and, if_true]
  cases hB : k.B with
  | false => simp
  | true =>
    by_cases e : o.a = o.b
    · rw [e]; simp
    · have : (o.a == o.b) = false := by simpa using e
      simp [this]
theorem doc_folds {K : Kn} {M : Nat → Int} {k : Op.K} {o : O} (hS : Say K M) (hk : kOf o.op = some k) (hf : okF k o = true) (hx : o.Ok) : fdB K o = docB K M k o := by
  by_cases h : 2 ≤ o.op ∧ o.op ≤ 14
  · obtain ⟨hD, hA, hB⟩ := mid_of hk h.1 h.2
    have hd : rH o.d true = true := by
      simp only [okF, Bool.and_eq_true] at hf
      have := hf.1.1.1
      rwa [hD] at this
    unfold fdB docB
    rw [allK_rd hk hf hA hx, okO_cst hd, decide_eq_true h.1, decide_eq_true h.2]
    cases ha : (K o.a.toNat).isSome with
    | false => simp
    | true =>
      rw [num_say hS ha]
      cases hb : k.B with
      | false =>
        rw [hB hb]
        simp [rkE, rkV]
      | true =>
        cases hc : (K o.b.toNat).isSome with
        | false => simp
        | true =>
          rw [num_say hS hc]
          simp [Bool.and_assoc]
  · have h1 : rkE o.op (numK K o.b) = 2 := by
      unfold rkE
      rw [if_neg (by omega), if_neg (by omega)]
    unfold fdB docB
    rw [h1]
    by_cases h2 : 2 ≤ o.op
    · rw [decide_eq_false (show ¬ o.op ≤ 14 by omega)]
      simp
    · rw [decide_eq_false h2]
      simp
theorem doc_number {K : Kn} {M : Nat → Int} {k : Op.K} {o : O} (hS : Say K M) (hk : kOf o.op = some k) (hf : okF k o = true) (hx : o.Ok) (h : fdB K o = true) : fdO K o = cst o.d (rkV o.op (M o.a.toNat) (M o.b.toNat)) := by
  have h0 := h
  rw [doc_folds hS hk hf hx] at h
  simp only [docB, Bool.and_eq_true, decide_eq_true_eq] at h
  obtain ⟨⟨⟨⟨⟨⟨h1, h2⟩, h3⟩, h4⟩, h5⟩, h6⟩, h7⟩ := h
  obtain ⟨hD, hA, hB⟩ := mid_of hk h1 h2
  unfold fdO
  rw [if_pos h0, num_say hS h3]
  cases hb : k.B with
  | false => rw [hB hb]; simp [rkV]
  | true =>
    rw [hb] at h4
    rw [num_say hS (by simpa using h4)]
end Go.Proofs.YtddcndlogoajkaaGreatDoor.L8.Bt
