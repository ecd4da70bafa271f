/- What package alias answers of two places (Meet, Round), read off the program by the walk. Conditions: the list lies in memory. -/
import Derived.Test.YteccifanbgcakaaGreatDoorN03
import Derived.Deep.QuietTactic
import Derived.BigQuiet
import Derived.Deep.LoopGhost
import Derived.Deep.RegionHeld3
namespace Go.Proofs.YteccifanbgcakaaGreatDoor.Al
open Go.ChangeShapes Go.WideShapes Go.ChangeAt Go.RowKit
open _root_.Go.Proofs.YteccifanbgcakaaGreatDoor.Op
set_option maxRecDepth 20000

/-- A Load or a Store that is an operation. -/
def memO (o : O) : Bool := (o.op == 15 || o.op == 16) && okO o
def oz : O := ⟨0, 0, 0, 0, 0⟩
def atL (xs : List O) (i : Int) : O := (xs[i.toNat]?).getD oz
def inL (xs : List O) (i : Int) : Bool := decide (0 ≤ i) && decide (i < xs.length)
def memB (xs : List O) (i : Int) : Bool := inL xs i && memO (atL xs i)
def pairB (xs : List O) (i j : Int) : Bool := memB xs i && memB xs j && ((atL xs i).op == 16 || (atL xs j).op == 16)
/-- Does an operation write a register? -/
def wt (r : Int) (o : O) : Bool := o.d == r && !(o.op == 16) && wrB o
def wtL (st : List O) (r : Int) : Bool := st.any (wt r)
def may (a b : O) (st : List O) : Bool := !(a.a == b.a) || (a.im % 256 == b.im % 256) || wtL st a.a
def cut (xs : List O) (i j : Int) : List O := (xs.drop i.toNat).take (j.toNat - i.toNat)
def meetB (xs : List O) (i j : Int) : Bool := decide (i < j) && pairB xs i j && may (atL xs i) (atL xs j) (cut xs i j)
def roundB (xs : List O) (i j : Int) : Bool := pairB xs i j && may (atL xs i) (atL xs j) xs

theorem atL_at {xs : List O} {k : Nat} (h : k < xs.length) : atL xs (k : Int) = xs[k] := by
  unfold atL
  rw [Int.toNat_natCast, List.getElem?_eq_getElem h]
  rfl
theorem inL_iff {xs : List O} {i : Int} : inL xs i = true ↔ ∃ k : Nat, k < xs.length ∧ i = k := by
  unfold inL
  simp only [Bool.and_eq_true, decide_eq_true_eq]
  constructor
  · rintro ⟨h1, h2⟩
    exact ⟨i.toNat, by omega, by omega⟩
  · rintro ⟨k, h1, rfl⟩
    omega
theorem memB_no {xs : List O} {i : Int} (h : inL xs i = false) : memB xs i = false := by unfold memB; rw [h]; rfl
theorem memB_at {xs : List O} {k : Nat} (h : k < xs.length) : memB xs (k : Int) = memO xs[k] := by
  unfold memB
  rw [atL_at h, inL_iff.2 ⟨k, h, rfl⟩]
  rfl
theorem memB_in {xs : List O} {i : Int} (h : memB xs i = true) : ∃ k : Nat, k < xs.length ∧ i = k := by
  unfold memB at h
  simp only [Bool.and_eq_true] at h
  exact inL_iff.1 h.1
theorem cut_sub {xs : List O} {i j : Int} {o : O} (h : o ∈ cut xs i j) : o ∈ xs := List.mem_of_mem_drop (List.mem_of_mem_take h)
/-! ### cells that are touched -/
/-- Which cell is meant. -/
def cellN (a im : Int) : Int := (a + im) % 256
def cellC (o : O) (R : Nat → Int) : Int := if memO o then cellN (R o.a.toNat) o.im else -1
/-- A row of cells, with the registers ahead of each operation. -/
structure Rg (xs : List O) (r0 : Nat → Int) (row : List Int) (R : Nat → Nat → Int) : Prop where
  len : row.length ≤ xs.length
  c : ∀ (i : Nat) (h : i < row.length), row[i] = cellC (xs[i]'(Nat.lt_of_lt_of_le h len)) (R i)
  a : ∀ i, i ≤ row.length → ∀ r : Int, 0 ≤ r → wtL xs r = false → R i r.toNat = r0 r.toNat
  b : ∀ i j, i ≤ j → j ≤ row.length → ∀ r : Int, 0 ≤ r → wtL (cut xs i j) r = false → R i r.toNat = R j r.toNat
theorem Rg.start (xs : List O) (r0 R : Nat → Int) (h : ∀ r : Int, 0 ≤ r → wtL xs r = false → R r.toNat = r0 r.toNat) : Rg xs r0 [] fun _ => R :=
  ⟨Nat.zero_le _, fun i h => by simp at h, fun i _ r hr hw => h r hr hw, fun _ _ _ _ _ _ _ => rfl⟩
theorem wtL_mem {xs : List O} {r : Int} (h : wtL xs r = false) {o : O} (ho : o ∈ xs) : wt r o = false := by
  unfold wtL at h
  cases e : wt r o
  · rfl
  · rw [List.any_eq_true.2 ⟨o, ho, e⟩] at h; cases h
theorem cut_succ {xs : List O} {i j : Nat} (hij : i ≤ j) (hj : j < xs.length) : cut xs (i : Int) ((j + 1 : Nat) : Int) = cut xs i j ++ [xs[j]] := by
  unfold cut
  simp only [Int.toNat_natCast]
  rw [show j + 1 - i = (j - i) + 1 by omega]
  have h : j - i < (xs.drop i).length := by simp; omega
  rw [List.take_succ_eq_append_getElem h]
  congr 1
  simp only [List.getElem_drop, List.cons.injEq, and_true]
  congr 1
  omega
theorem wtL_append {l m : List O} {r : Int} (h : wtL (l ++ m) r = false) : wtL l r = false ∧ wtL m r = false := by
  unfold wtL at *
  rw [List.any_append, Bool.or_eq_false_iff] at h
  exact h
/-- One operation more: registers that it does not write stay. -/
theorem Rg.next {xs : List O} {r0 : Nat → Int} {row : List Int} {R : Nat → Nat → Int} (h : Rg xs r0 row R) (hl : row.length < xs.length) (R' : Nat → Int)
    (hw : ∀ r : Int, 0 ≤ r → wt r xs[row.length] = false → R' r.toNat = R row.length r.toNat) :
    Rg xs r0 (row ++ [cellC xs[row.length] (R row.length)]) fun k => if k ≤ row.length then R k else R' := by
  have hlen : (row ++ [cellC xs[row.length] (R row.length)]).length = row.length + 1 := by simp
  refine ⟨by rw [hlen]; omega, fun i hi => ?_, fun i hi r hr hx => ?_, fun i j hij hj r hr hx => ?_⟩
  · rw [hlen] at hi
    have e : (if i ≤ row.length then R i else R') = R i := if_pos (by omega)
    show _ = cellC _ (if i ≤ row.length then R i else R')
    rw [e]
    by_cases hlt : i < row.length
    · rw [List.getElem_append_left hlt]; exact h.c i hlt
    · obtain rfl : i = row.length := by omega
      simp
  · rw [hlen] at hi
    show (if i ≤ row.length then R i else R') r.toNat = _
    by_cases hlt : i ≤ row.length
    · rw [if_pos hlt]; exact h.a i hlt r hr hx
    · rw [if_neg hlt, hw r hr (wtL_mem hx (List.getElem_mem hl))]
      exact h.a _ (Nat.le_refl _) r hr hx
  · rw [hlen] at hj
    show (if i ≤ row.length then R i else R') r.toNat = (if j ≤ row.length then R j else R') r.toNat
    by_cases hjl : j ≤ row.length
    · rw [if_pos hjl, if_pos (by omega)]; exact h.b i j hij hjl r hr hx
    · rw [if_neg hjl]
      obtain rfl : j = row.length + 1 := by omega
      by_cases hil : i ≤ row.length
      · rw [if_pos hil]
        rw [cut_succ hil hl] at hx
        obtain ⟨x1, x2⟩ := wtL_append hx
        rw [hw r hr (wtL_mem x2 (by simp))]
        exact h.b i _ hil (Nat.le_refl _) r hr x1
      · rw [if_neg hil]
end Go.Proofs.YteccifanbgcakaaGreatDoor.Al

namespace Go.Proofs.YteccifanbgcakaaGreatDoor.Al
open Go.ChangeShapes Go.WideShapes Go.ChangeAt Go.RowKit
open _root_.Go.Proofs.YteccifanbgcakaaGreatDoor.Op
set_option maxRecDepth 20000

theorem D_far : ∀ n : Nat, 15 < n → ∀ k, kindL[n]? = some k → k.D = false
  | 16, _, k, h | 17, _, k, h | 18, _, k, h | 19, _, k, h | 20, _, k, h | 21, _, k, h | 22, _, k, h | 23, _, k, h => by cases h; rfl
  | n + 24, _, k, h => by
    have : kindL[n + 24]? = none := List.getElem?_eq_none (show kindL.length ≤ n + 24 from Nat.le_add_left 24 n)
    rw [this] at h; cases h
theorem wr_far {o : O} (h : 15 < o.op) : wrB o = false := by
  unfold wrB
  cases e : kOf o.op with
  | none => rfl
  | some k =>
    show (okF k o && k.D) = false
    unfold kOf at e
    rw [if_pos (by omega)] at e
    rw [D_far o.op.toNat (by omega) k e]
    simp
theorem wt_far (r : Int) (o : O) : wt r o = (o.d == r && !(decide (15 < o.op)) && wrB o) := by
  unfold wt
  by_cases h : 15 < o.op
  · rw [wr_far h]; simp
  · have h2 : (o.op == 16) = false := by simp; omega
    rw [h2, show decide (15 < o.op) = false from decide_eq_false h]

theorem wt_any (r : Int) (o : O) (w : World) (ho : o.Ok) : Calls Tryz.prog 149 #[o.val, .int .u8 r] w fun e w' => e = .returned (.bool (wt r o)) ∧ Below w.heap.size w w' := by
  have HW : Hid _ := fun w => writes_any o w ho
  clear ho
  have hdef : wt r o = (o.d == r && !(decide (15 < o.op)) && wrB o) := wt_far r o
  rw [hdef]
  clear hdef
  cases h1 : o.d == r
  rotate_left
  · obtain rfl := beq_iff_eq.1 h1
    clear h1
    cases h2 : decide (15 < o.op)
    · have h2' : ¬ 15 < o.op := by simpa using h2
      go_enter Tryz.func149, Tryz.ntmps149
      go_wp2_with (first | (go_at_call 126; refine Calls.mono (HW.out _) ?_; rintro e w1 ⟨rfl, hb⟩; obtain ⟨-, hb0, hz⟩ := one_new w _ _ hb; have HB : Hid (Below w.heap.size w w1) := hb0; clear hb hb0))
      go_ret
      exact ⟨rfl, HB.out⟩
    · have h2' : 15 < o.op := by simpa using h2
      go_enter Tryz.func149, Tryz.ntmps149
      go_wp2
      go_ret
      exact ⟨rfl, by go_grown⟩
  · have h1' : ¬ o.d = r := by simpa using h1
    clear h1
    go_enter Tryz.func149, Tryz.ntmps149
    go_wp2
    go_ret
    exact ⟨rfl, by go_grown⟩

set_option maxHeartbeats 1000000 in
theorem written_any (ao : Option Addr) (cap c : Nat) (st : List O) (r : Int) (w : World) (h : OpsAt w ao st) (hc : w.cell? ⟨c, 0, none⟩ = some (.slice ao st.length cap)) :
    Calls Tryz.prog 148 #[.int .u8 r, .pointer (some ⟨c, 0, none⟩)] w fun e w' => e = .returned (.bool (wtL st r)) ∧ Below w.heap.size w w' := by
  have HA : Hid (OpsAt w ao st) := h
  have hlen := h.len
  clear h
  generalize hv : wtL st r = v
  have HV : Hid (wtL st r = v) := hv
  clear hv
  go_enter Tryz.func148, Tryz.ntmps148
  go_wp2_with fail
  go_loopw [8] (fun i wr => ∃ k : Nat, k ≤ st.length ∧ i = .int .i64 k ∧ Below w.heap.size w wr ∧ wtL (st.take k) r = false) (fun i _ => st.length - (intOf i).toNat)
  case atStart => exact ⟨0, by omega, rfl, Below.refl _ _, rfl⟩
  case round =>
    rename World => wr
    obtain ⟨k, hk, rfl, hbw, hno⟩ := hrel
    by_cases hlt : k < st.length
    · obtain ⟨b, f, rfl, hz, hx⟩ := HA.out.is (by omega)
      obtain ⟨c0, c1, c2, c3, c4⟩ := (hx k hlt).below hbw hz
      have hok := HA.out.ok _ (List.getElem_mem hlt)
      have hki : (k : Int) < st.length := by omega
      have HB : Hid (Below w.heap.size w wr) := hbw
      have HN : Hid (wtL (st.take (k + 1)) r = wt r st[k]) := by
        show wtL (st.take (k + 1)) r = wt r st[k]
        rw [List.take_succ_eq_append_getElem hlt]
        unfold wtL at hno ⊢
        rw [List.any_append, hno]
        simp
      have HT : Hid (wt r st[k] = true → wtL st r = true) := fun e => List.any_eq_true.2 ⟨_, List.getElem_mem hlt, e⟩
      clear hx hbw hno
      generalize st[k] = o at *
      have HC : Hid (∀ W, Calls Tryz.prog 149 #[o.val, .int .u8 r] W fun e w' => e = .returned (.bool (wt r o)) ∧ Below W.heap.size W w') := fun W => wt_any r o W hok
      clear hok
      cases hw : wt r o
      · rw [hw] at HC HN
        clear hw
        go_wp2_with (first | (go_at_call 149; refine Calls.mono (HC.out _) ?_; rintro e w1 ⟨rfl, hb⟩; obtain ⟨-, hb0, hz1⟩ := one_new wr _ _ hb; have HB1 : Hid (Below w.heap.size w w1) := HB.out.trans (hb0.mono HB.out.size); clear hb hb0))
        go_roundw
        case rel => exact ⟨k + 1, by omega, by go_num, HB1.out, HN.out⟩
        case measure => simp [intOf]; omega
      · have HT2 : Hid (wtL st r = true) := HT.out hw
        rw [hw] at HC
        clear hw HT
        go_wp2_with (first | (go_at_call 149; refine Calls.mono (HC.out _) ?_; rintro e w1 ⟨rfl, hb⟩; obtain ⟨-, hb0, hz1⟩ := one_new wr _ _ hb; have HB1 : Hid (Below w.heap.size w w1) := HB.out.trans (hb0.mono HB.out.size); clear hb hb0))
        go_ret
        exact ⟨by rw [← HV.out, HT2.out]; rfl, HB1.out⟩
    · obtain rfl : k = st.length := by omega
      rw [List.take_length] at hno
      have HN : Hid (wtL st r = false) := hno
      clear hno
      go_wp2_with fail
      go_ret
      exact ⟨by rw [← HV.out, HN.out]; rfl, hbw⟩

theorem writer_any (ao : Option Addr) (n c : Nat) (w : World) : Calls Tryz.prog 132 #[.slice ao n c] w fun e w' => e = .returned (.func (.func 148) #[] #[.pointer (some ⟨w.heap.size, 0, none⟩)]) ∧ w' = w.alloc (.cells #[.slice ao n c] 22) := by
  go_enter Tryz.func132, Tryz.ntmps132
  go_wp2_with fail
  go_ret
  exact ⟨rfl, rfl⟩

set_option maxHeartbeats 1000000 in
theorem mayBe_any (a b : O) (ao : Option Addr) (cap c : Nat) (st : List O) (w : World) (h : OpsAt w ao st) (hc : w.cell? ⟨c, 0, none⟩ = some (.slice ao st.length cap)) (hl : c < w.heap.size) :
    Calls Tryz.prog 131 #[a.val, b.val, .func (.func 148) #[] #[.pointer (some ⟨c, 0, none⟩)]] w fun e w' => e = .returned (.bool (may a b st)) ∧ Below w.heap.size w w' := by
  have HW : Hid (∀ W, Below w.heap.size w W → Calls Tryz.prog 148 #[.int .u8 a.a, .pointer (some ⟨c, 0, none⟩)] W fun e w' => e = .returned (.bool (wtL st a.a)) ∧ Below W.heap.size W w') := fun W hb => written_any ao cap c st a.a W (h.below hb) (by rw [(bcell hb).1 _ _ hl]; exact hc)
  clear h hc hl
  obtain ⟨p0, p1, x, p3, i1⟩ := a
  obtain ⟨q0, q1, y, q3, i2⟩ := b
  have hdef : may ⟨p0, p1, x, p3, i1⟩ ⟨q0, q1, y, q3, i2⟩ st = (!(x == y) || (i1 % 256 == i2 % 256) || wtL st x) := rfl
  rw [hdef]
  clear hdef
  by_cases h1 : x = y
  · subst h1
    by_cases h2 : i1 % 256 = i2 % 256
    · have e : (!(x == x) || (i1 % 256 == i2 % 256) || wtL st x) = true := by simp [h2]
      rw [e]
      clear e
      go_enter Tryz.func131, Tryz.ntmps131
      go_wp2_with fail
      go_ret
      exact ⟨rfl, by go_grown⟩
    · have e : (!(x == x) || (i1 % 256 == i2 % 256) || wtL st x) = wtL st x := by simp [h2]
      rw [e]
      clear e
      go_enter Tryz.func131, Tryz.ntmps131
      go_wp2_with (first | (go_at_call 148; refine Calls.mono (HW.out _ (by go_grown)) ?_; rintro e w1 ⟨rfl, hb⟩; obtain ⟨-, -, hb0, -, -⟩ := two_new w _ _ _ _ hb; have HB : Hid (Below w.heap.size w w1) := hb0; clear hb hb0))
      go_ret
      exact ⟨ret_bool (by simp [h2]), HB.out⟩
  · have e : (!(x == y) || (i1 % 256 == i2 % 256) || wtL st x) = true := by simp [h1]
    rw [e]
    clear e
    go_enter Tryz.func131, Tryz.ntmps131
    go_wp2_with fail
    go_ret
    exact ⟨rfl, by go_grown⟩
end Go.Proofs.YteccifanbgcakaaGreatDoor.Al

namespace Go.Proofs.YteccifanbgcakaaGreatDoor.Al
open Go.ChangeShapes Go.WideShapes Go.ChangeAt Go.RowKit
open _root_.Go.Proofs.YteccifanbgcakaaGreatDoor.Op
set_option maxRecDepth 20000

theorem ck_eq (o : O) : (ckE o == 0) = okO o := by unfold ckE; cases okO o <;> rfl
set_option maxHeartbeats 1000000 in
theorem isMem_any (ao : Option Addr) (cap : Nat) (xs : List O) (i : Int) (w : World) (h : OpsAt w ao xs) :
    Calls Tryz.prog 147 #[.slice ao xs.length cap, .int .i64 i] w fun e w' => e = .returned (.bool (memB xs i)) ∧ Below w.heap.size w w' := by
  cases hin : inL xs i
  · have hx : i < 0 ∨ (xs.length : Int) ≤ i := by
      unfold inL at hin
      simp at hin
      omega
    rw [memB_no hin]
    clear hin h
    rcases hx with hx | hx
    · go_enter Tryz.func147, Tryz.ntmps147
      go_wp2_with fail
      go_ret
      exact ⟨rfl, by go_grown⟩
    · by_cases h0 : i < 0
      · go_enter Tryz.func147, Tryz.ntmps147
        go_wp2_with fail
        go_ret
        exact ⟨rfl, by go_grown⟩
      · go_enter Tryz.func147, Tryz.ntmps147
        go_wp2_with fail
        go_ret
        exact ⟨rfl, by go_grown⟩
  · obtain ⟨k, hk, rfl⟩ := inL_iff.1 hin
    rw [memB_at hk]
    obtain ⟨b, f, rfl, hz, hx⟩ := h.is (by omega)
    obtain ⟨c0, c1, c2, c3, c4⟩ := hx k hk
    have hok := h.ok _ (List.getElem_mem hk)
    have hlen := h.len
    have hki : (k : Int) < xs.length := by omega
    have hk0 : ¬ (k : Int) < 0 := by omega
    clear h hx hin
    generalize xs[k] = o at *
    have HC : Hid (∀ W, Calls Tryz.prog 84 #[o.val] W fun e w' => e = .returned (.int .i64 (ckE o)) ∧ Below W.heap.size W w') := fun W => check_any o W hok
    have hdef : memO o = ((o.op == 15 || o.op == 16) && (ckE o == 0)) := by unfold memO; rw [ck_eq]
    rw [hdef]
    clear hdef hok
    by_cases h15 : o.op = 15
    · obtain ⟨p0, p1, x, p3, i1⟩ := o
      simp only at h15
      subst h15
      go_enter Tryz.func147, Tryz.ntmps147
      go_wp2_with (first | (go_at_call 84; refine Calls.mono (HC.out _) ?_; rintro e w1 ⟨rfl, hb⟩; obtain ⟨-, hb0, hz1⟩ := one_new w _ _ hb; have HB : Hid (Below w.heap.size w w1) := hb0; clear hb hb0))
      go_ret
      exact ⟨ret_bool (by simp), HB.out⟩
    · by_cases h16 : o.op = 16
      · obtain ⟨p0, p1, x, p3, i1⟩ := o
        simp only at h16
        subst h16
        clear h15
        go_enter Tryz.func147, Tryz.ntmps147
        go_wp2_with (first | (go_at_call 84; refine Calls.mono (HC.out _) ?_; rintro e w1 ⟨rfl, hb⟩; obtain ⟨-, hb0, hz1⟩ := one_new w _ _ hb; have HB : Hid (Below w.heap.size w w1) := hb0; clear hb hb0))
        go_ret
        exact ⟨ret_bool (by simp), HB.out⟩
      · have e1 : ((o.op == 15 || o.op == 16) && (ckE o == 0)) = false := by simp [h15, h16]
        rw [e1]
        have g1 : (o.op == 15) = false := by simpa using h15
        have g2 : (o.op == 16) = false := by simpa using h16
        clear e1
        go_enter Tryz.func147, Tryz.ntmps147
        go_wp2_with fail
        go_ret
        exact ⟨rfl, by go_grown⟩

set_option maxHeartbeats 1000000 in
theorem isPair_any (ao : Option Addr) (cap : Nat) (xs : List O) (i j : Int) (w : World) (h : OpsAt w ao xs) :
    Calls Tryz.prog 130 #[.slice ao xs.length cap, .int .i64 i, .int .i64 j] w fun e w' => e = .returned (.bool (pairB xs i j)) ∧ Below w.heap.size w w' := by
  have HI : Hid (∀ W, Below w.heap.size w W → Calls Tryz.prog 147 #[.slice ao xs.length cap, .int .i64 i] W fun e w' => e = .returned (.bool (memB xs i)) ∧ Below W.heap.size W w') := fun W hb => isMem_any ao cap xs i W (h.below hb)
  have HJ : Hid (∀ W, Below w.heap.size w W → Calls Tryz.prog 147 #[.slice ao xs.length cap, .int .i64 j] W fun e w' => e = .returned (.bool (memB xs j)) ∧ Below W.heap.size W w') := fun W hb => isMem_any ao cap xs j W (h.below hb)
  have hdef : pairB xs i j = (memB xs i && memB xs j && ((atL xs i).op == 16 || (atL xs j).op == 16)) := rfl
  rw [hdef]
  clear hdef
  cases hi : memB xs i
  · rw [hi] at HI
    clear h hi
    go_enter Tryz.func130, Tryz.ntmps130
    go_wp2_with (first | (go_at_call 147; refine Calls.mono (HI.out _ (Below.refl _ _)) ?_; rintro e w1 ⟨rfl, hb⟩))
    go_ret
    exact ⟨rfl, hb⟩
  · cases hj : memB xs j
    · rw [hi] at HI
      rw [hj] at HJ
      clear h hi hj
      go_enter Tryz.func130, Tryz.ntmps130
      go_wp2_with (first | (go_at_call 147; refine Calls.mono (HI.out _ (Below.refl _ _)) ?_; rintro e w1 ⟨rfl, hb⟩; have HB : Hid (Below w.heap.size w w1) := hb; clear hb HI) | (go_at_call 147; refine Calls.mono (HJ.out _ HB.out) ?_; rintro e w2 ⟨rfl, hb⟩; have HB2 : Hid (Below w.heap.size w w2) := HB.out.trans (hb.mono HB.out.size); clear hb HJ))
      go_ret
      exact ⟨rfl, HB2.out⟩
    · rw [hi] at HI
      rw [hj] at HJ
      obtain ⟨k, hk, rfl⟩ := memB_in hi
      obtain ⟨m, hm, rfl⟩ := memB_in hj
      rw [atL_at hk, atL_at hm]
      obtain ⟨b, f, rfl, hz, hx⟩ := h.is (by omega)
      have hki : (k : Int) < xs.length := by omega
      have hmi : (m : Int) < xs.length := by omega
      have HX : Hid (∀ W, Below w.heap.size w W → W.cell? ⟨b, f + k * 5, none⟩ = some (.int .i8 xs[k].op) ∧ W.cell? ⟨b, f + m * 5, none⟩ = some (.int .i8 xs[m].op)) := fun W hb => ⟨((hx k hk).below hb hz).c0, ((hx m hm).below hb hz).c0⟩
      have hlen := h.len
      clear h hi hj hx
      generalize xs[k].op = x at *
      generalize xs[m].op = y at *
      cases hx16 : x == 16
      all_goals
        go_enter Tryz.func130, Tryz.ntmps130
        go_wp2_with (first | (go_at_call 147; refine Calls.mono (HI.out _ (Below.refl _ _)) ?_; rintro e w1 ⟨rfl, hb⟩; have HB : Hid (Below w.heap.size w w1) := hb; clear hb HI) | (go_at_call 147; refine Calls.mono (HJ.out _ HB.out) ?_; rintro e w2 ⟨rfl, hb⟩; have HB2 : Hid (Below w.heap.size w w2) := HB.out.trans (hb.mono HB.out.size); obtain ⟨x0, y0⟩ := HX.out w2 HB2.out; clear hb HJ))
        go_ret
        exact ⟨ret_bool (by simp), HB2.out⟩
end Go.Proofs.YteccifanbgcakaaGreatDoor.Al

namespace Go.Proofs.YteccifanbgcakaaGreatDoor.Al
open Go.ChangeShapes Go.WideShapes Go.ChangeAt Go.RowKit
open _root_.Go.Proofs.YteccifanbgcakaaGreatDoor.Op
set_option maxRecDepth 20000

theorem pair_in {xs : List O} {i j : Int} (h : pairB xs i j = true) : ∃ k m : Nat, k < xs.length ∧ m < xs.length ∧ i = k ∧ j = m := by
  unfold pairB at h
  simp only [Bool.and_eq_true] at h
  obtain ⟨k, hk, rfl⟩ := memB_in h.1.1
  obtain ⟨m, hm, rfl⟩ := memB_in h.1.2
  exact ⟨k, m, hk, hm, rfl, rfl⟩
set_option maxHeartbeats 4000000 in
theorem round_any (ao : Option Addr) (cap : Nat) (xs : List O) (i j : Int) (w : World) (h : OpsAt w ao xs) :
    Calls Tryz.prog 89 #[.slice ao xs.length cap, .int .i64 i, .int .i64 j] w fun e w' => e = .returned (.bool (roundB xs i j)) ∧ Below w.heap.size w w' := by
  have HP : Hid (Calls Tryz.prog 130 #[.slice ao xs.length cap, .int .i64 i, .int .i64 j] w fun e w' => e = .returned (.bool (pairB xs i j)) ∧ Below w.heap.size w w') := isPair_any ao cap xs i j w h
  have hdef : roundB xs i j = (pairB xs i j && may (atL xs i) (atL xs j) xs) := rfl
  rw [hdef]
  clear hdef
  cases hp : pairB xs i j
  · rw [hp] at HP
    clear h hp
    go_enter Tryz.func89, Tryz.ntmps89
    go_wp2_with (first | (go_at_call 130; refine Calls.mono HP.out ?_; rintro e w1 ⟨rfl, hb⟩))
    go_ret
    exact ⟨rfl, hb⟩
  · rw [hp] at HP
    obtain ⟨k, m, hk, hm, rfl, rfl⟩ := pair_in hp
    rw [atL_at hk, atL_at hm]
    obtain ⟨b, f, rfl, hz, hx⟩ := h.is (by omega)
    have hki : (k : Int) < xs.length := by omega
    have hmi : (m : Int) < xs.length := by omega
    have hlen := h.len
    have HX : Hid (∀ W, Below w.heap.size w W → OAt W b (f + k * 5) xs[k] ∧ OAt W b (f + m * 5) xs[m]) := fun W hb => ⟨(hx k hk).below hb hz, (hx m hm).below hb hz⟩
    have HM : Hid (∀ W c, Below w.heap.size w W → W.cell? ⟨c, 0, none⟩ = some (.slice (some ⟨b, f, none⟩) xs.length cap) → c < W.heap.size → Calls Tryz.prog 131 #[xs[k].val, xs[m].val, .func (.func 148) #[] #[.pointer (some ⟨c, 0, none⟩)]] W fun e w' => e = .returned (.bool (may xs[k] xs[m] xs)) ∧ Below W.heap.size W w') := fun W c hb h1 h2 => mayBe_any _ _ _ cap c xs W (h.below hb) h1 h2
    clear h hp hx
    generalize xs[k] = x at *
    generalize xs[m] = y at *
    go_enter Tryz.func89, Tryz.ntmps89
    go_wp2_with (first | (go_at_call 130; refine Calls.mono HP.out ?_; rintro e w1 ⟨rfl, hb⟩; have HB : Hid (Below w.heap.size w w1) := hb; clear hb HP))
    have HB : Hid (Below w.heap.size w w1.drew) := HB.out.drew
    have HX2 : Hid (∀ W, Below w.heap.size w W → W.cell? ⟨b, f + k * 5, none⟩ = some (.int .i8 x.op) ∧ W.cell? ⟨b, f + k * 5 + 1, none⟩ = some (.int .u8 x.d) ∧ W.cell? ⟨b, f + k * 5 + 2, none⟩ = some (.int .u8 x.a) ∧ W.cell? ⟨b, f + k * 5 + 3, none⟩ = some (.int .u8 x.b) ∧ W.cell? ⟨b, f + k * 5 + 4, none⟩ = some (.int .i64 x.im) ∧ W.cell? ⟨b, f + m * 5, none⟩ = some (.int .i8 y.op) ∧ W.cell? ⟨b, f + m * 5 + 1, none⟩ = some (.int .u8 y.d) ∧ W.cell? ⟨b, f + m * 5 + 2, none⟩ = some (.int .u8 y.a) ∧ W.cell? ⟨b, f + m * 5 + 3, none⟩ = some (.int .u8 y.b) ∧ W.cell? ⟨b, f + m * 5 + 4, none⟩ = some (.int .i64 y.im)) := fun W hb => ⟨(HX.out W hb).1.c0, (HX.out W hb).1.c1, (HX.out W hb).1.c2, (HX.out W hb).1.c3, (HX.out W hb).1.c4, (HX.out W hb).2.c0, (HX.out W hb).2.c1, (HX.out W hb).2.c2, (HX.out W hb).2.c3, (HX.out W hb).2.c4⟩
    clear HX
    go_region_held3 (fun w' => w'.cell? ⟨b, f + k * 5, none⟩ = some (.int .i8 x.op) ∧ w'.cell? ⟨b, f + k * 5 + 1, none⟩ = some (.int .u8 x.d) ∧ w'.cell? ⟨b, f + k * 5 + 2, none⟩ = some (.int .u8 x.a) ∧ w'.cell? ⟨b, f + k * 5 + 3, none⟩ = some (.int .u8 x.b) ∧ w'.cell? ⟨b, f + k * 5 + 4, none⟩ = some (.int .i64 x.im) ∧ w'.cell? ⟨b, f + m * 5, none⟩ = some (.int .i8 y.op) ∧ w'.cell? ⟨b, f + m * 5 + 1, none⟩ = some (.int .u8 y.d) ∧ w'.cell? ⟨b, f + m * 5 + 2, none⟩ = some (.int .u8 y.a) ∧ w'.cell? ⟨b, f + m * 5 + 3, none⟩ = some (.int .u8 y.b) ∧ w'.cell? ⟨b, f + m * 5 + 4, none⟩ = some (.int .i64 y.im))
      (first | exact HX2.out _ HB.out | go_keep)
      (first
       | (go_at_call 132; refine Calls.mono (writer_any _ _ _ _) ?_; rintro e w2 ⟨rfl, hw2⟩; have HC : Hid (w2.cell? ⟨w1.drew.heap.size, 0, none⟩ = some (.slice (some ⟨b, f, none⟩) xs.length cap) ∧ w1.drew.heap.size < w2.heap.size) := (by rw [hw2]; exact ⟨(At.new w1.drew #[.slice (some ⟨b, f, none⟩) xs.length cap] 22).c 0 _ rfl, (At.new w1.drew #[.slice (some ⟨b, f, none⟩) xs.length cap] 22).lt⟩); have HB : Hid (Below w.heap.size w w2) := (by rw [hw2]; exact HB.out.alloc HB.out.size _); clear hw2)
       | (go_at_call 131; refine Calls.mono (HM.out _ _ HB.out HC.out.1 HC.out.2) ?_; rintro e w3 ⟨rfl, hb⟩; have HB : Hid (Below w.heap.size w w3) := HB.out.trans (hb.mono HB.out.size); clear hb))
    go_wp2_with fail
    go_ret
    exact ⟨ret_bool (by simp), HB.out⟩
theorem ops_cut {w : World} {b f k m : Nat} {xs : List O} (h : OpsAt w (some ⟨b, f, none⟩) xs) (hkm : k < m) (hm : m < xs.length) : OpsAt w (some ⟨b, f + k * 5, none⟩) (cut xs k m) := by
  have hkl : (cut xs (k : Int) (m : Int)).length = m - k := by unfold cut; simp; omega
  refine ⟨fun o ho => h.ok o (cut_sub ho), by have := h.len; omega, fun _ => ?_⟩
  obtain ⟨b', f', e, hz, hx⟩ := h.is (by omega)
  cases e
  refine ⟨b, f + k * 5, rfl, hz, fun i hi => ?_⟩
  have hi' : k + i < xs.length := by omega
  have e1 : (cut xs (k : Int) (m : Int))[i] = xs[k + i] := by unfold cut; simp
  have := hx (k + i) hi'
  rw [show f + (k + i) * 5 = f + k * 5 + i * 5 by omega] at this
  rw [e1]; exact this
set_option maxHeartbeats 4000000 in
theorem meet_any (ao : Option Addr) (cap : Nat) (xs : List O) (i j : Int) (w : World) (h : OpsAt w ao xs) (hcap : xs.length ≤ cap) :
    Calls Tryz.prog 87 #[.slice ao xs.length cap, .int .i64 i, .int .i64 j] w fun e w' => e = .returned (.bool (meetB xs i j)) ∧ Below w.heap.size w w' := by
  have HP : Hid (Calls Tryz.prog 130 #[.slice ao xs.length cap, .int .i64 i, .int .i64 j] w fun e w' => e = .returned (.bool (pairB xs i j)) ∧ Below w.heap.size w w') := isPair_any ao cap xs i j w h
  have hdef : meetB xs i j = (decide (i < j) && pairB xs i j && may (atL xs i) (atL xs j) (cut xs i j)) := rfl
  rw [hdef]
  clear hdef
  by_cases hij : i < j
  rotate_left
  · rw [decide_eq_false hij]
    have hij2 : j ≤ i := by omega
    clear h HP hij
    go_enter Tryz.func87, Tryz.ntmps87
    go_wp2_with fail
    go_ret
    exact ⟨rfl, Below.refl _ _⟩
  rw [decide_eq_true hij]
  cases hp : pairB xs i j
  · rw [hp] at HP
    clear h hp
    go_enter Tryz.func87, Tryz.ntmps87
    go_wp2_with (first | (go_at_call 130; refine Calls.mono HP.out ?_; rintro e w1 ⟨rfl, hb⟩))
    go_ret
    exact ⟨rfl, hb⟩
  · rw [hp] at HP
    obtain ⟨k, m, hk, hm, rfl, rfl⟩ := pair_in hp
    rw [atL_at hk, atL_at hm]
    obtain ⟨b, f, rfl, hz, hx⟩ := h.is (by omega)
    have hki : (k : Int) < xs.length := by omega
    have hmi : (m : Int) < xs.length := by omega
    have hlen := h.len
    have HX : Hid (∀ W, Below w.heap.size w W → OAt W b (f + k * 5) xs[k] ∧ OAt W b (f + m * 5) xs[m]) := fun W hb => ⟨(hx k hk).below hb hz, (hx m hm).below hb hz⟩
    have hkm : k < m := by omega
    have hi0 : (0 : Int) ≤ (k : Int) := by omega
    have hi1 : (k : Int) ≤ (m : Int) := by omega
    have hi2 : (m : Int) ≤ (cap : Int) := by omega
    have hi3 : ¬ cap = k := by omega
    have hkl : (cut xs (k : Int) (m : Int)).length = m - k := by unfold cut; simp; omega
    have HM : Hid (∀ W c, Below w.heap.size w W → W.cell? ⟨c, 0, none⟩ = some (.slice (some ⟨b, f + k * 5, none⟩) (m - k) (cap - k)) → c < W.heap.size → Calls Tryz.prog 131 #[xs[k].val, xs[m].val, .func (.func 148) #[] #[.pointer (some ⟨c, 0, none⟩)]] W fun e w' => e = .returned (.bool (may xs[k] xs[m] (cut xs k m))) ∧ Below W.heap.size W w') := fun W c hb h1 h2 => mayBe_any _ _ _ (cap - k) c (cut xs k m) W (ops_cut (h.below hb) hkm hm) (by rw [hkl]; exact h1) h2
    clear h hp hx hkl
    generalize hcut : cut xs (k : Int) (m : Int) = st at *
    clear hcut
    generalize xs[k] = x at *
    generalize xs[m] = y at *
    go_enter Tryz.func87, Tryz.ntmps87
    go_wp2_with (first | (go_at_call 130; refine Calls.mono HP.out ?_; rintro e w1 ⟨rfl, hb⟩; have HB : Hid (Below w.heap.size w w1) := hb; clear hb HP))
    have HB : Hid (Below w.heap.size w w1.drew) := HB.out.drew
    have HX2 : Hid (∀ W, Below w.heap.size w W → W.cell? ⟨b, f + k * 5, none⟩ = some (.int .i8 x.op) ∧ W.cell? ⟨b, f + k * 5 + 1, none⟩ = some (.int .u8 x.d) ∧ W.cell? ⟨b, f + k * 5 + 2, none⟩ = some (.int .u8 x.a) ∧ W.cell? ⟨b, f + k * 5 + 3, none⟩ = some (.int .u8 x.b) ∧ W.cell? ⟨b, f + k * 5 + 4, none⟩ = some (.int .i64 x.im) ∧ W.cell? ⟨b, f + m * 5, none⟩ = some (.int .i8 y.op) ∧ W.cell? ⟨b, f + m * 5 + 1, none⟩ = some (.int .u8 y.d) ∧ W.cell? ⟨b, f + m * 5 + 2, none⟩ = some (.int .u8 y.a) ∧ W.cell? ⟨b, f + m * 5 + 3, none⟩ = some (.int .u8 y.b) ∧ W.cell? ⟨b, f + m * 5 + 4, none⟩ = some (.int .i64 y.im)) := fun W hb => ⟨(HX.out W hb).1.c0, (HX.out W hb).1.c1, (HX.out W hb).1.c2, (HX.out W hb).1.c3, (HX.out W hb).1.c4, (HX.out W hb).2.c0, (HX.out W hb).2.c1, (HX.out W hb).2.c2, (HX.out W hb).2.c3, (HX.out W hb).2.c4⟩
    clear HX
    go_region_held3 (fun w' => w'.cell? ⟨b, f + k * 5, none⟩ = some (.int .i8 x.op) ∧ w'.cell? ⟨b, f + k * 5 + 1, none⟩ = some (.int .u8 x.d) ∧ w'.cell? ⟨b, f + k * 5 + 2, none⟩ = some (.int .u8 x.a) ∧ w'.cell? ⟨b, f + k * 5 + 3, none⟩ = some (.int .u8 x.b) ∧ w'.cell? ⟨b, f + k * 5 + 4, none⟩ = some (.int .i64 x.im) ∧ w'.cell? ⟨b, f + m * 5, none⟩ = some (.int .i8 y.op) ∧ w'.cell? ⟨b, f + m * 5 + 1, none⟩ = some (.int .u8 y.d) ∧ w'.cell? ⟨b, f + m * 5 + 2, none⟩ = some (.int .u8 y.a) ∧ w'.cell? ⟨b, f + m * 5 + 3, none⟩ = some (.int .u8 y.b) ∧ w'.cell? ⟨b, f + m * 5 + 4, none⟩ = some (.int .i64 y.im))
      (first | exact HX2.out _ HB.out | go_keep)
      (first
       | (go_at_call 132; refine Calls.mono (writer_any _ _ _ _) ?_; rintro e w2 ⟨rfl, hw2⟩; have HC : Hid (w2.cell? ⟨w1.drew.heap.size, 0, none⟩ = some (.slice (some ⟨b, f + k * 5, none⟩) (m - k) (cap - k)) ∧ w1.drew.heap.size < w2.heap.size) := (by rw [hw2]; exact ⟨(At.new w1.drew #[.slice (some ⟨b, f + k * 5, none⟩) (m - k) (cap - k)] 22).c 0 _ rfl, (At.new w1.drew #[.slice (some ⟨b, f + k * 5, none⟩) (m - k) (cap - k)] 22).lt⟩); have HB : Hid (Below w.heap.size w w2) := (by rw [hw2]; exact HB.out.alloc HB.out.size _); clear hw2)
       | (go_at_call 131; refine Calls.mono (HM.out _ _ HB.out HC.out.1 HC.out.2) ?_; rintro e w3 ⟨rfl, hb⟩; have HB : Hid (Below w.heap.size w w3) := HB.out.trans (hb.mono HB.out.size); clear hb))
    go_wp2_with fail
    go_ret
    exact ⟨ret_bool (by simp), HB.out⟩
end Go.Proofs.YteccifanbgcakaaGreatDoor.Al
