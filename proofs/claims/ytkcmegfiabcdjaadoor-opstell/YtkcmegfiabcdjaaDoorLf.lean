/- The law OpsFew: an operation reads two registers at most, writes one at most, and its text says which, read off the program by the walk. Conditions: the table of powers lies in memory; the fields are numbers of their own width. -/
import Derived.Test.YtkcmegfiabcdjaaDoorWk
namespace Go.Proofs.YtkcmegfiabcdjaaDoor.Op
open Go.ChangeShapes Go.WideShapes Go.ChangeAt Go.RowKit
set_option maxRecDepth 20000

/-! ### how often a blank stands ahead of an r -/
def hit (a b : UInt8) : Nat := if a = 32 ∧ b = 114 then 1 else 0
def cntP : List UInt8 → Nat
  | a :: b :: r => hit a b + cntP (b :: r)
  | _ => 0
theorem cntP_none : ∀ l : List UInt8, (∀ b ∈ l, b ≠ 32) → cntP l = 0
  | [], _ => rfl
  | [_], _ => rfl
  | a :: b :: r, h => by
    have h1 : hit a b = 0 := by unfold hit; rw [if_neg]; exact fun e => h a (by simp) e.1
    rw [cntP, h1, cntP_none (b :: r) (fun x hx => h x (by simp at hx ⊢; right; exact hx))]
theorem cntP_app : ∀ (x y : List UInt8), y.head? ≠ some 114 → cntP (x ++ y) = cntP x + cntP y
  | [], y, _ => by simp [cntP]
  | [a], [], _ => by simp [cntP]
  | [a], b :: r, h => by
    have h1 : hit a b = 0 := by unfold hit; rw [if_neg]; intro e; exact h (by simp [e.2])
    simp [cntP, h1]
  | a :: b :: r, y, h => by
    have := cntP_app (b :: r) y h
    simp only [List.cons_append] at this ⊢
    rw [cntP, this, cntP]; omega
theorem dec_bytes : ∀ (u : Nat), ∀ b ∈ Lib.decDigits u, 48 ≤ b.toNat ∧ b.toNat ≤ 57 := by
  intro u
  induction u using Nat.strongRecOn with
  | _ u ih =>
    intro b hb
    rw [Lib.decDigits] at hb
    split at hb
    · simp at hb; subst hb
      simp [UInt8.toNat_ofNat']; omega
    · rw [List.mem_append] at hb
      rcases hb with hb | hb
      · exact ih (u / 10) (by omega) b hb
      · simp at hb; subst hb
        simp [UInt8.toNat_ofNat']; omega
theorem itoa_bytes (n : Int) : ∀ b ∈ Lib.itoa n, b ≠ 32 ∧ b ≠ 114 := by
  intro b hb
  have key : ∀ b : UInt8, 48 ≤ b.toNat ∧ b.toNat ≤ 57 → b ≠ 32 ∧ b ≠ 114 := fun b h => by
    constructor <;> (rintro rfl; simp at h)
  unfold Lib.itoa at hb
  split at hb
  · rw [List.mem_cons] at hb
    rcases hb with rfl | hb
    · decide
    · exact key b (dec_bytes _ b hb)
  · exact key b (dec_bytes _ b hb)
theorem cnt_reg (n : Int) : cntP (32 :: 114 :: Lib.itoa n) = 1 := by
  have h := cntP_none (114 :: Lib.itoa n) (fun b hb => by
    rw [List.mem_cons] at hb
    rcases hb with rfl | hb
    · decide
    · exact (itoa_bytes n b hb).1)
  rw [cntP, h]; rfl
theorem cnt_num (n : Int) : cntP (32 :: Lib.itoa n) = 0 := by
  have h := cntP_none (Lib.itoa n) (fun b hb => (itoa_bytes n b hb).1)
  have hb := itoa_bytes n
  generalize Lib.itoa n = l at *
  match l with
  | [] => rfl
  | b :: r =>
    have h1 : hit 32 b = 0 := by unfold hit; rw [if_neg]; exact fun e => (hb b (by simp)).2 e.2
    rw [cntP, h1, h]
def n1 (b : Bool) : Nat := if b then 1 else 0
theorem cnt_pD (k : K) (o : O) : cntP (pD k o) = n1 k.D := by unfold pD n1; split <;> first | exact cnt_reg _ | rfl
theorem cnt_pA (k : K) (o : O) : cntP (pA k o) = n1 k.A := by unfold pA n1; split <;> first | exact cnt_reg _ | rfl
theorem cnt_pB (k : K) (o : O) : cntP (pB k o) = n1 k.B := by unfold pB n1; split <;> first | exact cnt_reg _ | (split <;> first | exact cnt_num _ | rfl)
theorem cnt_pI (k : K) (o : O) : cntP (pI k o) = 0 := by unfold pI; split <;> first | exact cnt_num _ | rfl
theorem head_D (k : K) (o : O) : (pD k o).head? ≠ some 114 := by unfold pD; split <;> simp
theorem head_A (k : K) (o : O) : (pA k o).head? ≠ some 114 := by unfold pA; split <;> simp
theorem head_B (k : K) (o : O) : (pB k o).head? ≠ some 114 := by unfold pB; split <;> (try split) <;> simp
theorem head_I (k : K) (o : O) : (pI k o).head? ≠ some 114 := by unfold pI; split <;> simp
theorem name_cnt : (kindL.all fun k => cntP k.name == 0) = true := by decide
theorem cnt_text {d : Int} {k : K} (o : O) (h : kOf d = some k) : cntP (textL k o) = n1 k.D + n1 k.A + n1 k.B := by
  obtain ⟨n, hn, -, rfl⟩ := kOf_some h
  have h0 : cntP (kindL[n]'hn).name = 0 := by simpa using List.all_eq_true.1 name_cnt _ (List.getElem_mem (l := kindL) hn)
  unfold textL
  rw [cntP_app _ _ (head_I _ _), cntP_app _ _ (head_B _ _), cntP_app _ _ (head_A _ _), cntP_app _ _ (head_D _ _), h0, cnt_pD, cnt_pA, cnt_pB, cnt_pI]
  omega
theorem ba_all : (kindL.all fun k => !k.B || k.A) = true := by decide
theorem b_a {d : Int} {k : K} (h : kOf d = some k) (hA : k.A = false) : k.B = false := by
  obtain ⟨n, hn, -, rfl⟩ := kOf_some h
  have := List.all_eq_true.1 ba_all _ (List.getElem_mem (l := kindL) hn)
  simp [hA] at this
  exact this
theorem cnt_step (L : List UInt8) (i : Nat) (h : i + 1 < L.length) : cntP (L.drop i) = hit L[i] L[i + 1] + cntP (L.drop (i + 1)) := by
  rw [List.drop_eq_getElem_cons (show i < L.length by omega), List.drop_eq_getElem_cons h, cntP]
theorem cnt_end (L : List UInt8) (i : Nat) (h : L.length ≤ i + 1) : cntP (L.drop i) = 0 := by
  have hl : (L.drop i).length ≤ 1 := by simp; omega
  generalize L.drop i = l at *
  match l, hl with
  | [], _ => rfl
  | [_], _ => rfl

/-- Where the law stands: the operation's box, and what lay below. -/
def Lw (w0 : World) (o : O) (w : World) : Prop := At w w0.heap.size o.cells ∧ Below w0.heap.size w0 w
theorem Lw.on {w0 : World} {o : O} {w w' : World} (h : Lw w0 o w) (hb : Below w.heap.size w w') : Lw w0 o w' := ⟨h.1.below hb h.1.lt, h.2.trans (hb.mono h.2.size)⟩
theorem Lw.begin (w : World) (o : O) : Lw w o (w.alloc (.cells o.cells 24)) := ⟨At.new _ _ _, by go_grown⟩

set_option maxHeartbeats 2000000 in
theorem law_few_no (o : O) (w : World) (hE : Env w) (ho : o.Ok) (hO : okO o = false) : Calls Tryd.prog 6 #[o.val] w fun e w' => e = .returned (.bool true) ∧ Below w.heap.size w w' := by
  have HR : Hid _ := fun w => reads_no o w ho hO
  have HT : Hid _ := fun w => text_no o w ho hO
  have HC : Hid (∀ w, Calls Tryd.prog 13 #[o.val] w fun e w' => e = .returned (.int .i64 30) ∧ Below w.heap.size w w') := fun w => by have := check_any o w ho; rw [show ckE o = 30 by simp [ckE, hO]] at this; exact this
  have HW : Hid (∀ w, Calls Tryd.prog 9 #[o.val] w fun e w' => e = .returned (.tuple #[.int .u8 0, .bool false]) ∧ Below w.heap.size w w') := fun w => by
    have := writes_any o w ho
    rw [show wrD o = 0 by simp [wrD, wr_no hO], wr_no hO] at this; exact this
  have HE : Hid (Env w) := hE
  clear hE ho hO
  go_enter Tryd.func6, Tryd.ntmps6
  go_wp2_with (first | (go_at_call 16; refine Calls.mono (HR.out _) ?_; rintro e w1 ⟨rfl, hb⟩; have HS : Hid (Lw w o w1) := (Lw.begin w o).on hb; obtain ⟨o0, o1, o2, o3, o4⟩ := HS.out.1.o5; clear hb) | (go_at_call 9; refine Calls.mono (HW.out _) ?_; rintro e w1 ⟨rfl, hb⟩; have HS : Hid (Lw w o w1) := HS.out.on hb; obtain ⟨o0, o1, o2, o3, o4⟩ := HS.out.1.o5; clear hb) | (go_at_call 7; refine Calls.mono (HT.out _) ?_; rintro e w1 ⟨rfl, hb⟩; have HS : Hid (Lw w o w1) := HS.out.on hb; obtain ⟨o0, o1, o2, o3, o4⟩ := HS.out.1.o5; clear hb) | (go_at_call 13; refine Calls.mono (HC.out _) ?_; rintro e w1 ⟨rfl, hb⟩; have HS : Hid (Lw w o w1) := HS.out.on hb; obtain ⟨o0, o1, o2, o3, o4⟩ := HS.out.1.o5; clear hb) | (go_at_call 18; refine Calls.mono (wakes_any _ (HE.out.bl HS.out.2)) ?_; rintro e w1 ⟨rfl, hb⟩; have HS : Hid (Lw w o w1) := HS.out.on hb; clear hb))
  go_ret
  exact ⟨rfl, HS.out.2⟩

set_option maxHeartbeats 4000000 in
theorem law_few_yes (o : O) (k : K) (w : World) (hE : Env w) (ho : o.Ok) (hk : kOf o.op = some k) (hf : okF k o = true) : Calls Tryd.prog 6 #[o.val] w fun e w' => e = .returned (.bool true) ∧ Below w.heap.size w w' := by
  have hO : okO o = true := by rw [okO_some hk]; exact hf
  have HR : Hid _ := fun w => reads_yes o k w hk hf
  have HT : Hid (∀ w, Env w → Calls Tryd.prog 7 #[o.val] w fun e w' => e = .returned (.tuple #[.string ⟨(textL k o).toArray⟩, .int .i64 0]) ∧ Below w.heap.size w w') := fun w hE => text_yes o k w hE ho hk hf
  have HC : Hid (∀ w, Calls Tryd.prog 13 #[o.val] w fun e w' => e = .returned (.int .i64 0) ∧ Below w.heap.size w w') := fun w => by have := check_any o w ho; rw [show ckE o = 0 by simp [ckE, hO]] at this; exact this
  have HW : Hid (∀ w, Calls Tryd.prog 9 #[o.val] w fun e w' => e = .returned (.tuple #[.int .u8 (wrD o), .bool k.D]) ∧ Below w.heap.size w w') := fun w => by
    have := writes_any o w ho
    rw [wr_yes hk hf] at this; exact this
  have HE : Hid (Env w) := hE
  have HN : Hid (cntP (textL k o) = n1 k.D + n1 k.A + n1 k.B) := cnt_text o hk
  have HL : Hid ((textL k o).length ≤ 94) := text_len k o ho (name_len hk)
  have HBA : Hid (k.A = false → k.B = false) := b_a hk
  clear hE ho hO hk hf
  generalize hs : (⟨(textL k o).toArray⟩ : ByteArray) = S at *
  have hSL : S.data.toList = textL k o := by rw [← hs]
  have HSL : Hid (S.data.toList = textL k o) := hSL
  have hsz : S.size ≤ 94 := by rw [show S.size = S.data.toList.length from rfl, hSL]; exact HL.out
  clear hs hSL
  go_enter Tryd.func6, Tryd.ntmps6
  go_wp2_with (first | (go_at_call 16; refine Calls.mono (HR.out _) ?_; rintro e w1 ⟨blk, rfl, -, hb⟩; have HS : Hid (Lw w o w1) := (Lw.begin w o).on hb; obtain ⟨o0, o1, o2, o3, o4⟩ := HS.out.1.o5; clear hb) | (go_at_call 9; refine Calls.mono (HW.out _) ?_; rintro e w1 ⟨rfl, hb⟩; have HS : Hid (Lw w o w1) := HS.out.on hb; obtain ⟨o0, o1, o2, o3, o4⟩ := HS.out.1.o5; clear hb) | (go_at_call 7; refine Calls.mono (HT.out _ (HE.out.bl HS.out.2)) ?_; rintro e w1 ⟨rfl, hb⟩; have HS : Hid (Lw w o w1) := HS.out.on hb; obtain ⟨o0, o1, o2, o3, o4⟩ := HS.out.1.o5; clear hb) | (go_at_call 13; refine Calls.mono (HC.out _) ?_; rintro e w1 ⟨rfl, hb⟩; have HS : Hid (Lw w o w1) := HS.out.on hb; obtain ⟨o0, o1, o2, o3, o4⟩ := HS.out.1.o5; clear hb))
  go_loop [8, 9] (fun c i => ∃ n m : Nat, c = .int .i64 n ∧ i = .int .i64 m ∧ m ≤ S.size ∧ n ≤ m ∧ Hid (n + cntP (S.data.toList.drop m) = cntP S.data.toList)) (fun _ i => S.size - (intOf i).toNat)
  case atStart => exact ⟨0, 0, rfl, rfl, by omega, by omega, (by simp : 0 + cntP (S.data.toList.drop 0) = cntP S.data.toList)⟩
  case round =>
    obtain ⟨n, m, rfl, rfl, hm, hnm, Hcnt⟩ := hrel
    by_cases hlt : m + 1 < S.size
    · have hst := cnt_step S.data.toList m hlt
      have hm1 : m < S.size := by omega
      have hh : hit S.data.toList[m] S.data.toList[m + 1] = if ((((S[m].toNat : Int) == 32) && ((S[m + 1].toNat : Int) == 114)) = true) then 1 else 0 := by
        show hit S[m] S[m + 1] = _
        unfold hit
        congr 1
        simp only [Bool.and_eq_true, beq_iff_eq, ← UInt8.toNat_inj, eq_iff_iff]
        constructor
        · rintro ⟨e1, e2⟩; exact ⟨by rw [e1]; rfl, by rw [e2]; rfl⟩
        · rintro ⟨e1, e2⟩; exact ⟨by simp; omega, by simp; omega⟩
      rw [hh] at hst
      clear hh
      have i1 : (m : Int) + 1 < (S.size : Int) := by omega
      cases e1 : ((S[m].toNat : Int) == 32)
      rotate_left
      cases e2 : ((S[m + 1].toNat : Int) == 114)
      rotate_left
      · have HF : Hid (n + 1 + cntP (S.data.toList.drop (m + 1)) = cntP S.data.toList) := by
          have := Hcnt.out
          rw [hst, e1, e2] at this
          simp at this
          show _ = _
          omega
        clear hst Hcnt
        go_wp2
        go_round
        case rel => exact ⟨n + 1, m + 1, by go_num, by go_num, by omega, by omega, HF⟩
        case measure => simp [intOf]; omega
      · have HF : Hid (n + cntP (S.data.toList.drop (m + 1)) = cntP S.data.toList) := by
          have := Hcnt.out
          rw [hst, e1] at this
          simp at this
          show _ = _
          omega
        clear hst Hcnt
        go_wp2
        go_round
        case rel => exact ⟨n, m + 1, by go_num, by go_num, by omega, by omega, HF⟩
        case measure => simp [intOf]; omega
      · have HF : Hid (n + cntP (S.data.toList.drop (m + 1)) = cntP S.data.toList) := by
          have := Hcnt.out
          rw [hst, e1, e2] at this
          simp at this
          show _ = _
          omega
        clear hst Hcnt
        go_wp2
        go_round
        case rel => exact ⟨n, m + 1, by go_num, by go_num, by omega, by omega, HF⟩
        case measure => simp [intOf]; omega
    · have hend : n = cntP S.data.toList := by
        have := Hcnt.out
        rw [cnt_end _ _ (by rw [show S.data.toList.length = S.size from rfl]; omega)] at this
        omega
      rw [HSL.out, HN.out] at hend
      have hni : ¬ ((m : Int) + 1 < (S.size : Int)) := by omega
      clear Hcnt
      cases hA : k.A
      · have hB := HBA.out hA
        have hrc : rcN k o = 0 := by simp [rcN, hA]
        cases hD : k.D
        · obtain rfl : n = 0 := by rw [hend]; simp [n1, hA, hB, hD]
          clear hend hA hB
          go_wp2_with (first | (go_at_call 18; refine Calls.mono (wakes_any _ (HE.out.bl HS.out.2)) ?_; rintro e w1 ⟨rfl, hb⟩; have HS : Hid (Lw w o w1) := HS.out.on hb; clear hb))
          go_ret
          exact ⟨rfl, HS.out.2⟩
        · obtain rfl : n = 1 := by rw [hend]; simp [n1, hA, hB, hD]
          clear hend hA hB
          go_wp2_with (first | (go_at_call 18; refine Calls.mono (wakes_any _ (HE.out.bl HS.out.2)) ?_; rintro e w1 ⟨rfl, hb⟩; have HS : Hid (Lw w o w1) := HS.out.on hb; clear hb))
          go_ret
          exact ⟨rfl, HS.out.2⟩
      · cases hB : k.B
        · have hrc : rcN k o = 1 := by simp [rcN, hA, hB]
          cases hD : k.D
          · obtain rfl : n = 1 := by rw [hend]; simp [n1, hA, hB, hD]
            clear hend hA hB
            go_wp2_with (first | (go_at_call 18; refine Calls.mono (wakes_any _ (HE.out.bl HS.out.2)) ?_; rintro e w1 ⟨rfl, hb⟩; have HS : Hid (Lw w o w1) := HS.out.on hb; clear hb))
            go_ret
            exact ⟨rfl, HS.out.2⟩
          · obtain rfl : n = 2 := by rw [hend]; simp [n1, hA, hB, hD]
            clear hend hA hB
            go_wp2_with (first | (go_at_call 18; refine Calls.mono (wakes_any _ (HE.out.bl HS.out.2)) ?_; rintro e w1 ⟨rfl, hb⟩; have HS : Hid (Lw w o w1) := HS.out.on hb; clear hb))
            go_ret
            exact ⟨rfl, HS.out.2⟩
        · cases hE2 : (o.a == o.b)
          · have hrc : rcN k o = 2 := by simp [rcN, hA, hB, hE2]
            cases hD : k.D
            · obtain rfl : n = 2 := by rw [hend]; simp [n1, hA, hB, hD]
              clear hend hA hB
              go_wp2_with (first | (go_at_call 18; refine Calls.mono (wakes_any _ (HE.out.bl HS.out.2)) ?_; rintro e w1 ⟨rfl, hb⟩; have HS : Hid (Lw w o w1) := HS.out.on hb; clear hb))
              go_ret
              exact ⟨rfl, HS.out.2⟩
            · obtain rfl : n = 3 := by rw [hend]; simp [n1, hA, hB, hD]
              clear hend hA hB
              go_wp2_with (first | (go_at_call 18; refine Calls.mono (wakes_any _ (HE.out.bl HS.out.2)) ?_; rintro e w1 ⟨rfl, hb⟩; have HS : Hid (Lw w o w1) := HS.out.on hb; clear hb))
              go_ret
              exact ⟨rfl, HS.out.2⟩
          · have hrc : rcN k o = 1 := by simp [rcN, hA, hB, hE2]
            cases hD : k.D
            · obtain rfl : n = 2 := by rw [hend]; simp [n1, hA, hB, hD]
              clear hend hA hB
              go_wp2_with (first | (go_at_call 18; refine Calls.mono (wakes_any _ (HE.out.bl HS.out.2)) ?_; rintro e w1 ⟨rfl, hb⟩; have HS : Hid (Lw w o w1) := HS.out.on hb; clear hb))
              go_ret
              exact ⟨rfl, HS.out.2⟩
            · obtain rfl : n = 3 := by rw [hend]; simp [n1, hA, hB, hD]
              clear hend hA hB
              go_wp2_with (first | (go_at_call 18; refine Calls.mono (wakes_any _ (HE.out.bl HS.out.2)) ?_; rintro e w1 ⟨rfl, hb⟩; have HS : Hid (Lw w o w1) := HS.out.on hb; clear hb))
              go_ret
              exact ⟨rfl, HS.out.2⟩

theorem law_few (o : O) (w : World) (hE : Env w) (ho : o.Ok) : Calls Tryd.prog 6 #[o.val] w fun e w' => e = .returned (.bool true) ∧ Below w.heap.size w w' := by
  cases hO : okO o
  · exact law_few_no o w hE ho hO
  · cases hk : kOf o.op with
    | none => rw [okO_none hk] at hO; cases hO
    | some k => exact law_few_yes o k w hE ho hk (by rw [← okO_some hk]; exact hO)
end Go.Proofs.YtkcmegfiabcdjaaDoor.Op
