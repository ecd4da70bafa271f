/- What the lines of a program are, and how long: plain mathematics; show's digits and register, putOps: read off the program by the walk. Conditions: the table of powers lies in memory as the library lays it. -/
import Derived.Test.YthjpddjfckdefaaGreatDoorSb
import Derived.Test.YthjpddjfckdefaaGreatDoorTe
import Derived.Test.YthjpddjfckdefaaGreatDoorPk
namespace Go.Proofs.YthjpddjfckdefaaGreatDoor.Op
open Go.ChangeShapes Go.WideShapes Go.ChangeAt Go.RowKit
set_option maxRecDepth 20000

/-- An operation's text, a line of it, lines of many. -/
def opL (o : O) : List UInt8 := match kOf o.op with | some k => textL k o | none => []
def linesL (bl : List UInt8) (xs : List O) : List UInt8 := xs.flatMap fun o => bl ++ opL o ++ [10]
theorem linesL_nil (bl : List UInt8) : linesL bl [] = [] := rfl
theorem linesL_take (bl : List UInt8) (xs : List O) (k : Nat) (h : k < xs.length) : linesL bl (xs.take (k + 1)) = linesL bl (xs.take k) ++ (bl ++ opL xs[k] ++ [10]) := by
  unfold linesL
  rw [List.take_succ_eq_append_getElem h, List.flatMap_append]; simp
theorem join_one (x : List UInt8) : joinL [x] = x := by simp [joinL, Lib.join]
theorem opL_len (o : O) (ho : o.Ok) : (opL o).length ≤ 94 := by
  unfold opL
  cases hk : kOf o.op with
  | none => simp
  | some k => exact text_len k o ho (name_len hk)
theorem linesL_len (bl : List UInt8) (xs : List O) (ho : ∀ o ∈ xs, o.Ok) : (linesL bl xs).length ≤ xs.length * (bl.length + 95) := by
  induction xs with
  | nil => simp [linesL]
  | cons o r ih =>
    have h1 := ih (fun x hx => ho x (List.mem_cons_of_mem _ hx))
    have h2 := opL_len o (ho o (List.mem_cons_self ..))
    rw [show linesL bl (o :: r) = (bl ++ opL o ++ [10]) ++ linesL bl r by simp [linesL]]
    simp only [List.length_append, List.length_cons, List.length_nil]
    rw [Nat.add_mul]; omega
theorem linesL_le (bl : List UInt8) (xs : List O) (k : Nat) : (linesL bl (xs.take k)).length ≤ (linesL bl xs).length := by
  have h : linesL bl xs = linesL bl (xs.take k) ++ linesL bl (xs.drop k) := by
    unfold linesL
    rw [← List.flatMap_append, List.take_append_drop]
  rw [h, List.length_append]; omega
/-- show.digits, show.register -/
theorem showDigits_any (n : Int) (w : World) (hE : Pow w) (h0 : -9223372036854775808 ≤ n) (h1 : n ≤ 9223372036854775807) :
    Calls Tryz.prog 20 #[.int .i64 n] w fun e w' => e = .returned (.string ⟨(Lib.itoa n).toArray⟩) ∧ Below w.heap.size w w' := by
  have H : Hid _ := Tryz.strconv_Itoa n h0 h1 w hE
  clear hE h0 h1
  go_enter Tryz.func20, Tryz.ntmps20
  go_wp2_with (first | (go_at_call 34; refine Calls.mono H.out ?_; rintro e w' ⟨rfl, k, os, rfl⟩))
  go_ret
  exact ⟨rfl, Lib.below_grow _ _ (Nat.le_refl _) _ _⟩
theorem showRegister_any (n : Int) (w : World) (hE : Pow w) (h0 : 0 ≤ n) (h1 : n ≤ 255) :
    Calls Tryz.prog 36 #[.int .u8 n] w fun e w' => e = .returned (.string ⟨(114 :: Lib.itoa n).toArray⟩) ∧ Below w.heap.size w w' := by
  have H : Hid _ := showDigits_any n w hE (by omega) (by omega)
  have hl := itoa_len n (by omega) (by omega)
  obtain ⟨c, hc, hz, hr⟩ := cat_rule ⟨#[114]⟩ (itS n) 1 20 (by decide) (by rw [itS, ba_size]; exact hl) (by omega)
  have hcr : c = ⟨(114 :: Lib.itoa n).toArray⟩ := ba_eq (by rw [hc]; simp [itS])
  rw [hcr] at hr
  unfold itS at hr
  clear hE hl hc hz hcr
  go_enter Tryz.func36, Tryz.ntmps36
  go_wp2_with (first | (go_at_call 20; refine Calls.mono H.out ?_; rintro e w' ⟨rfl, hb⟩))
  go_ret
  exact ⟨rfl, hb⟩
abbrev putV (B : Nat) : Value := .func (.func 16) #[] #[.pointer (some ⟨B, 0, none⟩)]
theorem okO_text {o : O} (h : okO o = true) : ∃ k, kOf o.op = some k ∧ okF k o = true ∧ opL o = textL k o := by
  unfold okO at h
  cases hk : kOf o.op with
  | none => rw [hk] at h; cases h
  | some k => rw [hk] at h; exact ⟨k, rfl, h, by unfold opL; rw [hk]⟩
set_option maxHeartbeats 4000000 in
theorem putOps_any (w0 : World) (B : Nat) (l : List UInt8) (ah : ByteArray) (ao : Option Addr) (c : Nat) (xs : List O) (w : World) (hW : Below w0.heap.size w0 w) (hB0 : w0.heap.size ≤ B) (hO : OpsAt w0 ao xs) (hP : Pow w0) (hok : ∀ o ∈ xs, okO o = true) (hB : Bd B l w) (hl : (l ++ linesL ah.data.toList xs).length ≤ 1000000) (ha : ah.size ≤ 1000) :
    Calls Tryz.prog 21 #[.func (.func 16) #[] #[.pointer (some ⟨B, 0, none⟩)], .string ah, .slice ao xs.length c] w fun e w' => e = .returned (.tuple #[]) ∧ Bd B (l ++ linesL ah.data.toList xs) w' ∧ Kp B w w' := by
  have HO : Hid _ := hO
  have HP : Hid (Pow w0) := hP
  have HW : Hid _ := hW
  have HK : Hid _ := hok
  have hlen := hO.len
  have HL : Hid (∀ k, (l ++ linesL ah.data.toList (xs.take k)).length ≤ 1000000) := fun k => by
    have := linesL_le ah.data.toList xs k
    simp only [List.length_append] at hl ⊢; omega
  have HB0 : Hid (Bd B (l ++ linesL ah.data.toList (xs.take 0)) w) := by show Bd B _ w; simpa [linesL] using hB
  clear hO hP hW hB hl hok
  go_enter Tryz.func21, Tryz.ntmps21
  go_wp2
  go_loopw [12] (fun i wr => ∃ k : Nat, k ≤ xs.length ∧ i = .int .i64 k ∧ Bd B (l ++ linesL ah.data.toList (xs.take k)) wr ∧ Kp B w wr) (fun i _ => xs.length - (intOf i).toNat)
  case atStart => exact ⟨0, by omega, rfl, HB0.out, Kp.refl _ _⟩
  case round =>
    rename_i wr
    clear HB0
    obtain ⟨k, hk, rfl, hbd, hkp⟩ := hrel
    have HS : Hid (Bd B (l ++ linesL ah.data.toList (xs.take k)) wr ∧ Kp B w wr) := ⟨hbd, hkp⟩
    by_cases hlt : k < xs.length
    · have hBel : Below w0.heap.size w0 wr := HW.out.trans (hkp.b.mono hB0)
      have ho1 := HO.out.below hBel
      obtain ⟨b, f, rfl, hz, hat⟩ := ho1.is (by omega)
      obtain ⟨c0, c1, c2, c3, c4⟩ := hat k hlt
      have hoo := HO.out.ok xs[k] (List.getElem_mem hlt)
      obtain ⟨kk, hkk, hff, hop⟩ := okO_text (HK.out xs[k] (List.getElem_mem hlt))
      have htl := linesL_take ah.data.toList xs k hlt
      rw [hop] at htl
      have HT : Hid (∀ W, Below wr.heap.size wr W → Calls Tryz.prog 35 #[xs[k].val] W fun e w' => e = .returned (.tuple #[.string ⟨(textL kk xs[k]).toArray⟩, .int .i64 0]) ∧ Below W.heap.size W w') := fun W hb => text_yes xs[k] kk W (HP.out.bl (hBel.trans (hb.mono hBel.size))) hoo hkk hff
      have hxl := text_len kk xs[k] hoo (name_len hkk)
      have HPut : Hid (∀ W bk, Bd B (l ++ linesL ah.data.toList (xs.take k)) W → Hp W bk #[.string ⟨(textL kk xs[k]).toArray⟩] 9 → bk ≠ B → Calls Tryz.prog 16 #[.string ah, .slice (some ⟨bk, 0, none⟩) 1 1, .pointer (some ⟨B, 0, none⟩)] W fun e w' => e = .returned (.tuple #[]) ∧ Bd B (l ++ linesL ah.data.toList (xs.take (k + 1))) w' ∧ Kp B W w') := fun W bk hb hp hne => by
        have h := put_any B _ ah bk [textL kk xs[k]] W hb hp hne (HL.out k) ha (by rw [join_one]; omega) (by simp)
        rw [join_one] at h
        rw [htl, ← List.append_assoc, ← List.append_assoc, ← List.append_assoc]
        exact h
      unfold O.val at HT
      clear hbd hkp hBel ho1 hat hop hkk hff htl
      generalize textL kk xs[k] = tx at *
      generalize xs[k] = o at *
      go_wp2_with (first
        | (go_at_call 35; refine Calls.mono (HT.out _ ((Below.refl _ _).alloc (Nat.le_refl _) _)) ?_; rintro e w1 ⟨rfl, hb⟩; have hb2 : Below wr.heap.size wr w1 := ((Below.refl _ _).alloc (Nat.le_refl _) _).trans (hb.mono (by simp)); have HS1 : Hid (Bd B (l ++ linesL ah.data.toList (xs.take k)) (w1.alloc (.cells #[.string ⟨tx.toArray⟩] 9)) ∧ Kp B w (w1.alloc (.cells #[.string ⟨tx.toArray⟩] 9)) ∧ w1.heap.size ≠ B) := ⟨(HS.out.1.up hb2).up ((Below.refl _ _).alloc (Nat.le_refl _) _), (HS.out.2.up hb2 (Nat.le_of_lt HS.out.1.lt)).up ((Below.refl _ _).alloc (Nat.le_refl _) _) (Nat.le_of_lt (HS.out.1.up hb2).lt), (by have := (HS.out.1.up hb2).lt; omega)⟩; clear hb hb2 HT HS)
        | (go_at_call 16; refine Calls.mono (HPut.out _ _ HS1.out.1 (Hp.new w1 _ 9) HS1.out.2.2) ?_; rintro e w2 ⟨rfl, hb, hk2⟩; have HS2 : Hid (Bd B (l ++ linesL ah.data.toList (xs.take (k + 1))) w2 ∧ Kp B w w2) := ⟨hb, HS1.out.2.1.trans hk2⟩; clear hb hk2 HPut HS1))
      go_roundw
      case rel => exact ⟨k + 1, by omega, by go_num, HS2.out.1, HS2.out.2⟩
      case measure => simp [intOf]; omega
    · obtain rfl : k = xs.length := by omega
      clear hbd hkp
      go_wp2
      go_end0
      have h := HS.out
      rw [List.take_length] at h
      exact ⟨rfl, h.1, h.2⟩
end Go.Proofs.YthjpddjfckdefaaGreatDoor.Op
