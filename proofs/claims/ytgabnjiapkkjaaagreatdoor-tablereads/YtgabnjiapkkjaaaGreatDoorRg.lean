/- What the document's own Text answers: the same bytes, read off the program by the walk. Conditions: none but the worlds'. -/
import Derived.Test.YtgabnjiapkkjaaaGreatDoorRf
namespace Go.Proofs.YtgabnjiapkkjaaaGreatDoor.Tb
open Go.ChangeShapes Go.WideShapes Go.ChangeAt Go.RowKit

set_option maxRecDepth 20000 in
theorem digit_any (n : Int) (w : World) (h0 : 0 ≤ n) (h9 : n ≤ 9) :
    Calls Tryz.prog 21 #[.int .i64 n] w fun e w' => e = .returned (.string (digS n)) ∧ Below w.heap.size w w' := by
  have hcv : (convert 47 9 (.slice (some ⟨w.heap.size, 0, none⟩) 1 1)).run Tryz.prog (w.alloc (.cells #[.int .u8 (48 + n)] 5)) = .ok (.string (digS n)) (w.alloc (.cells #[.int .u8 (48 + n)] 5)) :=
    run_convert_bytes_back (P := Tryz.prog) _ 47 9 5 ⟨w.heap.size, 0, none⟩ 1 [UInt8.ofNat (48 + n.toNat)] Tryz.underlying47 Tryz.underlying5 Tryz.underlying9 (fun j hj => by
      have hj0 : j = 0 := by simp at hj; omega
      subst hj0
      have e : ((UInt8.ofNat (48 + n.toNat)).toNat : Int) = 48 + n := by
        rw [UInt8.toNat_ofNat', Nat.mod_eq_of_lt (by omega)]; omega
      simp [Addr.add]
      omega)
  go_enter Tryz.func21, Tryz.ntmps21
  go_wp2
  go_ret
  exact ⟨rfl, (Below.refl _ _).alloc (Nat.le_refl _) _⟩

theorem refText_no (t : Tab) (w : World) (h : t.ok = false) :
    Calls Tryz.prog 8 #[t.val] w fun e w' => e = .returned (.tuple #[.string ⟨#[]⟩, .int .i64 20]) ∧ Below w.heap.size w w' := by
  have hr : ckR t = 20 := by simp [ckR, h]
  have hc := refCheck_any t (w.alloc (.cells t.cells 24))
  rw [hr] at hc
  unfold Tab.val at *
  have Hc : Hid _ := hc
  clear hc hr
  go_enter Tryz.func8, Tryz.ntmps8
  go_wp2_with (first | (go_at_call 10; refine Calls.mono Hc.out ?_; rintro e w' ⟨rfl, hb⟩))
  go_ret2
  exact ⟨rfl, ((Below.refl _ _).alloc (Nat.le_refl _) _).trans (hb.mono (by simp))⟩

theorem ba_eq {a : ByteArray} {l : List UInt8} (h : a.data.toList = l) : a = ⟨l.toArray⟩ := by
  cases a with | mk d => subst h; simp
theorem cat_rule (a b : ByteArray) (n m : Nat) (ha : a.size ≤ n) (hb : b.size ≤ m) (h : n + m ≤ 1000000) :
    ∃ c : ByteArray, c.data.toList = a.data.toList ++ b.data.toList ∧ c.size ≤ n + m ∧ ∀ (P : Program) (w : World), (Op.stringOp .add a b).run P w = .ok (.string c) w :=
  ⟨a ++ b, by rw [ByteArray.data_append, Array.toList_append], by rw [ByteArray.size_append]; omega, fun P w => run_string_add_sum (P := P) w a b (by omega)⟩
theorem nameS_size (k : Nat) : (nameS k).size ≤ 5 := nameL_len k
theorem digS_size (n : Int) : (digS n).size ≤ 1 := Nat.le_refl _
theorem sz_of {a : ByteArray} {l : List UInt8} {n : Nat} (h : a.data.toList = l) (hl : l.length ≤ n) : a.size ≤ n := by
  have e : a.size = a.data.toList.length := rfl
  rw [e, h]; exact hl
def linL (t : Tab) (k : Nat) : List UInt8 := nameL k ++ [32] ++ (digS (t.u k)).data.toList ++ [32, 108, 97, 116, 32] ++ (digS (t.l k)).data.toList ++ [32, 98, 117, 115, 121, 32] ++ (digS (t.b k)).data.toList ++ [10]
theorem textK_succ (t : Tab) (k : Nat) : textK t (k + 1) = textK t k ++ linL t k := by
  simp [textK, linL, joinL, lineX, Lib.join, List.intercalate, nameS, latS, busyS]
theorem textL_eq (t : Tab) : textL t = textK t 4 ++ [100, 101, 108, 97, 121, 32] ++ (digS t.d).data.toList ++ [10] := by
  simp [textL, joinL, Lib.join, List.intercalate, nameS, nameL]

set_option maxHeartbeats 1000000 in
theorem refText_yes (t : Tab) (w : World) (h : t.ok = true) :
    Calls Tryz.prog 8 #[t.val] w fun e w' => e = .returned (.tuple #[.string ⟨(textL t).toArray⟩, .int .i64 0]) ∧ Below w.heap.size w w' := by
  have hr : ckR t = 0 := by simp [ckR, h]
  have hc := refCheck_any t (w.alloc (.cells t.cells 24))
  rw [hr] at hc
  have hp := ok_parts h
  clear h
  unfold Tab.val at *
  have Hc : Hid _ := hc
  have Hp : Hid _ := hp
  clear hc hr hp
  go_enter Tryz.func8, Tryz.ntmps8
  go_wp2_with (first | (go_at_call 10; refine Calls.mono Hc.out ?_; rintro e w1 ⟨rfl, hb⟩))
  have hT : TabAt w1 w.heap.size t := (tabAt_new w t 24).below hb (by simp)
  have hb0 : Below w.heap.size w w1 := ((Below.refl _ _).alloc (Nat.le_refl _) _).trans (hb.mono (by simp))
  clear hb Hc
  go_loopw [5, 6] (fun s i wr => ∃ (k : Nat) (sb : ByteArray), k ≤ 4 ∧ i = .int .i64 k ∧ s = .string sb ∧ Hid (sb.data.toList = textK t k) ∧ Below w1.heap.size w1 wr) (fun _ i _ => 4 - (intOf i).toNat)
  case atStart => exact ⟨0, ⟨#[]⟩, by omega, rfl, rfl, (rfl : _ = _), Below.refl _ _⟩
  case round =>
    rename_i wr
    obtain ⟨k, sb, hk, rfl, rfl, Hsb, hbw⟩ := hrel
    have hTr := hT.below hbw hT.lt
    have hz0 : sb.size ≤ 124 := sz_of Hsb.out (Nat.le_trans (textK_len t k) (by omega))
    by_cases hlt : k < 4
    · have i1 : (0 : Int) ≤ (k : Int) := by omega
      have i2 : (k : Int) < 4 := by omega
      have hq := Hp.out.2 k hlt
      obtain ⟨p1, p2⟩ := inB_iff hq.1
      obtain ⟨p3, p4⟩ := inB_iff hq.2.1
      obtain ⟨p5, p6⟩ := inB_iff hq.2.2
      have cu : ∀ x : Wd (Below wr.heap.size wr), x.w.cell? ⟨w.heap.size, k, none⟩ = some (.int .i64 (t.u k)) := fun x => by rw [(bcell x.ok).1 _ _ hTr.lt]; exact hTr.cu k hlt
      have cl : ∀ x : Wd (Below wr.heap.size wr), x.w.cell? ⟨w.heap.size, 4 + k, none⟩ = some (.int .i64 (t.l k)) := fun x => by rw [(bcell x.ok).1 _ _ hTr.lt]; exact hTr.cl k hlt
      have cb : ∀ x : Wd (Below wr.heap.size wr), x.w.cell? ⟨w.heap.size, 8 + k, none⟩ = some (.int .i64 (t.b k)) := fun x => by rw [(bcell x.ok).1 _ _ hTr.lt]; exact hTr.cb k hlt
      haveI inst : Nonempty (Wd (Below wr.heap.size wr)) := ⟨⟨wr, Below.refl _ _⟩⟩
      obtain ⟨s1, l1, z1, e1⟩ := cat_rule sb (nameS k) 124 5 hz0 (nameS_size k) (by omega)
      obtain ⟨s2, l2, z2, e2⟩ := cat_rule s1 ⟨#[32]⟩ 129 1 z1 (by decide) (by omega)
      obtain ⟨s3, l3, z3, e3⟩ := cat_rule s2 (digS (t.u k)) 130 1 z2 (digS_size _) (by omega)
      obtain ⟨s4, l4, z4, e4⟩ := cat_rule s3 ⟨#[32, 108, 97, 116, 32]⟩ 131 5 z3 (by decide) (by omega)
      obtain ⟨s5, l5, z5, e5⟩ := cat_rule s4 (digS (t.l k)) 136 1 z4 (digS_size _) (by omega)
      obtain ⟨s6, l6, z6, e6⟩ := cat_rule s5 ⟨#[32, 98, 117, 115, 121, 32]⟩ 137 6 z5 (by decide) (by omega)
      obtain ⟨s7, l7, z7, e7⟩ := cat_rule s6 (digS (t.b k)) 143 1 z6 (digS_size _) (by omega)
      obtain ⟨s8, l8, z8, e8⟩ := cat_rule s7 ⟨#[10]⟩ 144 1 z7 (by decide) (by omega)
      have HF : Hid (s8.data.toList = textK t (k + 1)) := by
        have : s8.data.toList = textK t (k + 1) := by
          rw [textK_succ, l8, l7, l6, l5, l4, l3, l2, l1, Hsb.out]
          simp [linL, nameS]
        exact this
      clear l1 l2 l3 l4 l5 l6 l7 l8 z1 z2 z3 z4 z5 z6 z7 z8 hz0
      go_wp2
      refine wp_region_in (Below wr.heap.size wr) (by kernel_rfl) (by kernel_rfl) ((Below.refl _ _).drew) ?_
      repeat (first | go_big_quiet_step ((first | (go_at_call 20; exact calls_in (Nat.le_refl _) _ ((name_any _ _ hlt).mono fun _ _ h => ⟨h.1, h.2 ▸ Below.refl _ _⟩)) | (go_at_call 21; exact calls_in (Nat.le_refl _) _ (digit_any _ _ (by omega) (by omega))))))
      refine wpQuiet_nil ?_
      rintro _ ⟨x, rfl⟩
      have hx := x.ok
      go_wp2
      go_roundw
      case rel => exact ⟨k + 1, s8, by omega, by go_num, rfl, HF, hbw.trans (hx.mono hbw.size)⟩
      case measure => simp [intOf]; omega
    · obtain rfl : k = 4 := by omega
      have hd := hTr.cd
      obtain ⟨p1, p2⟩ := inB_iff Hp.out.1
      obtain ⟨s1, l1, z1, e1⟩ := cat_rule sb ⟨#[100, 101, 108, 97, 121, 32]⟩ 124 6 hz0 (by decide) (by omega)
      obtain ⟨s2, l2, z2, e2⟩ := cat_rule s1 (digS t.d) 130 1 z1 (digS_size _) (by omega)
      obtain ⟨s3, l3, z3, e3⟩ := cat_rule s2 ⟨#[10]⟩ 131 1 z2 (by decide) (by omega)
      have HF : Hid (s3.data.toList = textL t) := by
        have : s3.data.toList = textL t := by
          rw [textL_eq, l3, l2, l1, Hsb.out]
        exact this
      clear l1 l2 l3 z1 z2 z3 hz0
      go_wp2_with (first | (go_at_call 21; refine (digit_any _ _ (by omega) (by omega)).mono ?_; rintro e w2 ⟨rfl, hb2⟩))
      go_ret2
      have hs3 := ba_eq HF.out
      subst hs3
      exact ⟨rfl, hb0.trans ((hbw.trans (hb2.mono hbw.size)).mono hb0.size)⟩

end Go.Proofs.YtgabnjiapkkjaaaGreatDoor.Tb
